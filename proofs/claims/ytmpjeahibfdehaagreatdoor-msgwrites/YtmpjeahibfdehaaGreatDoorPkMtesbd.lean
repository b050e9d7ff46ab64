/-
  msg: mutations that may be: entry.IsStatus, IsWords; tracker.nameMay, textMay, May; msg.isVersion, mayBeTold.; msg: the lengths of a logged mutation's texts, as memory has them.
-/
import Derived.Test.YtmpjeahibfdehaaGreatDoorPkMtesbc
import Derived.Test.YtmpjeahibfdehaaGreatDoorPkMtesas
section
set_option linter.unusedVariables false
set_option maxRecDepth 1000000
namespace Go.Proofs.YtmpjeahibfdehaaGreatDoor
open Go.RowKit Go.Extern.Stop Go.Stop Go.Extern

/-- A mutation: its kind, its issue, a name, a text. -/
structure Mu where
 k : Int
 i : List UInt8
 n : List UInt8
 t : List UInt8
deriving DecidableEq
/-- A logged one. -/
structure Lg where
 c : List UInt8
 id : Int
 m : Mu
deriving DecidableEq
def muC (m : Mu) : List Value := [.int .i64 m.k, .string (str m.i), .string (str m.n), .string (str m.t)]
def lgV (x : Lg) : Value := .agg #[.string (str x.c), .int .i64 x.id, .int .i64 x.m.k, .string (str x.m.i), .string (str x.m.n), .string (str x.m.t)]
def stO : List UInt8 := [111, 112, 101, 110]
def stC : List UInt8 := [99, 108, 111, 115, 101, 100]
def isSt (t : List UInt8) : Bool := decide (t = stO) || decide (t = stC)
def wordB (t : List UInt8) : Bool := decide (t ≠ []) && decide (t.length ≤ 512) && decide (chr t = none)
def nmMay (m : Mu) : Bool := if m.k = 4 ∧ m.n = [] then true else if m.k = 4 ∨ m.k = 5 ∨ m.k = 6 ∨ m.k = 7 ∨ m.k = 8 ∨ m.k = 9 then nmOk m.n else decide (m.n = [])
def txMay (m : Mu) : Bool := if m.k = 3 then isSt m.t else if m.k = 1 ∨ m.k = 2 ∨ m.k = 5 ∨ m.k = 6 then wordB m.t else decide (m.t = [])
def mayMu (m : Mu) : Int := if m.k < 1 ∨ 10 < m.k then 0 else if nmOk m.i = false then 1 else if nmMay m = false then 2 else if txMay m = false then 3 else -1
def mayLg (x : Lg) : Bool := nmOk x.c && decide (1 ≤ x.id) && decide (mayMu x.m < 0)
def verB (n : Int) : Bool := decide (0 ≤ n) && decide (n ≤ 1099511627776)
theorem cells4 {u : World} {V : Nat} {x0 x1 x2 x3 : Value} {T : TypeId} {m : Nat × Nat} (h : u.heap[V]? = some (.cells #[x0, x1, x2, x3] T m)) : u.cell? ⟨V, 0, none⟩ = some x0 ∧ u.cell? ⟨V, 1, none⟩ = some x1 ∧ u.cell? ⟨V, 2, none⟩ = some x2 ∧ u.cell? ⟨V, 3, none⟩ = some x3 :=
 ⟨cR6 h, cR6 h, cR6 h, cR6 h⟩
theorem cells6 {u : World} {V : Nat} {x0 x1 x2 x3 x4 x5 : Value} {T : TypeId} {m : Nat × Nat} (h : u.heap[V]? = some (.cells #[x0, x1, x2, x3, x4, x5] T m)) : u.cell? ⟨V, 0, none⟩ = some x0 ∧ u.cell? ⟨V, 1, none⟩ = some x1 ∧ u.cell? ⟨V, 2, none⟩ = some x2 ∧ u.cell? ⟨V, 3, none⟩ = some x3 ∧ u.cell? ⟨V, 4, none⟩ = some x4 ∧ u.cell? ⟨V, 5, none⟩ = some x5 :=
 ⟨cR6 h, cR6 h, cR6 h, cR6 h, cR6 h, cR6 h⟩
theorem str_is (t s : List UInt8) : ((str t).toList == s) = decide (t = s) := by
 rw [toList_str, Bool.eq_iff_iff]; simp
theorem str_empty (t : List UInt8) : (str t).toList.isEmpty = decide (t = []) := by
 rw [toList_str, Bool.eq_iff_iff]; simp
set_option maxHeartbeats 2000000 in
theorem isStatus_any (t : List UInt8) (w : World) :
  Calls Tryz.prog 133 #[.string (str t)] w fun e w' => e = .returned (.bool (isSt t)) ∧ w' = w := by
 have e1 : ((str t).toList == [111, 112, 101, 110]) = decide (t = stO) := str_is t stO
 have e2 : ((str t).toList == [99, 108, 111, 115, 101, 100]) = decide (t = stC) := str_is t stC
 unfold isSt
 generalize decide (t = stC) = X2 at e2 ⊢
 cases hx : decide (t = stO) with
 | true =>
  rw [hx] at e1
  clear hx
  go_enter Tryz.func133, Tryz.ntmps133
  go_wp2_with fail
  go_ret
  exact ⟨rfl, rfl⟩
 | false =>
  rw [hx] at e1
  clear hx
  go_enter Tryz.func133, Tryz.ntmps133
  go_wp2_with fail
  go_ret
  exact ⟨by simp, rfl⟩
set_option maxHeartbeats 2000000 in
theorem isWords_any (t : List UInt8) (w : World) (hT : Tb4 w) :
  Calls Tryz.prog 134 #[.string (str t)] w fun e w' => e = .returned (.bool (wordB t)) ∧ Hid (Below w.heap.size w w') := by
 have hsz : (str t).size = t.length := str_size t
 obtain ⟨n, hn⟩ : ∃ n, n = t.length := ⟨_, rfl⟩
 by_cases h0 : t = []
 ·have HE : Hid (wordB t = false) := by show _ = _; unfold wordB; simp [h0]
  have hn0 : ¬ (0 : Int) < (t.length : Int) := by rw [h0]; simp
  clear h0 hT
  go_enter Tryz.func134, Tryz.ntmps134
  go_wp2_with fail
  go_ret
  exact ⟨by rw [uh HE]; try rfl, Below.refl _ _⟩
 have hp : 0 < t.length := by cases t with | nil => exact absurd rfl h0 | cons _ _ => simp
 have hn0 : (0 : Int) < (t.length : Int) := by omega
 by_cases h5 : 512 < t.length
 ·have HE : Hid (wordB t = false) := by show _ = _; unfold wordB; rw [decide_eq_false (show ¬ t.length ≤ 512 by omega)]; simp
  have hn5 : ¬ (t.length : Int) ≤ (512 : Int) := by omega
  clear h0 hT h5 hp
  go_enter Tryz.func134, Tryz.ntmps134
  go_wp2_with fail
  go_ret
  exact ⟨by rw [uh HE]; try rfl, Below.refl _ _⟩
 have hn5 : (t.length : Int) ≤ (512 : Int) := by omega
 have HE : Hid (wordB t = decide (chr t = none)) := by show _ = _; unfold wordB; rw [decide_eq_true h0, decide_eq_true (show t.length ≤ 512 by omega)]; simp
 obtain ⟨V, c, hV, hbV, hBs⟩ := to_b4 t w (by omega)
 have HC := hide (chars_any (some ⟨w.heap.size, 0, none⟩) t.length c t V (hT.below hbV) hBs rfl (by omega))
 have HB := hide hbV
 have HD : Hid (decide (chI t < 0) = decide (chr t = none)) := decide_eq_decide.2 (ch_neg t)
 obtain ⟨X, hX⟩ : ∃ X, X = chI t := ⟨_, rfl⟩
 rw [← hX] at HC HD
 clear hT hbV hBs hX h0 h5 hp
 go_enter Tryz.func134, Tryz.ntmps134
 go_wp2_with fail
 refine (uh HC).mono ?_
 rintro e w1 ⟨rfl, h1⟩
 have H1 : Hid (Below w.heap.size w w1) := (uh HB).trans (h1.mono (uh HB).size)
 clear h1 HC HB
 go_wp2_with fail
 go_ret
 refine ⟨?_, H1⟩
 rw [uh HE, ← uh HD]
 try rfl
set_option maxHeartbeats 2000000 in
theorem name_all (s : List UInt8) (w : World) :
  Calls Tryz.prog 53 #[.string (str s)] w fun e w' => e = .returned (.bool (nmOk s)) ∧ w' = w := by
 by_cases h1 : 24 < s.length
 ·have hsz : (str s).size = s.length := str_size s
  have HE : Hid (nmOk s = false) := by show _ = _; unfold nmOk; rw [decide_eq_false (show ¬ s.length ≤ 24 by omega)]; simp
  have hl0 : ¬ s.length = 0 := by omega
  have hl0' : ¬ (s.length : Int) = 0 := by omega
  have h1' : (24 : Int) < (s.length : Int) := by omega
  go_enter Tryz.func53, Tryz.ntmps53
  go_wp2
  go_ret
  exact ⟨by rw [HE.out]; rfl, rfl⟩
 ·exact name_any s w (by omega)
set_option maxHeartbeats 8000000 in
theorem nameMay_any (k : Int) (i n t : List UInt8) (w : World) :
  Calls Tryz.prog 96 #[.agg #[.int .i64 k, .string (str i), .string (str n), .string (str t)]] w fun e w' => e = .returned (.bool (nmMay ⟨k, i, n, t⟩)) ∧ Hid (Below w.heap.size w w') := by
 have HN : Hid (∀ u, Calls Tryz.prog 53 #[.string (str n)] u fun e w' => e = .returned (.bool (nmOk n)) ∧ w' = u) := fun u => name_all n u
 have HB : ∀ o, Hid (Below w.heap.size w (w.alloc o)) := fun o => hide ((Below.refl _ _).alloc (Nat.le_refl _) o)
 have e0 := str_empty n
 obtain ⟨R, hR⟩ : ∃ R, R = nmMay ⟨k, i, n, t⟩ := ⟨_, rfl⟩
 rw [← hR]
 unfold nmMay at hR
 dsimp only at hR
 by_cases h4 : k = 4
 ·have q4 : (k == 4) = true := by rw [beq_iff_eq]; exact h4
  by_cases hn : n = []
  ·have HE : Hid (R = true) := by show _ = _; rw [hR, if_pos ⟨h4, hn⟩]
   rw [decide_eq_true hn] at e0
   clear hR h4 hn HN
   go_enter Tryz.func96, Tryz.ntmps96
   go_wp2_with fail
   go_ret
   exact ⟨by rw [uh HE]; try rfl, HB _⟩
  have HE : Hid (R = nmOk n) := by show _ = _; rw [hR, if_neg (fun e => hn e.2), if_pos (.inl h4)]
  rw [decide_eq_false hn] at e0
  clear hR h4 hn
  go_enter Tryz.func96, Tryz.ntmps96
  go_wp2_with fail
  refine (uh HN _).mono ?_
  rintro e w1 ⟨rfl, rfl⟩
  go_wp2_with fail
  go_ret
  exact ⟨by rw [uh HE]; try rfl, HB _⟩
 by_cases h5 : k = 5
 ·have HE : Hid (R = nmOk n) := by show _ = _; rw [hR, if_neg (fun e => h4 e.1), if_pos (by omega)]
  have q4 : (k == 4) = false := by rw [beq_eq_false_iff_ne]; omega
  have q5 : (k == 5) = true := by rw [beq_iff_eq]; omega
  clear hR
  clear h5
  clear h4
  clear e0
  go_enter Tryz.func96, Tryz.ntmps96
  go_wp2_with fail
  refine (uh HN _).mono ?_
  rintro e w1 ⟨rfl, rfl⟩
  go_wp2_with fail
  go_ret
  exact ⟨by rw [uh HE]; try rfl, HB _⟩
 by_cases h6 : k = 6
 ·have HE : Hid (R = nmOk n) := by show _ = _; rw [hR, if_neg (fun e => h4 e.1), if_pos (by omega)]
  have q4 : (k == 4) = false := by rw [beq_eq_false_iff_ne]; omega
  have q5 : (k == 5) = false := by rw [beq_eq_false_iff_ne]; omega
  have q6 : (k == 6) = true := by rw [beq_iff_eq]; omega
  clear hR
  clear h6
  clear h5
  clear h4
  clear e0
  go_enter Tryz.func96, Tryz.ntmps96
  go_wp2_with fail
  refine (uh HN _).mono ?_
  rintro e w1 ⟨rfl, rfl⟩
  go_wp2_with fail
  go_ret
  exact ⟨by rw [uh HE]; try rfl, HB _⟩
 by_cases h7 : k = 7
 ·have HE : Hid (R = nmOk n) := by show _ = _; rw [hR, if_neg (fun e => h4 e.1), if_pos (by omega)]
  have q4 : (k == 4) = false := by rw [beq_eq_false_iff_ne]; omega
  have q5 : (k == 5) = false := by rw [beq_eq_false_iff_ne]; omega
  have q6 : (k == 6) = false := by rw [beq_eq_false_iff_ne]; omega
  have q7 : (k == 7) = true := by rw [beq_iff_eq]; omega
  clear hR
  clear h7
  clear h6
  clear h5
  clear h4
  clear e0
  go_enter Tryz.func96, Tryz.ntmps96
  go_wp2_with fail
  refine (uh HN _).mono ?_
  rintro e w1 ⟨rfl, rfl⟩
  go_wp2_with fail
  go_ret
  exact ⟨by rw [uh HE]; try rfl, HB _⟩
 by_cases h8 : k = 8
 ·have HE : Hid (R = nmOk n) := by show _ = _; rw [hR, if_neg (fun e => h4 e.1), if_pos (by omega)]
  have q4 : (k == 4) = false := by rw [beq_eq_false_iff_ne]; omega
  have q5 : (k == 5) = false := by rw [beq_eq_false_iff_ne]; omega
  have q6 : (k == 6) = false := by rw [beq_eq_false_iff_ne]; omega
  have q7 : (k == 7) = false := by rw [beq_eq_false_iff_ne]; omega
  have q8 : (k == 8) = true := by rw [beq_iff_eq]; omega
  clear hR
  clear h8
  clear h7
  clear h6
  clear h5
  clear h4
  clear e0
  go_enter Tryz.func96, Tryz.ntmps96
  go_wp2_with fail
  refine (uh HN _).mono ?_
  rintro e w1 ⟨rfl, rfl⟩
  go_wp2_with fail
  go_ret
  exact ⟨by rw [uh HE]; try rfl, HB _⟩
 by_cases h9 : k = 9
 ·have HE : Hid (R = nmOk n) := by show _ = _; rw [hR, if_neg (fun e => h4 e.1), if_pos (by omega)]
  have q4 : (k == 4) = false := by rw [beq_eq_false_iff_ne]; omega
  have q5 : (k == 5) = false := by rw [beq_eq_false_iff_ne]; omega
  have q6 : (k == 6) = false := by rw [beq_eq_false_iff_ne]; omega
  have q7 : (k == 7) = false := by rw [beq_eq_false_iff_ne]; omega
  have q8 : (k == 8) = false := by rw [beq_eq_false_iff_ne]; omega
  have q9 : (k == 9) = true := by rw [beq_iff_eq]; omega
  clear hR
  clear h9
  clear h8
  clear h7
  clear h6
  clear h5
  clear h4
  clear e0
  go_enter Tryz.func96, Tryz.ntmps96
  go_wp2_with fail
  refine (uh HN _).mono ?_
  rintro e w1 ⟨rfl, rfl⟩
  go_wp2_with fail
  go_ret
  exact ⟨by rw [uh HE]; try rfl, HB _⟩
 have q4 : (k == 4) = false := by rw [beq_eq_false_iff_ne]; omega
 have q5 : (k == 5) = false := by rw [beq_eq_false_iff_ne]; omega
 have q6 : (k == 6) = false := by rw [beq_eq_false_iff_ne]; omega
 have q7 : (k == 7) = false := by rw [beq_eq_false_iff_ne]; omega
 have q8 : (k == 8) = false := by rw [beq_eq_false_iff_ne]; omega
 have q9 : (k == 9) = false := by rw [beq_eq_false_iff_ne]; omega
 have HE : Hid (R = decide (n = [])) := by show _ = _; rw [hR, if_neg (fun e => h4 e.1), if_neg (by omega)]
 generalize decide (n = []) = X at e0 HE
 clear hR h4 h5 h6 h7 h8 h9 HN
 go_enter Tryz.func96, Tryz.ntmps96
 go_wp2_with fail
 go_ret
 exact ⟨by rw [uh HE]; try rfl, HB _⟩
set_option maxHeartbeats 8000000 in
theorem textMay_any (k : Int) (i n t : List UInt8) (w : World) (hT : Tb4 w) :
  Calls Tryz.prog 97 #[.agg #[.int .i64 k, .string (str i), .string (str n), .string (str t)]] w fun e w' => e = .returned (.bool (txMay ⟨k, i, n, t⟩)) ∧ Hid (Below w.heap.size w w') := by
 have HN : Hid (∀ u, Calls Tryz.prog 133 #[.string (str t)] u fun e w' => e = .returned (.bool (isSt t)) ∧ w' = u) := fun u => isStatus_any t u
 have HW : Hid (∀ u, Below w.heap.size w u → Calls Tryz.prog 134 #[.string (str t)] u fun e w' => e = .returned (.bool (wordB t)) ∧ Hid (Below u.heap.size u w')) := fun u hb => isWords_any t u (hT.below hb)
 have HB : ∀ o, Hid (Below w.heap.size w (w.alloc o)) := fun o => hide ((Below.refl _ _).alloc (Nat.le_refl _) o)
 have e0 := str_empty t
 obtain ⟨R, hR⟩ : ∃ R, R = txMay ⟨k, i, n, t⟩ := ⟨_, rfl⟩
 rw [← hR]
 unfold txMay at hR
 dsimp only at hR
 clear hT
 by_cases h3 : k = 3
 ·have q3 : (k == 3) = true := by rw [beq_iff_eq]; exact h3
  have HE : Hid (R = isSt t) := by show _ = _; rw [hR, if_pos h3]
  clear hR h3 e0
  go_enter Tryz.func97, Tryz.ntmps97
  go_wp2_with fail
  refine (uh HN _).mono ?_
  rintro e w1 ⟨rfl, rfl⟩
  go_wp2_with fail
  go_ret
  exact ⟨by rw [uh HE]; try rfl, HB _⟩
 by_cases h1 : k = 1
 ·have HE : Hid (R = wordB t) := by show _ = _; rw [hR, if_neg h3, if_pos (by omega)]
  have q3 : (k == 3) = false := by rw [beq_eq_false_iff_ne]; omega
  have q1 : (k == 1) = true := by rw [beq_iff_eq]; omega
  clear hR
  clear h1 h3
  clear e0
  go_enter Tryz.func97, Tryz.ntmps97
  go_wp2_with fail
  refine (uh HW _ (uh (HB _))).mono ?_
  rintro e w1 ⟨rfl, h1⟩
  have HB1 : Hid (Below w.heap.size w w1) := (uh (HB _)).trans ((uh h1).mono (uh (HB _)).size)
  clear h1
  go_wp2_with fail
  go_ret
  exact ⟨by rw [uh HE]; try rfl, HB1⟩
 by_cases h2 : k = 2
 ·have HE : Hid (R = wordB t) := by show _ = _; rw [hR, if_neg h3, if_pos (by omega)]
  have q3 : (k == 3) = false := by rw [beq_eq_false_iff_ne]; omega
  have q1 : (k == 1) = false := by rw [beq_eq_false_iff_ne]; omega
  have q2 : (k == 2) = true := by rw [beq_iff_eq]; omega
  clear hR
  clear h2 h3 h1
  clear e0
  go_enter Tryz.func97, Tryz.ntmps97
  go_wp2_with fail
  refine (uh HW _ (uh (HB _))).mono ?_
  rintro e w1 ⟨rfl, h1⟩
  have HB1 : Hid (Below w.heap.size w w1) := (uh (HB _)).trans ((uh h1).mono (uh (HB _)).size)
  clear h1
  go_wp2_with fail
  go_ret
  exact ⟨by rw [uh HE]; try rfl, HB1⟩
 by_cases h5 : k = 5
 ·have HE : Hid (R = wordB t) := by show _ = _; rw [hR, if_neg h3, if_pos (by omega)]
  have q3 : (k == 3) = false := by rw [beq_eq_false_iff_ne]; omega
  have q1 : (k == 1) = false := by rw [beq_eq_false_iff_ne]; omega
  have q2 : (k == 2) = false := by rw [beq_eq_false_iff_ne]; omega
  have q5 : (k == 5) = true := by rw [beq_iff_eq]; omega
  clear hR
  clear h5 h3 h1 h2
  clear e0
  go_enter Tryz.func97, Tryz.ntmps97
  go_wp2_with fail
  refine (uh HW _ (uh (HB _))).mono ?_
  rintro e w1 ⟨rfl, h1⟩
  have HB1 : Hid (Below w.heap.size w w1) := (uh (HB _)).trans ((uh h1).mono (uh (HB _)).size)
  clear h1
  go_wp2_with fail
  go_ret
  exact ⟨by rw [uh HE]; try rfl, HB1⟩
 by_cases h6 : k = 6
 ·have HE : Hid (R = wordB t) := by show _ = _; rw [hR, if_neg h3, if_pos (by omega)]
  have q3 : (k == 3) = false := by rw [beq_eq_false_iff_ne]; omega
  have q1 : (k == 1) = false := by rw [beq_eq_false_iff_ne]; omega
  have q2 : (k == 2) = false := by rw [beq_eq_false_iff_ne]; omega
  have q5 : (k == 5) = false := by rw [beq_eq_false_iff_ne]; omega
  have q6 : (k == 6) = true := by rw [beq_iff_eq]; omega
  clear hR
  clear h6 h3 h1 h2 h5
  clear e0
  go_enter Tryz.func97, Tryz.ntmps97
  go_wp2_with fail
  refine (uh HW _ (uh (HB _))).mono ?_
  rintro e w1 ⟨rfl, h1⟩
  have HB1 : Hid (Below w.heap.size w w1) := (uh (HB _)).trans ((uh h1).mono (uh (HB _)).size)
  clear h1
  go_wp2_with fail
  go_ret
  exact ⟨by rw [uh HE]; try rfl, HB1⟩
 have q3 : (k == 3) = false := by rw [beq_eq_false_iff_ne]; omega
 have q1 : (k == 1) = false := by rw [beq_eq_false_iff_ne]; omega
 have q2 : (k == 2) = false := by rw [beq_eq_false_iff_ne]; omega
 have q5 : (k == 5) = false := by rw [beq_eq_false_iff_ne]; omega
 have q6 : (k == 6) = false := by rw [beq_eq_false_iff_ne]; omega
 have HE : Hid (R = decide (t = [])) := by show _ = _; rw [hR, if_neg h3, if_neg (by omega)]
 generalize decide (t = []) = X at e0 HE
 clear hR h3 h1 h2 h5 h6 HN HW
 go_enter Tryz.func97, Tryz.ntmps97
 go_wp2_with fail
 go_ret
 exact ⟨by rw [uh HE]; try rfl, HB _⟩
set_option maxHeartbeats 8000000 in
theorem may_any (k : Int) (i n t : List UInt8) (w : World) (hT : Tb4 w) :
  Calls Tryz.prog 68 #[.agg #[.int .i64 k, .string (str i), .string (str n), .string (str t)]] w fun e w' => e = .returned (.int .i64 (mayMu ⟨k, i, n, t⟩)) ∧ Hid (Below w.heap.size w w') := by
 obtain ⟨B, hB⟩ : ∃ B, B = w.heap.size := ⟨_, rfl⟩
 obtain ⟨W, hW⟩ : ∃ W, W = w.alloc (.cells #[.int .i64 k, .string (str i), .string (str n), .string (str t)] 26) := ⟨_, rfl⟩
 have bW : Below w.heap.size w W := by rw [hW]; exact bA _
 have rW : W.heap[B]? = some (.cells #[.int .i64 k, .string (str i), .string (str n), .string (str t)] 26 (0, 0)) := by rw [hW, hB]; exact heap_alloc_new _ _
 have HI : Hid (∀ u, Calls Tryz.prog 53 #[.string (str i)] u fun e w' => e = .returned (.bool (nmOk i)) ∧ w' = u) := fun u => name_all i u
 have HN := hide (nameMay_any k i n t W)
 have HX : Hid (∀ u, Below w.heap.size w u → Calls Tryz.prog 97 #[.agg #[.int .i64 k, .string (str i), .string (str n), .string (str t)]] u fun e w' => e = .returned (.bool (txMay ⟨k, i, n, t⟩)) ∧ Hid (Below u.heap.size u w')) := fun u hb => textMay_any k i n t u (hT.below hb)
 obtain ⟨R, hR⟩ : ∃ R, R = mayMu ⟨k, i, n, t⟩ := ⟨_, rfl⟩
 rw [← hR]
 unfold mayMu at hR
 dsimp only at hR
 generalize nmMay ⟨k, i, n, t⟩ = XN at HN hR
 generalize txMay ⟨k, i, n, t⟩ = XT at HX hR
 generalize nmOk i = XI at HI hR
 obtain ⟨c0, c1, c2, c3⟩ := cells4 rW
 have HBW := hide bW
 have HRW := hide rW
 clear hT bW rW
 by_cases hk1 : k < 1
 ·have HE : Hid (R = 0) := by show _ = _; rw [hR, if_pos (.inl hk1)]
  clear hR HI HN HX
  go_enter Tryz.func68, Tryz.ntmps68
  go_upto_region 1 with fail
  rw [← hW, ← hB]
  clear hW hB
  go_wp2_with fail
  go_ret
  exact ⟨by rw [uh HE]; try rfl, HBW⟩
 by_cases hk2 : 10 < k
 ·have HE : Hid (R = 0) := by show _ = _; rw [hR, if_pos (.inr hk2)]
  clear hR HI HN HX
  go_enter Tryz.func68, Tryz.ntmps68
  go_upto_region 1 with fail
  rw [← hW, ← hB]
  clear hW hB
  go_wp2_with fail
  go_ret
  exact ⟨by rw [uh HE]; try rfl, HBW⟩
 rw [if_neg (by omega)] at hR
 go_enter Tryz.func68, Tryz.ntmps68
 go_upto_region 1 with fail
 rw [← hW, ← hB]
 clear hW hB
 go_wp2_with fail
 refine (uh HI _).mono ?_
 rintro e w1 ⟨rfl, rfl⟩
 clear HI
 cases XI with
 | false =>
  have HE : Hid (R = 1) := by show _ = _; rw [hR, if_pos rfl]
  clear hR HN HX
  go_wp2_with fail
  go_ret
  exact ⟨by rw [uh HE]; try rfl, HBW⟩
 | true =>
  rw [if_neg (by decide)] at hR
  go_wp2_with fail
  refine (uh HN).mono ?_
  rintro e w2 ⟨rfl, h2⟩
  have HB2 : Hid (Below w.heap.size w w2) := (uh HBW).trans ((uh h2).mono (uh HBW).size)
  have r2 := ((uh h2).block B (aI (uh HRW)).1).trans (uh HRW)
  clear HN c0 c1 c2 c3 h2
  obtain ⟨c0, c1, c2, c3⟩ := cells4 r2
  clear r2 HRW
  cases XN with
  | false =>
   have HE : Hid (R = 2) := by show _ = _; rw [hR, if_pos rfl]
   clear hR HX
   go_wp2_with fail
   go_ret
   exact ⟨by rw [uh HE]; try rfl, HB2⟩
  | true =>
   rw [if_neg (by decide)] at hR
   have HXX := hide (uh HX w2 (uh HB2))
   clear HX
   go_wp2_with fail
   refine (uh HXX).mono ?_
   rintro e w3 ⟨rfl, h3⟩
   have HB3 : Hid (Below w.heap.size w w3) := (uh HB2).trans ((uh h3).mono (uh HB2).size)
   clear HXX h3 c0 c1 c2 c3
   cases XT with
   | false =>
    have HE : Hid (R = 3) := by show _ = _; rw [hR, if_pos rfl]
    clear hR
    go_wp2_with fail
    go_ret
    exact ⟨by rw [uh HE]; try rfl, HB3⟩
   | true =>
    have HE : Hid (R = -1) := by show _ = _; rw [hR, if_neg (by decide)]
    clear hR
    go_wp2_with fail
    go_ret
    exact ⟨by rw [uh HE]; try rfl, HB3⟩
set_option maxHeartbeats 2000000 in
theorem isVersion_any (n : Int) (w : World) :
  Calls Tryz.prog 52 #[.int .i64 n] w fun e w' => e = .returned (.bool (verB n)) ∧ w' = w := by
 unfold verB
 by_cases h0 : 0 ≤ n
 ·rw [decide_eq_true h0]
  go_enter Tryz.func52, Tryz.ntmps52
  go_wp2_with fail
  go_ret
  exact ⟨by simp, rfl⟩
 ·rw [decide_eq_false h0]
  go_enter Tryz.func52, Tryz.ntmps52
  go_wp2_with fail
  go_ret
  exact ⟨by simp, rfl⟩
set_option maxHeartbeats 8000000 in
theorem told_any (x : Lg) (w : World) (hT : Tb4 w) :
  Calls Tryz.prog 29 #[lgV x] w fun e w' => e = .returned (.bool (mayLg x)) ∧ Hid (Below w.heap.size w w') := by
 obtain ⟨c, id, k, i, n, t⟩ := x
 unfold lgV
 obtain ⟨B, hB⟩ : ∃ B, B = w.heap.size := ⟨_, rfl⟩
 obtain ⟨W, hW⟩ : ∃ W, W = w.alloc (.cells #[.string (str c), .int .i64 id, .int .i64 k, .string (str i), .string (str n), .string (str t)] 28) := ⟨_, rfl⟩
 have bW : Below w.heap.size w W := by rw [hW]; exact bA _
 have rW : W.heap[B]? = some (.cells #[.string (str c), .int .i64 id, .int .i64 k, .string (str i), .string (str n), .string (str t)] 28 (0, 0)) := by rw [hW, hB]; exact heap_alloc_new _ _
 have HI : Hid (∀ u, Calls Tryz.prog 53 #[.string (str c)] u fun e w' => e = .returned (.bool (nmOk c)) ∧ w' = u) := fun u => name_all c u
 have HM := hide (may_any k i n t W (hT.below bW))
 obtain ⟨R, hR⟩ : ∃ R, R = mayLg ⟨c, id, k, i, n, t⟩ := ⟨_, rfl⟩
 rw [← hR]
 unfold mayLg at hR
 dsimp only at hR
 generalize mayMu ⟨k, i, n, t⟩ = XM at HM hR
 generalize nmOk c = XI at HI hR
 obtain ⟨c0, c1, c2, c3, c4, c5⟩ := cells6 rW
 have HBW := hide bW
 clear hT bW rW
 go_enter Tryz.func29, Tryz.ntmps29
 go_upto_region 1 with fail
 rw [← hW, ← hB]
 clear hW hB
 go_wp2_with fail
 refine (uh HI _).mono ?_
 rintro e w1 ⟨rfl, rfl⟩
 clear HI
 cases XI with
 | false =>
  have HE : Hid (R = false) := by show _ = _; rw [hR]; rfl
  clear hR HM
  go_wp2_with fail
  go_ret
  exact ⟨by rw [uh HE]; try rfl, HBW⟩
 | true =>
  by_cases h1 : 1 ≤ id
  ·have HE : Hid (R = decide (XM < 0)) := by show _ = _; rw [hR, decide_eq_true h1]; simp
   clear hR
   go_wp2_with fail
   refine (uh HM).mono ?_
   rintro e w2 ⟨rfl, h2⟩
   have HB2 : Hid (Below w.heap.size w w2) := (uh HBW).trans ((uh h2).mono (uh HBW).size)
   clear HM h2
   go_wp2_with fail
   go_ret
   exact ⟨by rw [uh HE]; try rfl, HB2⟩
  ·have HE : Hid (R = false) := by show _ = _; rw [hR, decide_eq_false h1]; simp
   clear hR HM
   go_wp2_with fail
   go_ret
   exact ⟨by rw [uh HE]; try rfl, HBW⟩
end Go.Proofs.YtmpjeahibfdehaaGreatDoor
end
section
namespace Go.Proofs.YtmpjeahibfdehaaGreatDoor

/-- Texts are such as memory has. -/
def LgL (x : Lg) : Prop := x.c.length ≤ 9223372036854775807 ∧ x.m.i.length ≤ 9223372036854775807 ∧ x.m.n.length ≤ 9223372036854775807
end Go.Proofs.YtmpjeahibfdehaaGreatDoor
end
