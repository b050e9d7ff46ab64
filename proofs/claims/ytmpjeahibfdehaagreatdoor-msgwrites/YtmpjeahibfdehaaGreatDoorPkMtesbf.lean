/-
  msg: the document's needs, Words and May of a mutation.
-/
import Derived.Test.YtmpjeahibfdehaaGreatDoorPkMtesbd
import Derived.Test.YtmpjeahibfdehaaGreatDoorPkMtesbc
import Derived.Test.YtmpjeahibfdehaaGreatDoorPkMtesae
import Derived.Test.YtmpjeahibfdehaaGreatDoorPkMtesbe
section
set_option linter.unusedVariables false
set_option maxRecDepth 1000000
namespace Go.Proofs.YtmpjeahibfdehaaGreatDoor
open Go.RowKit

def nN (k : Int) : Nat := if k = 4 then 2 else if k = 5 ∨ k = 6 ∨ k = 7 ∨ k = 8 ∨ k = 9 then 1 else 0
def tN (k : Int) : Nat := if k = 3 then 2 else if k = 1 ∨ k = 2 ∨ k = 5 ∨ k = 6 then 1 else 0
def rN (a : Nat) (n : List UInt8) : Bool := if a = 0 then decide (n = []) else if a = 1 then nmOk n else (nmOk n || decide (n = []))
def rT (b : Nat) (t : List UInt8) : Bool := if b = 0 then decide (t = []) else if b = 1 then wordB t else isSt t
theorem nm_rN (k : Int) (i n t : List UInt8) : nmMay ⟨k, i, n, t⟩ = rN (nN k) n := by
 unfold nmMay nN rN
 dsimp only
 by_cases h4 : k = 4
 ·by_cases hn : n = []
  ·simp [h4, hn]
  ·simp [h4, hn]
 ·by_cases h5 : k = 5 ∨ k = 6 ∨ k = 7 ∨ k = 8 ∨ k = 9
  ·rw [if_neg (fun e => h4 e.1), if_pos (.inr h5), if_neg h4, if_pos h5]; simp
  ·rw [if_neg (fun e => h4 e.1), if_neg (by omega), if_neg h4, if_neg h5]; simp
theorem tx_rT (k : Int) (i n t : List UInt8) : txMay ⟨k, i, n, t⟩ = rT (tN k) t := by
 unfold txMay tN rT
 dsimp only
 split
 ·simp
 ·split
  ·simp
  ·simp
set_option maxHeartbeats 4000000 in
theorem rneeds_any (k : Int) (w : World) :
  Calls Tryz.prog 116 #[.int .i64 k] w fun e w' => e = .returned (.tuple #[.int .i64 (nN k : Int), .int .i64 (tN k : Int)]) ∧ w' = w := by
 by_cases h1 : k = 1
 ·subst h1
  go_enter Tryz.func116, Tryz.ntmps116
  go_wp2_with fail
  go_ret2
  exact ⟨rfl, rfl⟩
 by_cases h2 : k = 2
 ·subst h2
  go_enter Tryz.func116, Tryz.ntmps116
  go_wp2_with fail
  go_ret2
  exact ⟨rfl, rfl⟩
 by_cases h3 : k = 3
 ·subst h3
  go_enter Tryz.func116, Tryz.ntmps116
  go_wp2_with fail
  go_ret2
  exact ⟨rfl, rfl⟩
 by_cases h4 : k = 4
 ·subst h4
  go_enter Tryz.func116, Tryz.ntmps116
  go_wp2_with fail
  go_ret2
  exact ⟨rfl, rfl⟩
 by_cases h5 : k = 5
 ·subst h5
  go_enter Tryz.func116, Tryz.ntmps116
  go_wp2_with fail
  go_ret2
  exact ⟨rfl, rfl⟩
 by_cases h6 : k = 6
 ·subst h6
  go_enter Tryz.func116, Tryz.ntmps116
  go_wp2_with fail
  go_ret2
  exact ⟨rfl, rfl⟩
 by_cases h7 : k = 7
 ·subst h7
  go_enter Tryz.func116, Tryz.ntmps116
  go_wp2_with fail
  go_ret2
  exact ⟨rfl, rfl⟩
 by_cases h8 : k = 8
 ·subst h8
  go_enter Tryz.func116, Tryz.ntmps116
  go_wp2_with fail
  go_ret2
  exact ⟨rfl, rfl⟩
 by_cases h9 : k = 9
 ·subst h9
  go_enter Tryz.func116, Tryz.ntmps116
  go_wp2_with fail
  go_ret2
  exact ⟨rfl, rfl⟩
 have HE : Hid ((nN k : Int) = 0 ∧ (tN k : Int) = 0) := by
  refine ⟨?_, ?_⟩
  ·unfold nN; rw [if_neg h4, if_neg (by omega)]; rfl
  ·unfold tN; rw [if_neg h3, if_neg (by omega)]; rfl
 have q1 : (k == 1) = false := by rw [beq_eq_false_iff_ne]; omega
 have q2 : (k == 2) = false := by rw [beq_eq_false_iff_ne]; omega
 have q3 : (k == 3) = false := by rw [beq_eq_false_iff_ne]; omega
 have q4 : (k == 4) = false := by rw [beq_eq_false_iff_ne]; omega
 have q5 : (k == 5) = false := by rw [beq_eq_false_iff_ne]; omega
 have q6 : (k == 6) = false := by rw [beq_eq_false_iff_ne]; omega
 have q7 : (k == 7) = false := by rw [beq_eq_false_iff_ne]; omega
 have q8 : (k == 8) = false := by rw [beq_eq_false_iff_ne]; omega
 have q9 : (k == 9) = false := by rw [beq_eq_false_iff_ne]; omega
 go_enter Tryz.func116, Tryz.ntmps116
 go_wp2_with fail
 go_ret2
 exact ⟨by rw [(uh HE).1, (uh HE).2]; try rfl, rfl⟩
theorem saysW : FirstSays := fun b off cap l w hr hne hle hl hcm => first_any b off cap l w hr hne hle hl hcm
set_option maxHeartbeats 4000000 in
theorem rwords_any (t : List UInt8) (w : World) :
  Calls Tryz.prog 117 #[.string (str t)] w fun e w' => e = .returned (.bool (wordB t)) ∧ Hid (Below w.heap.size w w') := by
 have hsz : (str t).size = t.length := str_size t
 by_cases h0 : t = []
 ·have HE : Hid (wordB t = false) := by show _ = _; unfold wordB; simp [h0]
  have hn0 : ¬ (1 : Int) ≤ (t.length : Int) := by rw [h0]; simp
  clear h0
  go_enter Tryz.func117, Tryz.ntmps117
  go_wp2_with fail
  go_ret
  exact ⟨by rw [uh HE]; try rfl, Below.refl _ _⟩
 have hp : 0 < t.length := by cases t with | nil => exact absurd rfl h0 | cons _ _ => simp
 have hn0 : (1 : Int) ≤ (t.length : Int) := by omega
 by_cases h5 : 512 < t.length
 ·have HE : Hid (wordB t = false) := by show _ = _; unfold wordB; rw [decide_eq_false (show ¬ t.length ≤ 512 by omega)]; simp
  have hn5 : ¬ (t.length : Int) ≤ (512 : Int) := by omega
  clear h0 h5 hp
  go_enter Tryz.func117, Tryz.ntmps117
  go_wp2_with fail
  go_ret
  exact ⟨by rw [uh HE]; try rfl, Below.refl _ _⟩
 have hn5 : (t.length : Int) ≤ (512 : Int) := by omega
 have HE : Hid (wordB t = decide (chr t = none)) := by show _ = _; unfold wordB; rw [decide_eq_true h0, decide_eq_true (show t.length ≤ 512 by omega)]; simp
 obtain ⟨V, c, hV, hbV, hBs⟩ := to_b4 t w (by omega)
 have HC := hide (rchars_any saysW (some ⟨w.heap.size, 0, none⟩) t.length c t V hBs rfl (by omega))
 have HB := hide hbV
 have HD : Hid (decide (chI t < 0) = decide (chr t = none)) := decide_eq_decide.2 (ch_neg t)
 obtain ⟨X, hX⟩ : ∃ X, X = chI t := ⟨_, rfl⟩
 rw [← hX] at HC HD
 clear hbV hBs hX h0 h5 hp
 go_enter Tryz.func117, Tryz.ntmps117
 go_wp2_with fail
 refine (uh HC).mono ?_
 rintro e w1 ⟨rfl, h1⟩
 have H1 : Hid (Below w.heap.size w w1) := (uh HB).trans (h1.mono (uh HB).size)
 clear h1 HC HB
 go_wp2_with fail
 go_ret
 refine ⟨?_, H1⟩
 rw [uh HE, ← uh HD]
 try rfl
set_option maxHeartbeats 32000000 in
theorem rmay11 (k : Int) (i n t : List UInt8) (w : World) (hi : i.length ≤ 9223372036854775807) (hn : n.length ≤ 9223372036854775807) :
  Calls Tryz.prog 83 #[.agg #[.int .i64 k, .string (str i), .string (str n), .string (str t)]] w fun e w' => e = .returned (.int .i64 (mayMu ⟨k, i, n, t⟩)) ∧ Hid (Below w.heap.size w w') := by
 obtain ⟨X, hX⟩ : ∃ X, X = w.heap.size := ⟨_, rfl⟩
 obtain ⟨W, hW⟩ : ∃ W, W = w.alloc (.cells #[.int .i64 k, .string (str i), .string (str n), .string (str t)] 26) := ⟨_, rfl⟩
 have bW : Below w.heap.size w W := by rw [hW]; exact bA _
 have rX : W.heap[X]? = some (.cells #[.int .i64 k, .string (str i), .string (str n), .string (str t)] 26 (0, 0)) := by rw [hW, hX]; exact heap_alloc_new _ _
 obtain ⟨p0, p1, p2, p3⟩ := cells4 rX
 have HBW := hide bW
 have HX := hide rX
 have HNI := hide (rname_any i W hi)
 have HNN := hide (rname_any n W hn)
 have HND := hide (rneeds_any k W)
 have HWD := hide (rwords_any t W)
 have e0 := str_empty n
 have e1 := str_empty t
 have s1 := str_is t [111, 112, 101, 110]
 have s2 := str_is t [99, 108, 111, 115, 101, 100]
 obtain ⟨R, hR⟩ : ∃ R, R = mayMu ⟨k, i, n, t⟩ := ⟨_, rfl⟩
 rw [← hR]
 unfold mayMu at hR
 rw [nm_rN, tx_rT] at hR
 dsimp only at hR
 have HR := hide hR
 clear hR bW rX hi hn
 by_cases hk1 : k < 1
 ·have HF : Hid (R = 0) := by show _ = _; rw [uh HR, if_pos (.inl hk1)]
  clear HR
  go_enter Tryz.func83, Tryz.ntmps83
  go_upto_region 1 with fail
  rw [← hW, ← hX]
  clear hW hX
  go_wp2_with fail
  go_ret
  exact ⟨by rw [uh HF]; try rfl, HBW⟩
 by_cases hk2 : 10 < k
 ·have HF : Hid (R = 0) := by show _ = _; rw [uh HR, if_pos (.inr hk2)]
  clear HR
  go_enter Tryz.func83, Tryz.ntmps83
  go_upto_region 1 with fail
  rw [← hW, ← hX]
  clear hW hX
  go_wp2_with fail
  go_ret
  exact ⟨by rw [uh HF]; try rfl, HBW⟩
 rw [if_neg (by omega)] at HR
 go_enter Tryz.func83, Tryz.ntmps83
 go_upto_region 1 with fail
 rw [← hW, ← hX]
 clear hW hX
 go_wp2_with fail
 refine (uh HNI).mono ?_
 rintro e w1 ⟨rfl, rfl⟩
 clear HNI
 cases hbi : nmOk i with
 | false =>
  have HF : Hid (R = 1) := by show _ = _; rw [uh HR, if_pos hbi]
  clear HR hbi
  go_wp2_with fail
  go_ret
  exact ⟨by rw [uh HF]; try rfl, HBW⟩
 | true =>
 have HR2 := hide (uh HR)
 rw [if_neg (by rw [hbi]; decide)] at HR2
 clear HR hbi hk1 hk2
 have hcomb : (nN k = 0 ∧ tN k = 1) ∨ (nN k = 0 ∧ tN k = 2) ∨ (nN k = 2 ∧ tN k = 0) ∨ (nN k = 1 ∧ tN k = 1) ∨ (nN k = 1 ∧ tN k = 0) ∨ (nN k = 0 ∧ tN k = 0) := by
  unfold nN tN
  by_cases h4 : k = 4
  ·subst h4; simp
  by_cases h3 : k = 3
  ·subst h3; simp
  rw [if_neg h4, if_neg h3]
  by_cases h5 : k = 5 ∨ k = 6
  ·rw [if_pos (by omega), if_pos (by omega)]; simp
  by_cases h7 : k = 7 ∨ k = 8 ∨ k = 9
  ·rw [if_pos (by omega), if_neg (by omega)]; simp
  rw [if_neg (by omega)]
  split <;> simp
 go_wp2_with fail
 refine (uh HND).mono ?_
 rintro e w1 ⟨rfl, rfl⟩
 clear HND
 go_wp2_with fail
 refine (uh HNN).mono ?_
 rintro e w1 ⟨rfl, rfl⟩
 clear HNN
 generalize hbn : nmOk n = bn
 have HBN := hide hbn
 clear hbn
 rcases hcomb with ⟨ha, hb⟩ | ⟨ha, hb⟩ | ⟨ha, hb⟩ | ⟨ha, hb⟩ | ⟨ha, hb⟩ | ⟨ha, hb⟩
 ·rw [ha, hb] at HR2 ⊢
  clear ha hb
  by_cases hn : n = []
  rotate_left 1
  ·rw [decide_eq_false hn] at e0
   have HF : Hid (R = 2) := by
    show _ = _
    rw [uh HR2]
    rw [if_pos (by unfold rN; simp [hn])]
   clear HR2 hn
   go_wp2_with fail
   go_ret
   exact ⟨by rw [uh HF]; try rfl, HBW⟩
  rw [decide_eq_true hn] at e0
  rw [if_neg (show ¬ rN 0 n = false by unfold rN; simp [hn])] at HR2
  clear hn
  go_wp2_with fail
  refine (uh HWD).mono ?_
  rintro e w1 ⟨rfl, h1⟩
  have HB1 : Hid (Below w.heap.size w w1) := (uh HBW).trans ((uh h1).mono (uh HBW).size)
  clear HWD h1
  cases hw : wordB t with
  | true =>
   have HF : Hid (R = -1) := by
    show _ = _
    rw [uh HR2]
    rw [if_neg (by unfold rT; simp [hw])]
   clear HR2 hw
   go_wp2_with fail
   go_ret
   exact ⟨by rw [uh HF]; try rfl, HB1⟩
  | false =>
   have HF : Hid (R = 3) := by
    show _ = _
    rw [uh HR2]
    rw [if_pos (by unfold rT; simp [hw])]
   clear HR2 hw
   go_wp2_with fail
   go_ret
   exact ⟨by rw [uh HF]; try rfl, HB1⟩
 ·rw [ha, hb] at HR2 ⊢
  clear ha hb
  by_cases hn : n = []
  rotate_left 1
  ·rw [decide_eq_false hn] at e0
   have HF : Hid (R = 2) := by
    show _ = _
    rw [uh HR2]
    rw [if_pos (by unfold rN; simp [hn])]
   clear HR2 hn
   go_wp2_with fail
   go_ret
   exact ⟨by rw [uh HF]; try rfl, HBW⟩
  rw [decide_eq_true hn] at e0
  rw [if_neg (show ¬ rN 0 n = false by unfold rN; simp [hn])] at HR2
  clear hn
  by_cases h1 : t = [111, 112, 101, 110]
  ·rw [decide_eq_true h1] at s1
   have s3 : ((str t).toList != [111, 112, 101, 110]) = false := by simp [bne, s1]
   have HF : Hid (R = -1) := by
    show _ = _
    rw [uh HR2]
    rw [if_neg (by unfold rT isSt stO stC; simp [h1])]
   clear HR2 h1
   go_wp2_with fail
   go_ret
   exact ⟨by rw [uh HF]; try rfl, HBW⟩
  rw [decide_eq_false h1] at s1
  have s3 : ((str t).toList != [111, 112, 101, 110]) = true := by simp [bne, s1]
  by_cases h2 : t = [99, 108, 111, 115, 101, 100]
  ·rw [decide_eq_true h2] at s2
   have s4 : ((str t).toList != [99, 108, 111, 115, 101, 100]) = false := by simp [bne, s2]
   have HF : Hid (R = -1) := by
    show _ = _
    rw [uh HR2]
    rw [if_neg (by unfold rT isSt stO stC; simp [h2])]
   clear HR2 h2
   go_wp2_with fail
   go_ret
   exact ⟨by rw [uh HF]; try rfl, HBW⟩
  rw [decide_eq_false h2] at s2
  have s4 : ((str t).toList != [99, 108, 111, 115, 101, 100]) = true := by simp [bne, s2]
  have HF : Hid (R = 3) := by
   show _ = _
   rw [uh HR2]
   rw [if_pos (by unfold rT isSt stO stC; simp [h1, h2])]
  clear HR2 h1 h2
  go_wp2_with fail
  go_ret
  exact ⟨by rw [uh HF]; try rfl, HBW⟩
 ·rw [ha, hb] at HR2 ⊢
  clear ha hb
  cases bn with
  | false =>
   by_cases hn : n = []
   rotate_left 1
   ·rw [decide_eq_false hn] at e0
    have HF : Hid (R = 2) := by
     show _ = _
     rw [uh HR2]
     rw [if_pos (by unfold rN; simp [uh HBN, hn])]
    clear HR2 hn
    go_wp2_with fail
    go_ret
    exact ⟨by rw [uh HF]; try rfl, HBW⟩
   rw [decide_eq_true hn] at e0
   rw [if_neg (show ¬ rN 2 n = false by unfold rN; simp [hn])] at HR2
   clear hn
   by_cases ht : t = []
   ·rw [decide_eq_true ht] at e1
    have HF : Hid (R = -1) := by
     show _ = _
     rw [uh HR2]
     rw [if_neg (by unfold rT; simp [ht])]
    clear HR2 ht
    go_wp2_with fail
    go_ret
    exact ⟨by rw [uh HF]; try rfl, HBW⟩
   ·rw [decide_eq_false ht] at e1
    have HF : Hid (R = 3) := by
     show _ = _
     rw [uh HR2]
     rw [if_pos (by unfold rT; simp [ht])]
    clear HR2 ht
    go_wp2_with fail
    go_ret
    exact ⟨by rw [uh HF]; try rfl, HBW⟩
  | true =>
   rw [if_neg (show ¬ rN 2 n = false by unfold rN; simp [uh HBN])] at HR2
   by_cases ht : t = []
   ·rw [decide_eq_true ht] at e1
    have HF : Hid (R = -1) := by
     show _ = _
     rw [uh HR2]
     rw [if_neg (by unfold rT; simp [ht])]
    clear HR2 ht
    go_wp2_with fail
    go_ret
    exact ⟨by rw [uh HF]; try rfl, HBW⟩
   ·rw [decide_eq_false ht] at e1
    have HF : Hid (R = 3) := by
     show _ = _
     rw [uh HR2]
     rw [if_pos (by unfold rT; simp [ht])]
    clear HR2 ht
    go_wp2_with fail
    go_ret
    exact ⟨by rw [uh HF]; try rfl, HBW⟩
 ·rw [ha, hb] at HR2 ⊢
  clear ha hb
  cases bn with
  | false =>
   have HF : Hid (R = 2) := by
    show _ = _
    rw [uh HR2]
    rw [if_pos (by unfold rN; simp [uh HBN])]
   clear HR2
   go_wp2_with fail
   go_ret
   exact ⟨by rw [uh HF]; try rfl, HBW⟩
  | true =>
   rw [if_neg (show ¬ rN 1 n = false by unfold rN; simp [uh HBN])] at HR2
   go_wp2_with fail
   refine (uh HWD).mono ?_
   rintro e w1 ⟨rfl, h1⟩
   have HB1 : Hid (Below w.heap.size w w1) := (uh HBW).trans ((uh h1).mono (uh HBW).size)
   clear HWD h1
   cases hw : wordB t with
   | true =>
    have HF : Hid (R = -1) := by
     show _ = _
     rw [uh HR2]
     rw [if_neg (by unfold rT; simp [hw])]
    clear HR2 hw
    go_wp2_with fail
    go_ret
    exact ⟨by rw [uh HF]; try rfl, HB1⟩
   | false =>
    have HF : Hid (R = 3) := by
     show _ = _
     rw [uh HR2]
     rw [if_pos (by unfold rT; simp [hw])]
    clear HR2 hw
    go_wp2_with fail
    go_ret
    exact ⟨by rw [uh HF]; try rfl, HB1⟩
 ·rw [ha, hb] at HR2 ⊢
  clear ha hb
  cases bn with
  | false =>
   have HF : Hid (R = 2) := by
    show _ = _
    rw [uh HR2]
    rw [if_pos (by unfold rN; simp [uh HBN])]
   clear HR2
   go_wp2_with fail
   go_ret
   exact ⟨by rw [uh HF]; try rfl, HBW⟩
  | true =>
   rw [if_neg (show ¬ rN 1 n = false by unfold rN; simp [uh HBN])] at HR2
   by_cases ht : t = []
   ·rw [decide_eq_true ht] at e1
    have HF : Hid (R = -1) := by
     show _ = _
     rw [uh HR2]
     rw [if_neg (by unfold rT; simp [ht])]
    clear HR2 ht
    go_wp2_with fail
    go_ret
    exact ⟨by rw [uh HF]; try rfl, HBW⟩
   ·rw [decide_eq_false ht] at e1
    have HF : Hid (R = 3) := by
     show _ = _
     rw [uh HR2]
     rw [if_pos (by unfold rT; simp [ht])]
    clear HR2 ht
    go_wp2_with fail
    go_ret
    exact ⟨by rw [uh HF]; try rfl, HBW⟩
 ·rw [ha, hb] at HR2 ⊢
  clear ha hb
  by_cases hn : n = []
  rotate_left 1
  ·rw [decide_eq_false hn] at e0
   have HF : Hid (R = 2) := by
    show _ = _
    rw [uh HR2]
    rw [if_pos (by unfold rN; simp [hn])]
   clear HR2 hn
   go_wp2_with fail
   go_ret
   exact ⟨by rw [uh HF]; try rfl, HBW⟩
  rw [decide_eq_true hn] at e0
  rw [if_neg (show ¬ rN 0 n = false by unfold rN; simp [hn])] at HR2
  clear hn
  by_cases ht : t = []
  ·rw [decide_eq_true ht] at e1
   have HF : Hid (R = -1) := by
    show _ = _
    rw [uh HR2]
    rw [if_neg (by unfold rT; simp [ht])]
   clear HR2 ht
   go_wp2_with fail
   go_ret
   exact ⟨by rw [uh HF]; try rfl, HBW⟩
  ·rw [decide_eq_false ht] at e1
   have HF : Hid (R = 3) := by
    show _ = _
    rw [uh HR2]
    rw [if_pos (by unfold rT; simp [ht])]
   clear HR2 ht
   go_wp2_with fail
   go_ret
   exact ⟨by rw [uh HF]; try rfl, HBW⟩
end Go.Proofs.YtmpjeahibfdehaaGreatDoor
end
