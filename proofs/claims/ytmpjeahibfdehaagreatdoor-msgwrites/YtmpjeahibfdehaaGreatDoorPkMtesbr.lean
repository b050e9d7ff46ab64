/-
  msg: the document's quote, digits, mutation, Put, joined.; msg: the document's joined.; msg: the texts of messages, by kinds.
-/
import Derived.Test.YtmpjeahibfdehaaGreatDoorPkMtesbl
import Derived.Test.YtmpjeahibfdehaaGreatDoorPkMtesbq
import Derived.Test.YtmpjeahibfdehaaGreatDoorPkMtesbk
import Derived.Deep.RegionHeld3
import Derived.Test.YtmpjeahibfdehaaGreatDoorPkMtesah
section
set_option linter.unusedVariables false
set_option maxRecDepth 1000000
namespace Go.Proofs.YtmpjeahibfdehaaGreatDoor
open Go.RowKit

theorem add_stp (a b : List UInt8) (n k : Nat) (ha : Hid (a.length ≤ n)) (hb : Hid (b.length ≤ 1000000)) (hk : n + 1000000 ≤ k) (hm : k ≤ 140737488355328) : ∃ A, A = a ++ b ∧ Hid (A.length ≤ k) ∧ ∀ w, (Op.stringOp .add (str a) (str b)).run Tryz.prog w = .ok (.string (str A)) w := by
 have h1 := uh ha
 have h2 := uh hb
 refine ⟨_, rfl, ?_, fun w => ?_⟩
 ·show _ ≤ _
  rw [List.length_append]
  omega
 ·rw [← str_appJ a b]
  exact run_string_add_sum w _ _ (by rw [str_size, str_size]; omega)
theorem rq13 (s : List UInt8) (w : World) (hs : s.length ≤ 100000) :
  Calls Tryz.prog 37 #[.string (str s)] w fun e w' => e = .returned (.string (str (quo s))) ∧ Hid (Below w.heap.size w w') := by
 have HQ := hide (rquote_any s w (by omega))
 go_enter Tryz.func37, Tryz.ntmps37
 go_wp2_with fail
 refine (uh HQ).mono ?_
 rintro e w1 ⟨rfl, h1⟩
 clear HQ
 go_wp2_with fail
 go_ret
 exact ⟨rfl, h1⟩
theorem rd13 (n : Int) (w : World) (h : -9223372036854775808 ≤ n ∧ n ≤ 9223372036854775807) :
  Calls Tryz.prog 38 #[.int .i64 n] w fun e w' => e = .returned (.string (str (Lib.itoa n))) ∧ Hid (Below w.heap.size w w') := by
 have HQ := hide (rdigits_any n h.1 h.2 w)
 go_enter Tryz.func38, Tryz.ntmps38
 go_wp2_with fail
 refine (uh HQ).mono ?_
 rintro e w1 ⟨rfl, h1⟩
 clear HQ
 go_wp2_with fail
 go_ret
 exact ⟨rfl, h1⟩
/-- The text of a mutation. -/
def mtT (x : Mu) : List UInt8 := (((((((([123, 34, 105, 115, 115, 117, 101, 34, 58] ++ quo x.i) ++ [44, 34, 107, 105, 110, 100, 34, 58]) ++ Lib.itoa x.k) ++ [44, 34, 110, 97, 109, 101, 34, 58]) ++ quo x.n) ++ [44, 34, 116, 101, 120, 116, 34, 58]) ++ quo x.t) ++ [125])
theorem quo_lit : quo [105, 115, 115, 117, 101] = [34, 105, 115, 115, 117, 101, 34] ∧ quo [107, 105, 110, 100] = [34, 107, 105, 110, 100, 34] ∧ quo [110, 97, 109, 101] = [34, 110, 97, 109, 101, 34] ∧ quo [116, 101, 120, 116] = [34, 116, 101, 120, 116, 34] ∧ quo [99, 108, 105, 101, 110, 116] = [34, 99, 108, 105, 101, 110, 116, 34] ∧ quo [105, 100] = [34, 105, 100, 34] ∧ quo [109] = [34, 109, 34] := ⟨by kernel_rfl, by kernel_rfl, by kernel_rfl, by kernel_rfl, by kernel_rfl, by kernel_rfl, by kernel_rfl⟩
theorem pr_txt (n : Nat) (t : List UInt8) : prN n (.mk 3 0 t [] []) = quo t := by cases n <;> rfl
theorem pr_num (n : Nat) (z : Int) : prN n (.mk 2 z [] [] []) = Lib.itoa z := by cases n <;> rfl
theorem mt_pr (n : Nat) (x : Mu) : prN (n + 1) (muJ x) = mtT x := by
 show prF (prN n) (.mk 5 0 [] _ _) = _
 obtain ⟨q1, q2, q3, q4, _⟩ := quo_lit
 rw [pr5, show ordS [[107, 105, 110, 100], [105, 115, 115, 117, 101], [110, 97, 109, 101], [116, 101, 120, 116]] = [1, 0, 2, 3] by kernel_rfl]
 simp only [List.map_cons, List.map_nil, memP, nmA, List.getD_cons_zero, List.getD_cons_succ, q1, q2, q3, q4, pr_txt, pr_num, joF, mtT]
 simp
set_option maxHeartbeats 16000000 in
theorem rmut_any (k : Int) (i n t : List UInt8) (w : World) (hk : -9223372036854775808 ≤ k ∧ k ≤ 9223372036854775807) (hi : i.length ≤ 100000) (hn : n.length ≤ 100000) (ht : t.length ≤ 100000) :
  Calls Tryz.prog 39 #[.agg #[.int .i64 k, .string (str i), .string (str n), .string (str t)]] w fun e w' => e = .returned (.string (str (mtT ⟨k, i, n, t⟩))) ∧ Hid (Below w.heap.size w w') := by
 obtain ⟨X, hX⟩ : ∃ X, X = w.heap.size := ⟨_, rfl⟩
 obtain ⟨W, hW⟩ : ∃ W, W = w.alloc (.cells #[.int .i64 k, .string (str i), .string (str n), .string (str t)] 26) := ⟨_, rfl⟩
 have bW : Below w.heap.size w W := by rw [hW]; exact bA _
 have rX : W.heap[X]? = some (.cells #[.int .i64 k, .string (str i), .string (str n), .string (str t)] 26 (0, 0)) := by rw [hW, hX]; exact heap_alloc_new _ _
 have HBW := hide bW
 have HX := hide rX
 have HQI : Hid (∀ u, Calls Tryz.prog 37 #[.string (str i)] u fun e w' => e = .returned (.string (str (quo i))) ∧ Hid (Below u.heap.size u w')) := fun u => rq13 i u hi
 have HQN : Hid (∀ u, Calls Tryz.prog 37 #[.string (str n)] u fun e w' => e = .returned (.string (str (quo n))) ∧ Hid (Below u.heap.size u w')) := fun u => rq13 n u hn
 have HQT : Hid (∀ u, Calls Tryz.prog 37 #[.string (str t)] u fun e w' => e = .returned (.string (str (quo t))) ∧ Hid (Below u.heap.size u w')) := fun u => rq13 t u ht
 have HDK : Hid (∀ u, Calls Tryz.prog 38 #[.int .i64 k] u fun e w' => e = .returned (.string (str (Lib.itoa k))) ∧ Hid (Below u.heap.size u w')) := fun u => rd13 k u hk
 have LQI : Hid ((quo i).length ≤ 1000000) := by show _ ≤ _; have := q6_le i; omega
 have LQN : Hid ((quo n).length ≤ 1000000) := by show _ ≤ _; have := q6_le n; omega
 have LQT : Hid ((quo t).length ≤ 1000000) := by show _ ≤ _; have := q6_le t; omega
 have LDK : Hid ((Lib.itoa k).length ≤ 1000000) := by show _ ≤ _; have := Lib.itoa_length_le k hk.1 hk.2; omega
 obtain ⟨R, hR⟩ : ∃ R, R = mtT ⟨k, i, n, t⟩ := ⟨_, rfl⟩
 rw [← hR]
 unfold mtT at hR
 dsimp only at hR
 generalize quo i = QI at HQI LQI hR
 generalize quo n = QN at HQN LQN hR
 generalize quo t = QT at HQT LQT hR
 generalize Lib.itoa k = DK at HDK LDK hR
 obtain ⟨A1, hA1, LA1, kA1⟩ : ∃ A, A = [123, 34, 105, 115, 115, 117, 101, 34, 58] ++ QI ∧ Hid (A.length ≤ 2000000) ∧ ∀ w, (Op.stringOp .add (⟨#[123, 34, 105, 115, 115, 117, 101, 34, 58]⟩ : ByteArray) (str QI)).run Tryz.prog w = .ok (.string (str A)) w := add_stp [123, 34, 105, 115, 115, 117, 101, 34, 58] QI 1000000 2000000 (by show _ ≤ _; decide) LQI (by decide) (by decide)
 obtain ⟨A2, hA2, LA2, kA2⟩ : ∃ A, A = A1 ++ [44, 34, 107, 105, 110, 100, 34, 58] ∧ Hid (A.length ≤ 3000000) ∧ ∀ w, (Op.stringOp .add (str A1) (⟨#[44, 34, 107, 105, 110, 100, 34, 58]⟩ : ByteArray)).run Tryz.prog w = .ok (.string (str A)) w := add_stp A1 [44, 34, 107, 105, 110, 100, 34, 58] 2000000 3000000 LA1 (by show _ ≤ _; decide) (by decide) (by decide)
 obtain ⟨A3, hA3, LA3, kA3⟩ : ∃ A, A = A2 ++ DK ∧ Hid (A.length ≤ 4000000) ∧ ∀ w, (Op.stringOp .add (str A2) (str DK)).run Tryz.prog w = .ok (.string (str A)) w := add_stp A2 DK 3000000 4000000 LA2 LDK (by decide) (by decide)
 obtain ⟨A4, hA4, LA4, kA4⟩ : ∃ A, A = A3 ++ [44, 34, 110, 97, 109, 101, 34, 58] ∧ Hid (A.length ≤ 5000000) ∧ ∀ w, (Op.stringOp .add (str A3) (⟨#[44, 34, 110, 97, 109, 101, 34, 58]⟩ : ByteArray)).run Tryz.prog w = .ok (.string (str A)) w := add_stp A3 [44, 34, 110, 97, 109, 101, 34, 58] 4000000 5000000 LA3 (by show _ ≤ _; decide) (by decide) (by decide)
 obtain ⟨A5, hA5, LA5, kA5⟩ : ∃ A, A = A4 ++ QN ∧ Hid (A.length ≤ 6000000) ∧ ∀ w, (Op.stringOp .add (str A4) (str QN)).run Tryz.prog w = .ok (.string (str A)) w := add_stp A4 QN 5000000 6000000 LA4 LQN (by decide) (by decide)
 obtain ⟨A6, hA6, LA6, kA6⟩ : ∃ A, A = A5 ++ [44, 34, 116, 101, 120, 116, 34, 58] ∧ Hid (A.length ≤ 7000000) ∧ ∀ w, (Op.stringOp .add (str A5) (⟨#[44, 34, 116, 101, 120, 116, 34, 58]⟩ : ByteArray)).run Tryz.prog w = .ok (.string (str A)) w := add_stp A5 [44, 34, 116, 101, 120, 116, 34, 58] 6000000 7000000 LA5 (by show _ ≤ _; decide) (by decide) (by decide)
 obtain ⟨A7, hA7, LA7, kA7⟩ : ∃ A, A = A6 ++ QT ∧ Hid (A.length ≤ 8000000) ∧ ∀ w, (Op.stringOp .add (str A6) (str QT)).run Tryz.prog w = .ok (.string (str A)) w := add_stp A6 QT 7000000 8000000 LA6 LQT (by decide) (by decide)
 obtain ⟨A8, hA8, LA8, kA8⟩ : ∃ A, A = A7 ++ [125] ∧ Hid (A.length ≤ 9000000) ∧ ∀ w, (Op.stringOp .add (str A7) (⟨#[125]⟩ : ByteArray)).run Tryz.prog w = .ok (.string (str A)) w := add_stp A7 [125] 8000000 9000000 LA7 (by show _ ≤ _; decide) (by decide) (by decide)
 have HR : Hid (R = A8) := by show _ = _; rw [hR, hA8, hA7, hA6, hA5, hA4, hA3, hA2, hA1]
 clear hR hA1 LA1 hA2 LA2 hA3 LA3 hA4 LA4 hA5 LA5 hA6 LA6 hA7 LA7 hA8 LA8 bW rX hk hi hn ht
 go_enter Tryz.func39, Tryz.ntmps39
 have HS0 : Hid (∀ u, Below W.heap.size W u → (u.cell? ⟨X, 1, none⟩ = some (.string (str i)) ∧ u.cell? ⟨X, 0, none⟩ = some (.int .i64 k) ∧ u.cell? ⟨X, 2, none⟩ = some (.string (str n)) ∧ u.cell? ⟨X, 3, none⟩ = some (.string (str t)))) := fun u hb => by
  have r_X := (hb.block X (aI (uh HX)).1).trans (uh HX)
  exact ⟨(cR6 r_X), (cR6 r_X), (cR6 r_X), (cR6 r_X)⟩
 have HTR : Hid (∀ u u', Hid (Below W.heap.size W u) → Hid (Below u.heap.size u u') → Hid (Below W.heap.size W u')) := fun u u' h h1 => (uh h).trans ((uh h1).mono (uh h).size)
 have B0 : Hid (Below W.heap.size W W.drew) := Below.drew (Below.refl _ _)
 have s0 := uh HS0 W.drew (uh B0)
 have tok0 := True.intro
 go_upto_region 1 with fail
 rw [← hW, ← hX]
 clear hW hX
 go_region_held3 (fun w' => w'.cell? ⟨X, 1, none⟩ = some (.string (str i)) ∧ w'.cell? ⟨X, 0, none⟩ = some (.int .i64 k) ∧ w'.cell? ⟨X, 2, none⟩ = some (.string (str n)) ∧ w'.cell? ⟨X, 3, none⟩ = some (.string (str t))) (first | with_reducible exact s1 | with_reducible exact s0) ((first
  | (go_at_call 37; have tk := tok3; refine (uh HQT _).mono ?_; rintro e u1 ⟨rfl, h1⟩; have B1 := uh HTR _ _ ‹Hid (Below W.heap.size W _)› h1; have s1 := uh HS0 _ (uh B1); have tok4 := True.intro)
  | (go_at_call 37; have tk := tok2; refine (uh HQN _).mono ?_; rintro e u1 ⟨rfl, h1⟩; have B1 := uh HTR _ _ ‹Hid (Below W.heap.size W _)› h1; have s1 := uh HS0 _ (uh B1); have tok3 := True.intro)
  | (go_at_call 38; have tk := tok1; refine (uh HDK _).mono ?_; rintro e u1 ⟨rfl, h1⟩; have B1 := uh HTR _ _ ‹Hid (Below W.heap.size W _)› h1; have s1 := uh HS0 _ (uh B1); have tok2 := True.intro)
  | (go_at_call 37; have tk := tok0; refine (uh HQI _).mono ?_; rintro e u1 ⟨rfl, h1⟩; have B1 := uh HTR _ _ ‹Hid (Below W.heap.size W _)› h1; have s1 := uh HS0 _ (uh B1); have tok1 := True.intro)))
 go_wp2_with fail
 go_ret
 exact ⟨by rw [uh HR]; try rfl, (uh HBW).trans ((uh B1).mono (uh HBW).size)⟩
/-- The text of a logged mutation. -/
def lgT (x : Lg) : List UInt8 := (((((([123, 34, 99, 108, 105, 101, 110, 116, 34, 58] ++ quo x.c) ++ [44, 34, 105, 100, 34, 58]) ++ Lib.itoa x.id) ++ [44, 34, 109, 34, 58]) ++ mtT x.m) ++ [125])
theorem lg_pr (n : Nat) (x : Lg) : prN (n + 2) (lgJ x) = lgT x := by
 show prF (prN (n + 1)) (.mk 5 0 [] _ _) = _
 obtain ⟨_, _, _, _, q5, q6, q7⟩ := quo_lit
 rw [pr5, show ordS [[99, 108, 105, 101, 110, 116], [105, 100], [109]] = [0, 1, 2] by kernel_rfl]
 simp only [List.map_cons, List.map_nil, memP, nmA, List.getD_cons_zero, List.getD_cons_succ, q5, q6, q7, pr_txt, pr_num, mt_pr, joF, lgT]
 simp
theorem mtT_len {x : Lg} (hz : LgZ x) (h : mayLg x = true) : (mtT x.m).length ≤ 1000000 := by
 obtain ⟨h1, h2, h3, h4⟩ := may_len h
 have := mu_le 0 x.m hz.2.1 h2 h3 h4
 rw [mt_pr] at this
 omega
def ptT (x : Lg) : List UInt8 × Nat := if mayLg x then (lgT x, 0) else ([], 130)
set_option maxHeartbeats 16000000 in
theorem rput_any (x : Lg) (w : World) (hi : LiZ x) (hL : LgL x) :
  Calls Tryz.prog 19 #[lgV x] w fun e w' => e = .returned (.tuple #[.string (str (ptT x).1), .int .i64 ((ptT x).2 : Nat)]) ∧ Hid (Below w.heap.size w w') := by
 have hz := lz_of hi
 have HMY : Hid (∀ u, Calls Tryz.prog 36 #[lgV x] u fun e w' => e = .returned (.bool (mayLg x)) ∧ Hid (Below u.heap.size u w')) := fun u => rmay13 x u hL
 unfold lgV at HMY ⊢
 obtain ⟨X, hX⟩ : ∃ X, X = w.heap.size := ⟨_, rfl⟩
 obtain ⟨W, hW⟩ : ∃ W, W = w.alloc (.cells #[.string (str x.c), .int .i64 x.id, .int .i64 x.m.k, .string (str x.m.i), .string (str x.m.n), .string (str x.m.t)] 28) := ⟨_, rfl⟩
 have bW : Below w.heap.size w W := by rw [hW]; exact bA _
 have rX : W.heap[X]? = some (.cells #[.string (str x.c), .int .i64 x.id, .int .i64 x.m.k, .string (str x.m.i), .string (str x.m.n), .string (str x.m.t)] 28 (0, 0)) := by rw [hW, hX]; exact heap_alloc_new _ _
 have HBW := hide bW
 have HX := hide rX
 obtain ⟨R, hR⟩ : ∃ R, R = ptT x := ⟨_, rfl⟩
 rw [← hR]
 unfold ptT at hR
 obtain ⟨p0, p1, p2, p3, p4, p5⟩ := cells6 rX
 have HMW := hide (uh HMY W)
 have HMZ := hide hz
 have HMV := hide (may_len (x := x))
 have HML := hide (mtT_len (x := x))
 clear HMY bW rX hL hz
 go_enter Tryz.func19, Tryz.ntmps19
 go_upto_region 1 with fail
 rw [← hW, ← hX]
 clear hW hX
 go_wp2_with fail
 refine (uh HMW).mono ?_
 rintro e w1 ⟨rfl, h1⟩
 have HB1 : Hid (Below W.heap.size W w1) := h1
 clear HMW h1 p0 p1 p2 p3 p4 p5
 cases hm : mayLg x with
 | false =>
  have HR : Hid (R = ([], 130)) := by show _ = _; rw [hR, hm]; simp
  clear hR hm HMZ HMV HML
  go_wp2_with fail
  go_ret2
  exact ⟨by rw [uh HR]; try rfl, (uh HBW).trans ((uh HB1).mono (uh HBW).size)⟩
 | true =>
  rw [hm, if_pos rfl] at hR
  have z := uh HMZ hm
  obtain ⟨m1, m2, m3, m4⟩ := uh HMV hm
  have m5 := uh HML z hm
  have HX1 := hide (((uh HB1).block X (aI (uh HX)).1).trans (uh HX))
  have HQC : Hid (∀ u, Calls Tryz.prog 37 #[.string (str x.c)] u fun e w' => e = .returned (.string (str (quo x.c))) ∧ Hid (Below u.heap.size u w')) := fun u => rq13 x.c u (by omega)
  have HDI : Hid (∀ u, Calls Tryz.prog 38 #[.int .i64 x.id] u fun e w' => e = .returned (.string (str (Lib.itoa x.id))) ∧ Hid (Below u.heap.size u w')) := fun u => rd13 x.id u z.1
  have HMT : Hid (∀ u, Calls Tryz.prog 39 #[.agg #[.int .i64 x.m.k, .string (str x.m.i), .string (str x.m.n), .string (str x.m.t)]] u fun e w' => e = .returned (.string (str (mtT x.m))) ∧ Hid (Below u.heap.size u w')) := fun u => rmut_any x.m.k x.m.i x.m.n x.m.t u z.2.1 (by omega) (by omega) (by omega)
  have LQC : Hid ((quo x.c).length ≤ 1000000) := by show _ ≤ _; have := q6_le x.c; omega
  have LDI : Hid ((Lib.itoa x.id).length ≤ 1000000) := by show _ ≤ _; have := Lib.itoa_length_le x.id z.1.1 z.1.2; omega
  have LMT : Hid ((mtT x.m).length ≤ 1000000) := m5
  unfold lgT at hR
  generalize quo x.c = QC at HQC LQC hR
  generalize Lib.itoa x.id = DI at HDI LDI hR
  generalize mtT x.m = MT at HMT LMT hR
  obtain ⟨A1, hA1, LA1, kA1⟩ : ∃ A, A = [123, 34, 99, 108, 105, 101, 110, 116, 34, 58] ++ QC ∧ Hid (A.length ≤ 2000000) ∧ ∀ w, (Op.stringOp .add (⟨#[123, 34, 99, 108, 105, 101, 110, 116, 34, 58]⟩ : ByteArray) (str QC)).run Tryz.prog w = .ok (.string (str A)) w := add_stp [123, 34, 99, 108, 105, 101, 110, 116, 34, 58] QC 1000000 2000000 (by show _ ≤ _; decide) LQC (by decide) (by decide)
  obtain ⟨A2, hA2, LA2, kA2⟩ : ∃ A, A = A1 ++ [44, 34, 105, 100, 34, 58] ∧ Hid (A.length ≤ 3000000) ∧ ∀ w, (Op.stringOp .add (str A1) (⟨#[44, 34, 105, 100, 34, 58]⟩ : ByteArray)).run Tryz.prog w = .ok (.string (str A)) w := add_stp A1 [44, 34, 105, 100, 34, 58] 2000000 3000000 LA1 (by show _ ≤ _; decide) (by decide) (by decide)
  obtain ⟨A3, hA3, LA3, kA3⟩ : ∃ A, A = A2 ++ DI ∧ Hid (A.length ≤ 4000000) ∧ ∀ w, (Op.stringOp .add (str A2) (str DI)).run Tryz.prog w = .ok (.string (str A)) w := add_stp A2 DI 3000000 4000000 LA2 LDI (by decide) (by decide)
  obtain ⟨A4, hA4, LA4, kA4⟩ : ∃ A, A = A3 ++ [44, 34, 109, 34, 58] ∧ Hid (A.length ≤ 5000000) ∧ ∀ w, (Op.stringOp .add (str A3) (⟨#[44, 34, 109, 34, 58]⟩ : ByteArray)).run Tryz.prog w = .ok (.string (str A)) w := add_stp A3 [44, 34, 109, 34, 58] 4000000 5000000 LA3 (by show _ ≤ _; decide) (by decide) (by decide)
  obtain ⟨A5, hA5, LA5, kA5⟩ : ∃ A, A = A4 ++ MT ∧ Hid (A.length ≤ 6000000) ∧ ∀ w, (Op.stringOp .add (str A4) (str MT)).run Tryz.prog w = .ok (.string (str A)) w := add_stp A4 MT 5000000 6000000 LA4 LMT (by decide) (by decide)
  obtain ⟨A6, hA6, LA6, kA6⟩ : ∃ A, A = A5 ++ [125] ∧ Hid (A.length ≤ 7000000) ∧ ∀ w, (Op.stringOp .add (str A5) (⟨#[125]⟩ : ByteArray)).run Tryz.prog w = .ok (.string (str A)) w := add_stp A5 [125] 6000000 7000000 LA5 (by show _ ≤ _; decide) (by decide) (by decide)
  have HR : Hid (R = (A6, 0)) := by show _ = _; rw [hR, hA6, hA5, hA4, hA3, hA2, hA1]
  clear hR hA1 LA1 hA2 LA2 hA3 LA3 hA4 LA4 hA5 LA5 hA6 LA6 hm z m1 m2 m3 m4 m5 HMZ HMV HML hi
  have HS0 : Hid (∀ u, Below w1.heap.size w1 u → (u.cell? ⟨X, 0, none⟩ = some (.string (str x.c)) ∧ u.cell? ⟨X, 1, none⟩ = some (.int .i64 x.id) ∧ u.cell? ⟨X, 2, none⟩ = some (.int .i64 x.m.k) ∧ u.cell? ⟨X, 3, none⟩ = some (.string (str x.m.i)) ∧ u.cell? ⟨X, 4, none⟩ = some (.string (str x.m.n)) ∧ u.cell? ⟨X, 5, none⟩ = some (.string (str x.m.t)))) := fun u hb => by
   have r_X := (hb.block X (aI (uh HX1)).1).trans (uh HX1)
   exact ⟨(cR6 r_X), (cR6 r_X), (cR6 r_X), (cR6 r_X), (cR6 r_X), (cR6 r_X)⟩
  have HTR : Hid (∀ u u', Hid (Below w1.heap.size w1 u) → Hid (Below u.heap.size u u') → Hid (Below w1.heap.size w1 u')) := fun u u' h h1 => (uh h).trans ((uh h1).mono (uh h).size)
  have B0 : Hid (Below w1.heap.size w1 w1.drew) := Below.drew (Below.refl _ _)
  have s0 := uh HS0 w1.drew (uh B0)
  have tok0 := True.intro
  go_upto_region 3 with fail
  go_region_held3 (fun w' => w'.cell? ⟨X, 0, none⟩ = some (.string (str x.c)) ∧ w'.cell? ⟨X, 1, none⟩ = some (.int .i64 x.id) ∧ w'.cell? ⟨X, 2, none⟩ = some (.int .i64 x.m.k) ∧ w'.cell? ⟨X, 3, none⟩ = some (.string (str x.m.i)) ∧ w'.cell? ⟨X, 4, none⟩ = some (.string (str x.m.n)) ∧ w'.cell? ⟨X, 5, none⟩ = some (.string (str x.m.t))) (first | with_reducible exact s1 | with_reducible exact s0) ((first
   | (go_at_call 39; have tk := tok2; refine (uh HMT _).mono ?_; rintro e u1 ⟨rfl, h1⟩; have B1 := uh HTR _ _ ‹Hid (Below w1.heap.size w1 _)› h1; have s1 := uh HS0 _ (uh B1); have tok3 := True.intro)
   | (go_at_call 38; have tk := tok1; refine (uh HDI _).mono ?_; rintro e u1 ⟨rfl, h1⟩; have B1 := uh HTR _ _ ‹Hid (Below w1.heap.size w1 _)› h1; have s1 := uh HS0 _ (uh B1); have tok2 := True.intro)
   | (go_at_call 37; have tk := tok0; refine (uh HQC _).mono ?_; rintro e u1 ⟨rfl, h1⟩; have B1 := uh HTR _ _ ‹Hid (Below w1.heap.size w1 _)› h1; have s1 := uh HS0 _ (uh B1); have tok1 := True.intro)))
  go_wp2_with fail
  go_ret2
  exact ⟨by rw [uh HR]; try rfl, (uh HBW).trans (((uh HB1).trans ((uh B1).mono (uh HB1).size)).mono (uh HBW).size)⟩
end Go.Proofs.YtmpjeahibfdehaaGreatDoor
end
section
set_option linter.unusedVariables false
set_option maxRecDepth 1000000
namespace Go.Proofs.YtmpjeahibfdehaaGreatDoor
open Go.RowKit

set_option maxHeartbeats 8000000 in
theorem rjoin_any (S : Nat → Prop) (a : Option Addr) (n c : Nat) (l : List (List UInt8)) (w : World) (h : NsF w S a l) (hS : ∀ k, S k → k < w.heap.size) (hn : n = l.length) (hn9 : n ≤ 1000) (hj : (joF true l).length ≤ 1000000) :
  Calls Tryz.prog 43 #[.slice a n c] w fun e w' => e = .returned (.string (str (joF true l))) ∧ Hid (Below w.heap.size w w') := by
 have HL := hide h
 have HS := hide hS
 have HN := hide hn
 have HJ := hide hj
 clear h hS hn hj
 go_enter Tryz.func43, Tryz.ntmps43
 go_wp2_with fail
 go_loopw [3, 8] (fun vs v wr => ∃ (q : Nat) (s : List UInt8), q ≤ n ∧ vs = .string (str s) ∧ v = .int .i64 (q : Int) ∧ Hid (s = joF true (l.take q)) ∧ Hid (Below w.heap.size w wr)) (fun _ v _ => n - (intOf v).toNat)
 case atStart => exact ⟨0, [], Nat.zero_le _, rfl, rfl, by show _ = _; simp [joF], Below.refl _ _⟩
 case round =>
  obtain ⟨q, s, hq, rfl, rfl, HQ, HB⟩ := hrel
  by_cases hlt : q < n
  ·have hlt' : (q : Int) < (n : Int) := by omega
   obtain ⟨x, hx⟩ : ∃ x, l[q]? = some x := ⟨_, List.getElem?_eq_getElem (by have := uh HN; omega)⟩
   obtain ⟨b, off, rfl, hbl, hc⟩ := (uh HL) (fun e => by rw [e] at hx; simp at hx)
   have g0 := cell_keep ((uh HB).block b (uh HS b hbl)) (hc q x hx)
   have hst := joF_take l q x hx
   have hle := joF_le l (q + 1)
   rw [← uh HQ] at hst
   by_cases hq0 : q = 0
   ·have q0 : ¬ (0 : Int) < (q : Int) := by omega
    rw [if_pos hq0, List.append_nil] at hst
    have e1 : ∀ w, (Op.stringOp .add (str s) (str x)).run Tryz.prog w = .ok (.string (str (s ++ x))) w := fun w => by
     rw [← str_appJ s x]
     exact run_string_add_sum w _ _ (by rw [str_size, str_size]; rw [hst, List.length_append] at hle; have := uh HJ; omega)
    obtain ⟨s2, hs2⟩ : ∃ s2, s2 = s ++ x := ⟨_, rfl⟩
    rw [← hs2] at e1 hst
    have HQ2 : Hid (s2 = joF true (l.take (q + 1))) := hst.symm
    clear hx hbl hc hst hle HQ hq0 hs2
    go_wp2_with fail
    go_round
    case rel => exact ⟨q + 1, s2, by omega, rfl, by go_num, HQ2, HB⟩
    case measure => simp [intOf]; omega
   ·have q0 : (0 : Int) < (q : Int) := by omega
    rw [if_neg hq0] at hst
    have e0 : ∀ w, (Op.stringOp .add (str s) (⟨#[44]⟩ : ByteArray)).run Tryz.prog w = .ok (.string (str (s ++ [44]))) w := fun w => by
     rw [← str_appJ s [44]]
     exact run_string_add_sum w _ _ (by rw [str_size]; show _ + 1 ≤ _; rw [hst, List.length_append, List.length_append] at hle; have := uh HJ; omega)
    have e1 : ∀ w, (Op.stringOp .add (str (s ++ [44])) (str x)).run Tryz.prog w = .ok (.string (str (s ++ [44] ++ x))) w := fun w => by
     rw [← str_appJ (s ++ [44]) x]
     exact run_string_add_sum w _ _ (by rw [str_size, str_size]; rw [hst, List.length_append] at hle; have := uh HJ; omega)
    obtain ⟨s2, hs2⟩ : ∃ s2, s2 = s ++ [44] ++ x := ⟨_, rfl⟩
    rw [← hs2] at e1 hst
    obtain ⟨s1, hs1⟩ : ∃ s1, s1 = s ++ [44] := ⟨_, rfl⟩
    rw [← hs1] at e0 e1
    have HQ2 : Hid (s2 = joF true (l.take (q + 1))) := hst.symm
    clear hx hbl hc hst hle HQ hq0 hs2 hs1
    go_wp2_with fail
    go_round
    case rel => exact ⟨q + 1, s2, by omega, rfl, by go_num, HQ2, HB⟩
    case measure => simp [intOf]; omega
  ·have hlt' : ¬ (q : Int) < (n : Int) := by omega
   obtain rfl : q = n := by omega
   have HD : Hid (joF true l = s) := by
    show _ = _
    have e := uh HQ
    rw [uh HN, List.take_length] at e
    exact e.symm
   clear HQ HL
   go_wp2_with fail
   go_ret
   exact ⟨by rw [uh HD]; try rfl, HB⟩
end Go.Proofs.YtmpjeahibfdehaaGreatDoor
end
section
set_option linter.unusedVariables false
set_option maxRecDepth 1000000
namespace Go.Proofs.YtmpjeahibfdehaaGreatDoor
open Go.RowKit

def nuT (x : Lg) : List UInt8 := (((([123, 34, 105, 100, 34, 58] ++ Lib.itoa x.id) ++ [44, 34, 109, 34, 58]) ++ mtT x.m) ++ [125])
def elT (k : Int) (x : Lg) : List UInt8 := if k = 1 then nuT x else lgT x
theorem nu_pr (n : Nat) (x : Lg) : prN (n + 2) (nuJ x) = nuT x := by
 show prF (prN (n + 1)) (.mk 5 0 [] _ _) = _
 obtain ⟨_, _, _, _, _, q6, q7⟩ := quo_lit
 rw [pr5, show ordS [[105, 100], [109]] = [0, 1] by kernel_rfl]
 simp only [List.map_cons, List.map_nil, memP, nmA, List.getD_cons_zero, List.getD_cons_succ, q6, q7, pr_num, mt_pr, joF, nuT]
 simp
theorem may_all {m : Mg} (h : mayBeM m = true) : m.l.length ≤ 8 ∧ (∀ x ∈ m.l, mayLg x = true) ∧ m.c.length ≤ 24 := by
 unfold mayBeM at h
 have nil : m.l.length = 0 → ∀ x ∈ m.l, mayLg x = true := fun e x hx => by rw [List.length_eq_zero_iff.1 e] at hx; cases hx
 split at h
 ·simp only [Bool.and_eq_true] at h
  obtain ⟨h1, h2, h3⟩ := push_len h.2
  exact ⟨h1, h3, h2⟩
 split at h
 ·simp only [Bool.and_eq_true, decide_eq_true_eq] at h
  exact ⟨by omega, nil h.1.1.2, by rw [h.1.1.1.1.1]; simp⟩
 split at h
 ·simp only [Bool.and_eq_true, decide_eq_true_eq] at h
  exact ⟨by omega, nil h.1.1.2, (nm_len h.1.2).1⟩
 split at h
 ·simp only [Bool.and_eq_true, decide_eq_true_eq] at h
  obtain ⟨h1, h3⟩ := patch_len h.2
  exact ⟨h1, h3, by rw [h.1]; simp⟩
 split at h
 ·simp only [Bool.and_eq_true, decide_eq_true_eq] at h
  exact ⟨by omega, nil h.1.2, by rw [h.1.1.1.1.1]; simp⟩
 ·cases h
theorem wr_is {m : Mg} (hi : MiZ m) (h : mayBeM m = true) : wrM m = (prN 16 (vlJ m), 0) ∧ (prN 16 (vlJ m)).length ≤ 32768 := by
 obtain ⟨hck, _⟩ := vl_back m h
 have hl := vl_le m (mz_of hi h) h
 refine ⟨?_, hl⟩
 unfold wrM prM
 rw [if_pos h, if_neg (by rw [hck]; simp), if_neg (by omega)]
theorem quo_lit2 : quo [116, 121, 112, 101] = [34, 116, 121, 112, 101, 34] ∧ quo [108, 105, 115, 116] = [34, 108, 105, 115, 116, 34] ∧ quo [108, 97, 115, 116] = [34, 108, 97, 115, 116, 34] ∧ quo [116, 111, 112] = [34, 116, 111, 112, 34] ∧ quo [99, 111, 111, 107, 105, 101] = [34, 99, 111, 111, 107, 105, 101, 34] ∧ quo [102, 114, 111, 109] = [34, 102, 114, 111, 109, 34] ∧ quo [112, 117, 115, 104] = [34, 112, 117, 115, 104, 34] ∧ quo [112, 117, 115, 104, 101, 100] = [34, 112, 117, 115, 104, 101, 100, 34] ∧ quo [112, 117, 108, 108] = [34, 112, 117, 108, 108, 34] ∧ quo [112, 97, 116, 99, 104] = [34, 112, 97, 116, 99, 104, 34] ∧ quo [112, 111, 107, 101] = [34, 112, 111, 107, 101, 34] := ⟨by kernel_rfl, by kernel_rfl, by kernel_rfl, by kernel_rfl, by kernel_rfl, by kernel_rfl, by kernel_rfl, by kernel_rfl, by kernel_rfl, by kernel_rfl, by kernel_rfl⟩
theorem el_len {m : Mg} (hi : MiZ m) (h : mayBeM m = true) : ∀ x ∈ m.l, (elT m.k x).length ≤ 4000 := fun x hx => by
 have hm := (may_all h).2.1 x hx
 have hz := lz_of (hi.2.2.2.2.2 x hx) hm
 unfold elT
 split
 ·have := nu_le 0 x hz hm
  rw [nu_pr] at this
  exact this
 ·have := lg_le 0 x hz hm
  rw [lg_pr] at this
  exact this
theorem jl_len {m : Mg} (hi : MiZ m) (h : mayBeM m = true) : (joF true (m.l.map (elT m.k))).length ≤ 1000000 := by
 have h1 := jo6_sum (m.l.map (elT m.k)) true
 have h2 := el_len hi h
 have h3 := (may_all h).1
 have key : ∀ l : List Lg, (∀ x ∈ l, (elT m.k x).length ≤ 4000) → ((l.map (elT m.k)).map fun x => x.length + 1).sum ≤ l.length * 4001 := by
  intro l
  induction l with
  | nil => intro _; simp
  | cons x r ih =>
   intro hh
   have a1 := hh x (by simp)
   have a2 := ih (fun y hy => hh y (by simp [hy]))
   simp only [List.map_cons, List.sum_cons, List.length_cons] at a2 ⊢
   omega
 have := key m.l h2
 omega
theorem wr_k1 {m : Mg} (hi : MiZ m) (h : mayBeM m = true) (hk : m.k = 1) : wrM m = ((((([123, 34, 99, 108, 105, 101, 110, 116, 34, 58] ++ quo m.c) ++ [44, 34, 108, 105, 115, 116, 34, 58, 91]) ++ joF true (m.l.map (elT m.k))) ++ [93, 44, 34, 116, 121, 112, 101, 34, 58, 34, 112, 117, 115, 104, 34, 125]), 0) := by
 rw [(wr_is hi h).1]
 congr 1
 unfold vlJ
 rw [if_pos hk]
 show prF (prN 15) (.mk 5 0 [] _ _) = _
 obtain ⟨_, _, _, _, q5, q6, q7⟩ := quo_lit
 obtain ⟨r1, r2, r3, r4, r5, r6, r7, r8, r9, r10, r11⟩ := quo_lit2
 rw [pr5, show ordS [[116, 121, 112, 101], [99, 108, 105, 101, 110, 116], [108, 105, 115, 116]] = [1, 2, 0] by kernel_rfl, show tyM m.k = [112, 117, 115, 104] by rw [hk]; rfl]
 have e4 : prN 15 (.mk 4 0 [] [] (m.l.map nuJ)) = [91] ++ joF true (m.l.map (elT m.k)) ++ [93] := by
  show prF (prN 14) _ = _
  rw [pr4, List.map_map]
  congr 3
  refine List.map_congr_left (fun x _ => ?_)
  unfold elT
  rw [if_pos hk]
  exact nu_pr 12 x
 simp only [List.map_cons, List.map_nil, memP, nmA, List.getD_cons_zero, List.getD_cons_succ, r1, q5, r2, r7, pr_txt, joF, e4]
 simp
theorem wr_k2 {m : Mg} (hi : MiZ m) (h : mayBeM m = true) (hk : m.k = 2) : wrM m = ((((([123, 34, 108, 97, 115, 116, 34, 58] ++ Lib.itoa m.la) ++ [44, 34, 116, 111, 112, 34, 58]) ++ Lib.itoa m.top) ++ [44, 34, 116, 121, 112, 101, 34, 58, 34, 112, 117, 115, 104, 101, 100, 34, 125]), 0) := by
 rw [(wr_is hi h).1]
 congr 1
 unfold vlJ
 rw [if_neg (show ¬ m.k = 1 by omega), if_pos hk]
 show prF (prN 15) (.mk 5 0 [] _ _) = _
 obtain ⟨_, _, _, _, q5, q6, q7⟩ := quo_lit
 obtain ⟨r1, r2, r3, r4, r5, r6, r7, r8, r9, r10, r11⟩ := quo_lit2
 rw [pr5, show ordS [[116, 121, 112, 101], [108, 97, 115, 116], [116, 111, 112]] = [1, 2, 0] by kernel_rfl, show tyM m.k = [112, 117, 115, 104, 101, 100] by rw [hk]; rfl]
 simp only [List.map_cons, List.map_nil, memP, nmA, List.getD_cons_zero, List.getD_cons_succ, r1, r3, r4, r8, pr_txt, pr_num, joF]
 simp
theorem wr_k3 {m : Mg} (hi : MiZ m) (h : mayBeM m = true) (hk : m.k = 3) : wrM m = ((((([123, 34, 99, 108, 105, 101, 110, 116, 34, 58] ++ quo m.c) ++ [44, 34, 99, 111, 111, 107, 105, 101, 34, 58]) ++ Lib.itoa m.co) ++ [44, 34, 116, 121, 112, 101, 34, 58, 34, 112, 117, 108, 108, 34, 125]), 0) := by
 rw [(wr_is hi h).1]
 congr 1
 unfold vlJ
 rw [if_neg (show ¬ m.k = 1 by omega), if_neg (show ¬ m.k = 2 by omega), if_pos hk]
 show prF (prN 15) (.mk 5 0 [] _ _) = _
 obtain ⟨_, _, _, _, q5, q6, q7⟩ := quo_lit
 obtain ⟨r1, r2, r3, r4, r5, r6, r7, r8, r9, r10, r11⟩ := quo_lit2
 rw [pr5, show ordS [[116, 121, 112, 101], [99, 108, 105, 101, 110, 116], [99, 111, 111, 107, 105, 101]] = [1, 2, 0] by kernel_rfl, show tyM m.k = [112, 117, 108, 108] by rw [hk]; rfl]
 simp only [List.map_cons, List.map_nil, memP, nmA, List.getD_cons_zero, List.getD_cons_succ, r1, q5, r5, r9, pr_txt, pr_num, joF]
 simp
theorem wr_k4 {m : Mg} (hi : MiZ m) (h : mayBeM m = true) (hk : m.k = 4) : wrM m = ((((((((((([123, 34, 99, 111, 111, 107, 105, 101, 34, 58] ++ Lib.itoa m.co) ++ [44, 34, 102, 114, 111, 109, 34, 58]) ++ Lib.itoa m.fr) ++ [44, 34, 108, 97, 115, 116, 34, 58]) ++ Lib.itoa m.la) ++ [44, 34, 108, 105, 115, 116, 34, 58, 91]) ++ joF true (m.l.map (elT m.k))) ++ [93, 44, 34, 116, 111, 112, 34, 58]) ++ Lib.itoa m.top) ++ [44, 34, 116, 121, 112, 101, 34, 58, 34, 112, 97, 116, 99, 104, 34, 125]), 0) := by
 rw [(wr_is hi h).1]
 congr 1
 unfold vlJ
 rw [if_neg (show ¬ m.k = 1 by omega), if_neg (show ¬ m.k = 2 by omega), if_neg (show ¬ m.k = 3 by omega), if_pos hk]
 show prF (prN 15) (.mk 5 0 [] _ _) = _
 obtain ⟨_, _, _, _, q5, q6, q7⟩ := quo_lit
 obtain ⟨r1, r2, r3, r4, r5, r6, r7, r8, r9, r10, r11⟩ := quo_lit2
 rw [pr5, show ordS [[116, 121, 112, 101], [102, 114, 111, 109], [99, 111, 111, 107, 105, 101], [108, 97, 115, 116], [116, 111, 112], [108, 105, 115, 116]] = [2, 1, 3, 5, 4, 0] by kernel_rfl, show tyM m.k = [112, 97, 116, 99, 104] by rw [hk]; rfl]
 have e4 : prN 15 (.mk 4 0 [] [] (m.l.map lgJ)) = [91] ++ joF true (m.l.map (elT m.k)) ++ [93] := by
  show prF (prN 14) _ = _
  rw [pr4, List.map_map]
  congr 3
  refine List.map_congr_left (fun x _ => ?_)
  unfold elT
  rw [if_neg (by omega)]
  exact lg_pr 12 x
 simp only [List.map_cons, List.map_nil, memP, nmA, List.getD_cons_zero, List.getD_cons_succ, r1, r6, r5, r3, r4, r2, r10, pr_txt, pr_num, joF, e4]
 simp
theorem wr_k5 {m : Mg} (hi : MiZ m) (h : mayBeM m = true) (hk : m.k = 5) : wrM m = ((([123, 34, 116, 111, 112, 34, 58] ++ Lib.itoa m.top) ++ [44, 34, 116, 121, 112, 101, 34, 58, 34, 112, 111, 107, 101, 34, 125]), 0) := by
 rw [(wr_is hi h).1]
 congr 1
 unfold vlJ
 rw [if_neg (show ¬ m.k = 1 by omega), if_neg (show ¬ m.k = 2 by omega), if_neg (show ¬ m.k = 3 by omega), if_neg (show ¬ m.k = 4 by omega)]
 show prF (prN 15) (.mk 5 0 [] _ _) = _
 obtain ⟨_, _, _, _, q5, q6, q7⟩ := quo_lit
 obtain ⟨r1, r2, r3, r4, r5, r6, r7, r8, r9, r10, r11⟩ := quo_lit2
 rw [pr5, show ordS [[116, 121, 112, 101], [116, 111, 112]] = [1, 0] by kernel_rfl, show tyM m.k = [112, 111, 107, 101] by rw [hk]; rfl]
 simp only [List.map_cons, List.map_nil, memP, nmA, List.getD_cons_zero, List.getD_cons_succ, r1, r4, r11, pr_txt, pr_num, joF]
 simp
end Go.Proofs.YtmpjeahibfdehaaGreatDoor
end
