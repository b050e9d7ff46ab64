/-
  disk: awake.
-/
import Derived.Test.YtkhpjlgbiicdcaaDskV
import Derived.Lib.SlBytesConst
import Derived.Lib.SmallJoins
set_option linter.unusedVariables false
namespace Go.Proofs.Ytkhpjlgbiicdcaa
open Go.RowKit Go.Maps

theorem lit_one (w : World) (m : Nat × Nat) (z : Int) (u : UInt8) (e : z = (u.toNat : Int)) : Bs (w.alloc (.cells #[.int .u8 z] 5 m)) (some ⟨w.heap.size, 0, none⟩) 1 [u] := by
  subst e
  refine ⟨?_, by simp, by unfold maxLen; simp, fun h => by cases h⟩
  intro _
  refine ⟨w.heap.size, 0, rfl, fun i hi => ?_⟩
  have hi' : i < 1 := hi
  rw [World.cell?_alloc_mark]
  match i, hi' with
  | 0, _ => rfl
theorem lit_two (w : World) (m : Nat × Nat) (y z : Int) (t u : UInt8) (d : y = (t.toNat : Int)) (e : z = (u.toNat : Int)) : Bs (w.alloc (.cells #[.int .u8 y, .int .u8 z] 5 m)) (some ⟨w.heap.size, 0, none⟩) 2 [t, u] := by
  subst d
  subst e
  refine ⟨?_, by simp, by unfold maxLen; simp, fun h => by cases h⟩
  intro _
  refine ⟨w.heap.size, 0, rfl, fun i hi => ?_⟩
  have hi' : i < 2 := hi
  rw [World.cell?_alloc_mark]
  match i, hi' with
  | 0, _ => rfl
  | 1, _ => rfl

theorem lit_ft (w : World) (m : Nat × Nat) : BRow (w.alloc (.cells #[.bool false, .bool true] 4 m)) (some ⟨w.heap.size, 0, none⟩) [false, true] := by
  intro _
  refine ⟨w.heap.size, 0, rfl, fun i hi => ?_⟩
  have hi' : i < 2 := hi
  rw [World.cell?_alloc_mark]
  match i, hi' with
  | 0, _ => rfl
  | 1, _ => rfl

set_option maxRecDepth 20000 in
set_option maxHeartbeats 2000000 in
theorem awake_true (w : World) : Calls Try.prog 9 #[] w fun e w' => e = .returned (.bool true) ∧ Below w.heap.size w w' := by
  have kc := fun (w : World) (C : Array Value) (n c : Nat) => Lib.run_convert_bytes_const (P := Try.prog) w 33 5 C n c Try.underlying33 Try.underlying5
  obtain ⟨M1, hM1⟩ : ∃ M, M = (Md.new 100).write [97] [120, 121] := ⟨_, rfl⟩
  obtain ⟨M2, hM2⟩ : ∃ M, M = M1.sync [97] := ⟨_, rfl⟩
  obtain ⟨M3, hM3⟩ : ∃ M, M = M2.write [97] [122] := ⟨_, rfl⟩
  obtain ⟨M4, hM4⟩ : ∃ M, M = M3.write [97] [119] := ⟨_, rfl⟩
  obtain ⟨M5, hM5⟩ : ∃ M, M = M4.crash [false, true] 0 := ⟨_, rfl⟩
  obtain ⟨M6, hM6⟩ : ∃ M, M = M4.crash [] 0 := ⟨_, rfl⟩
  have e4 : M4.pend.length = 2 := by subst hM4 hM3 hM2 hM1; kernel_rfl
  have e5 : M5.readB [97] = [120, 121, 0, 119] := by subst hM5 hM4 hM3 hM2 hM1; kernel_rfl
  have e6 : M6.readB [97] = [120, 121] := by subst hM6 hM4 hM3 hM2 hM1; kernel_rfl
  go_enter Try.func9, Try.ntmps9
  go_wp2_with fail
  refine (new_k w _ 0 100 w (by omega) (by omega) (LW.start w)).mono ?_
  rintro e w1 ⟨D, g1, rfl, d1, L1, -, -⟩
  go_wp2_with fail
  have ba : Below w1.heap.size w1 (w1.alloc (.cells #[.int .u8 120, .int .u8 121] 5 (2, 3))) := (Below.refl _ _).alloc (Nat.le_refl _) _
  refine (write_k g1 0 D (Md.new 100) 0 [97] (some ⟨w1.heap.size, 0, none⟩) 2 [120, 121] _ (d1.below ba) (by omega) (by unfold maxLen; simp) (lit_two w1 _ 120 121 120 121 rfl rfl) (by simp)).mono ?_
  rintro e w2 ⟨rfl, g2, d2, S2⟩
  rw [← hM1] at d2
  have L2 := (L1.bel ba).st S2
  clear d1 L1 ba S2
  go_wp2_with fail
  refine (sync_k g2 0 D M1 _ [97] w2 d2 (by omega) (by unfold maxLen; simp)).mono ?_
  rintro e w3 ⟨rfl, g3, d3, S3⟩
  rw [← hM2] at d3
  have L3 := L2.st S3
  clear d2 L2 S3
  go_wp2_with fail
  have ba : Below w3.heap.size w3 (w3.alloc (.cells #[.int .u8 122] 5 (1, 2))) := (Below.refl _ _).alloc (Nat.le_refl _) _
  refine (write_k g3 0 D M2 _ [97] (some ⟨w3.heap.size, 0, none⟩) 1 [122] _ (d3.below ba) (by omega) (by unfold maxLen; simp) (lit_one w3 _ 122 122 rfl) (by simp)).mono ?_
  rintro e w4 ⟨rfl, g4, d4, S4⟩
  rw [← hM3] at d4
  have L4 := (L3.bel ba).st S4
  clear d3 L3 ba S4
  go_wp2_with fail
  have ba : Below w4.heap.size w4 (w4.alloc (.cells #[.int .u8 119] 5 (1, 2))) := (Below.refl _ _).alloc (Nat.le_refl _) _
  refine (write_k g4 0 D M3 _ [97] (some ⟨w4.heap.size, 0, none⟩) 1 [119] _ (d4.below ba) (by omega) (by unfold maxLen; simp) (lit_one w4 _ 119 119 rfl) (by simp)).mono ?_
  rintro e w5 ⟨rfl, g5, d5, S5⟩
  rw [← hM4] at d5
  have L5 := (L4.bel ba).st S5
  clear d4 L4 ba S5
  go_wp2_with fail
  refine (clone_k w g5 0 1 D M4 _ w5 (by omega) d5 L5 (by omega)).mono ?_
  rintro e w6 ⟨C, g6, rfl, d6, c6, L6, -, -⟩
  clear d5 L5
  go_wp2_with fail
  refine (pending_k g6 0 D M4 _ w6 d6).mono ?_
  rintro e w6' ⟨rfl, rfl⟩
  rw [e4]
  go_wp2_with fail
  have ba : Below w6'.heap.size w6' (w6'.alloc (.cells #[.bool false, .bool true] 4)) := (Below.refl _ _).alloc (Nat.le_refl _) _
  refine (crash_k g6 0 D M4 _ (some ⟨w6'.heap.size, 0, none⟩) [false, true] 2 2 0 _ (d6.below ba) (by omega) (hide rfl) (lit_ft w6' _) (by unfold maxLen; omega)).mono ?_
  rintro e w7 ⟨rfl, g7, d7, S7⟩
  rw [← hM5] at d7
  have c7 := (c6.below ba).st S7 (by omega)
  have L7 := (L6.bel ba).st S7
  clear d6 c6 L6 ba S7
  go_wp2_with fail
  refine (crash_k g7 1 C M4 _ none [] 0 0 0 w7 c7 (by omega) (hide rfl) (fun h => absurd rfl h) (by unfold maxLen; omega)).mono ?_
  rintro e w8 ⟨rfl, g8, c8, S8⟩
  rw [← hM6] at c8
  have d8 := d7.st S8 (by omega)
  have L8 := L7.st S8
  clear d7 c7 L7 S8
  go_wp2_with fail
  refine (read_k g8 0 D M5 _ [97] w8 d8 (by omega) (by unfold maxLen; simp)).mono ?_
  rintro e w9 ⟨y, cy, rfl, oy, b9⟩
  rw [e5] at oy ⊢
  go_wp2_with fail
  refine (read_k g8 1 C M6 _ [97] w9 (c8.below b9) (by omega) (by unfold maxLen; simp)).mono ?_
  rintro e w10 ⟨y', cy', rfl, oy', b10⟩
  rw [e6] at oy' ⊢
  have L10 := (L8.bel b9).bel b10
  have s1 := run_str w10 y 4 cy [120, 121, 0, 119] (oy.below b10 (Nat.le_refl _)).toBs.row rfl
  have s2 := run_str w10 y' 2 cy' [120, 121] oy'.toBs.row rfl
  have t1 : str [120, 121, 0, 119] = { data := #[120, 121, 0, 119] } := rfl
  have t2 : str [120, 121] = { data := #[120, 121] } := rfl
  rw [t1] at s1
  rw [t2] at s2
  rw [show [(120 : UInt8), 121].length = 2 from rfl]
  clear oy oy' d8 c8 b9 b10 kc L8
  go_wp2
  go_ret
  exact ⟨rfl, L10.below⟩
#print axioms awake_true
end Go.Proofs.Ytkhpjlgbiicdcaa
