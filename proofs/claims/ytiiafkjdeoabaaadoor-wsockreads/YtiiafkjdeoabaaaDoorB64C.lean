/-
  BASE64: plain mathematics, and the walk of digest's fourLetters.
-/
import Derived.Test.YtiiafkjdeoabaaaDoorB64B
set_option linter.unusedVariables false
namespace Go.Proofs.YtiiafkjdeoabaaaDoor
open Go.RowKit

def lets6 : List UInt8 := [65, 66, 67, 68, 69, 70, 71, 72, 73, 74, 75, 76, 77, 78, 79, 80, 81, 82, 83, 84, 85, 86, 87, 88, 89, 90, 97, 98, 99, 100, 101, 102, 103, 104, 105, 106, 107, 108, 109, 110, 111, 112, 113, 114, 115, 116, 117, 118, 119, 120, 121, 122, 48, 49, 50, 51, 52, 53, 54, 55, 56, 57, 43, 47]
def l6 (n : Nat) : UInt8 := lets6.getD n 0
def fl (x y z : UInt8) : List UInt8 := [l6 (x.toNat / 4), l6 (x.toNat % 4 * 16 + y.toNat / 16), l6 (y.toNat % 16 * 4 + z.toNat / 64), l6 (z.toNat % 64)]
/-- Bytes in base64, filled up. -/
def b64 : List UInt8 → List UInt8
  | [] => []
  | [x] => [l6 (x.toNat / 4), l6 (x.toNat % 4 * 16), 61, 61]
  | [x, y] => [l6 (x.toNat / 4), l6 (x.toNat % 4 * 16 + y.toNat / 16), l6 (y.toNat % 16 * 4), 61]
  | x :: y :: z :: r => fl x y z ++ b64 r
theorem b64_zero : b64 [0] = [65, 65, 61, 61] := by decide
theorem b64_length : ∀ l : List UInt8, (b64 l).length = 4 * ((l.length + 2) / 3)
  | [] => rfl
  | [x] => by simp [b64]
  | [x, y] => by simp [b64]
  | x :: y :: z :: r => by
    have := b64_length r
    simp only [b64, fl, List.length_append, List.length_cons, List.length_nil, this]
    omega

theorem lets6_at : ∀ n : Fin 64, (lets6.toArray[n.val]?) = some (l6 n.val) := by decide +kernel
theorem run_lets6 (w : World) (X : Nat) (h : X < 64) : (Instr.index 9 (.string { data := #[65, 66, 67, 68, 69, 70, 71, 72, 73, 74, 75, 76, 77, 78, 79, 80, 81, 82, 83, 84, 85, 86, 87, 88, 89, 90, 97, 98, 99, 100, 101, 102, 103, 104, 105, 106, 107, 108, 109, 110, 111, 112, 113, 114, 115, 116, 117, 118, 119, 120, 121, 122, 48, 49, 50, 51, 52, 53, 54, 55, 56, 57, 43, 47] }) (.int .u32 (X : Int))).run Tryd.prog w = .ok (.int .u8 ((l6 X).toNat : Int)) w := by
  have h0 : (Instr.index 9 (.string (str lets6)) (.int .u32 (X : Int))).run Tryd.prog w = .ok (.int .u8 ((l6 X).toNat : Int)) w := by
    rw [run_index_string w 9 (str lets6) .u32 (X : Int) Tryd.underlying9]
    have hs : (str lets6).size = 64 := rfl
    rw [dif_pos (by rw [hs]; omega)]
    have e := lets6_at ⟨X, h⟩
    have e2 : ((str lets6)[(X : Int).toNat]'(by rw [hs]; omega)) = l6 X := by
      have : (lets6.toArray[X]'(by show X < 64; exact h)) = l6 X := by
        have e3 := Array.getElem?_eq_getElem (xs := lets6.toArray) (i := X) (by show X < 64; exact h)
        rw [e3] at e
        exact Option.some.inj e
      exact this
    rw [e2]
  exact h0

theorem three_or (x y z : UInt8) : bits .or .u32 (bits .or .u32 ((x.toNat : Int) % 4294967296 * 65536 % 4294967296) ((y.toNat : Int) % 4294967296 * 256 % 4294967296)) ((z.toNat : Int) % 4294967296) = ((x.toNat * 65536 + y.toNat * 256 + z.toNat : Nat) : Int) := by
  have h := b4_or' 0 x y z
  have hx := x.toNat_lt; have hy := y.toNat_lt; have hz := z.toNat_lt
  have e1 := u32_or_nat (x.toNat * 65536) (y.toNat * 256) (by omega) (by omega)
  rw [nat_join 16 _ _ (by omega) (by omega)] at e1
  have e2 := u32_or_nat (x.toNat * 65536 + y.toNat * 256) z.toNat (by omega) (by omega)
  rw [nat_join 8 _ _ (by omega) (by omega)] at e2
  rw [← e2, ← e1]
  congr 1
  · congr 1 <;> omega
  · omega
theorem and63 (n : Nat) (h : n < 4294967296) : bits .and .u32 (n : Int) 63 = ((n % 64 : Nat) : Int) := by
  have := u32_and_nat n 63 h (by decide)
  rw [nat_mask6] at this
  exact this

set_option maxRecDepth 1000000 in
set_option maxHeartbeats 2000000 in
theorem four_any (x y z : UInt8) (w : World) :
    Calls Tryd.prog 28 #[.int .u8 (x.toNat : Int), .int .u8 (y.toNat : Int), .int .u8 (z.toNat : Int)] w
      fun e w' => e = .returned (.agg (bs (fl x y z)).toArray) ∧ Below w.heap.size w w' := by
  have hx := x.toNat_lt; have hy := y.toNat_lt; have hz := z.toNat_lt
  have eN := three_or x y z
  obtain ⟨N, hN⟩ : ∃ N, x.toNat * 65536 + y.toNat * 256 + z.toNat = N := ⟨_, rfl⟩
  rw [hN] at eN
  obtain ⟨I0, hI0⟩ : ∃ I, x.toNat / 4 = I := ⟨_, rfl⟩
  obtain ⟨I1, hI1⟩ : ∃ I, x.toNat % 4 * 16 + y.toNat / 16 = I := ⟨_, rfl⟩
  obtain ⟨I2, hI2⟩ : ∃ I, y.toNat % 16 * 4 + z.toNat / 64 = I := ⟨_, rfl⟩
  obtain ⟨I3, hI3⟩ : ∃ I, z.toNat % 64 = I := ⟨_, rfl⟩
  have q0 : (N : Int) / 262144 = (I0 : Int) := by omega
  have q1 : bits .and .u32 ((N : Int) / 4096) 63 = (I1 : Int) := by
    have := and63 (N / 4096) (by omega)
    have e : ((N / 4096 : Nat) : Int) = (N : Int) / 4096 := by omega
    rw [e] at this
    rw [this]; omega
  have q2 : bits .and .u32 ((N : Int) / 64) 63 = (I2 : Int) := by
    have := and63 (N / 64) (by omega)
    have e : ((N / 64 : Nat) : Int) = (N : Int) / 64 := by omega
    rw [e] at this
    rw [this]; omega
  have q3 : bits .and .u32 (N : Int) 63 = (I3 : Int) := by
    rw [and63 N (by omega)]; omega
  have r0 := fun w => run_lets6 w I0 (by omega)
  have r1 := fun w => run_lets6 w I1 (by omega)
  have r2 := fun w => run_lets6 w I2 (by omega)
  have r3 := fun w => run_lets6 w I3 (by omega)
  have HF : Hid (fl x y z = [l6 I0, l6 I1, l6 I2, l6 I3]) := by show _ = _; rw [← hI0, ← hI1, ← hI2, ← hI3]; rfl
  clear hI0 hI1 hI2 hI3 hN hx hy hz
  rw [HF.out]
  generalize l6 I0 = d0 at *
  generalize l6 I1 = d1 at *
  generalize l6 I2 = d2 at *
  generalize l6 I3 = d3 at *
  go_enter Tryd.func28, Tryd.ntmps28
  go_wp2
  refine rs_tail 15 follows (by kernel_rfl) ?_
  simp only [List.take_succ_cons, List.take_zero, List.drop_succ_cons, List.drop_zero]
  iterate 15 still_step
  refine wpStill_nil ?_
  go_wp2_with (refine wpL_store rfl 68 _ _ rfl _ rfl (bs [d0, d1, d2, d3]) rfl 68 (bs [0, 0, 0, 0]) (Cel.newAt' w _ _ _ _ rfl rfl).drew rfl (by kernel_rfl) (bs_one' _) ?_; intro w9 c9 g9)
  exact bodyPost_ret (results_cel rfl _ _ _ _ _ _ _ rfl c9 Tryd.underlying68 (by kernel_rfl)) rfl ⟨rfl, cg_to_below (cg_trans (cg_trans (cg_alloc w _ _) (cg_drew _ _)) g9) (Nat.le_refl _) (Nat.le_refl _)⟩
#print axioms four_any
end Go.Proofs.YtiiafkjdeoabaaaDoor
