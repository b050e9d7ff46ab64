/-
  b[:H] and b[E:], whatever b is.
-/
import Derived.Test.YthkadboeokgjnacGreatDoorSlc
set_option linter.unusedVariables false
namespace Go.Proofs.YthkadboeokgjnacGreatDoor
open Go.RowKit

theorem cut_tail (a : Option Addr) (cap E : Nat) (l : List UInt8) (hle : l.length ≤ cap) (h1 : E ≤ l.length) (hrow : l ≠ [] → ∃ b off, a = some ⟨b, off, none⟩) :
    ∃ a', (∀ w, (Instr.slice 22 (.slice a l.length cap) (some (.int .i64 (E : Int))) none none).run Tryz.prog w = .ok (.slice a' (l.length - E) (cap - E)) w) ∧ (∀ w, Bs w a cap l → Bs w a' (cap - E) (l.drop E)) ∧ blk a' = blk a := by
  refine ⟨if cap = E then a else a.map (·.add (E * 1)), fun w => ?_, fun w hB => ?_, ?_⟩
  · rw [run_slice_l (P := Tryz.prog) w 22 _ _ cap Tryz.elemB .i64 (E : Int) (by omega) (by omega), Tryz.sizeB]
    simp only [Result.andThen, sliced, Int.toNat_natCast]
  · refine ⟨?_, by simp; have := hB.le; omega, by have := hB.most; omega, ?_⟩
    · by_cases hc : cap = E
      · intro h; exact absurd (List.drop_eq_nil_of_le (by omega)) h
      · rw [if_neg hc]
        by_cases hl : l = []
        · subst hl; intro h; simp at h
        · obtain ⟨b, off, rfl⟩ := hrow hl
          rw [Option.map_some, Nat.mul_one, addr_add]
          exact hB.row.drop E
    · intro h
      by_cases hc : cap = E
      · omega
      · rw [if_neg hc] at h
        have := hB.nz (by cases a <;> simp_all)
        omega
  · split
    · rfl
    · cases a with
      | none => rfl
      | some x => simp [blk, Addr.add]; split <;> rfl
theorem cut_head (a : Option Addr) (n cap H : Nat) (l : List UInt8) (h1 : H ≤ l.length) (hle : l.length ≤ cap) (hrow : l ≠ [] → ∃ b off, a = some ⟨b, off, none⟩) :
    ∃ a', (∀ w, (Instr.slice 22 (.slice a n cap) none (some (.int .i64 (H : Int))) none).run Tryz.prog w = .ok (.slice a' H cap) w) ∧ (∀ w, Bs w a cap l → Bs w a' cap (l.take H)) ∧ blk a' = blk a := by
  refine ⟨if cap = 0 then a else a.map (·.add (0 * 1)), fun w => ?_, fun w hB => ?_, ?_⟩
  · rw [run_slice_h (P := Tryz.prog) w 22 _ n cap Tryz.elemB .i64 (H : Int) (by omega) (by omega), Tryz.sizeB]
    simp only [Result.andThen, sliced, Int.toNat_natCast, Nat.sub_zero]
  · refine ⟨?_, by simp; omega, hB.most, ?_⟩
    · by_cases hc : cap = 0
      · intro h; exact absurd (by rw [show l = [] from List.eq_nil_of_length_eq_zero (by omega)]; simp) h
      · rw [if_neg hc]
        by_cases hl : l = []
        · subst hl; intro h; simp at h
        · obtain ⟨b, off, rfl⟩ := hrow hl
          rw [Option.map_some, Nat.zero_mul, addr_add, Nat.add_zero]
          exact hB.row.take H
    · intro h
      by_cases hc : cap = 0
      · exact hc
      · rw [if_neg hc] at h
        exact hB.nz (by cases a <;> simp_all)
  · split
    · rfl
    · cases a with
      | none => rfl
      | some x => simp [blk, Addr.add]
end Go.Proofs.YthkadboeokgjnacGreatDoor
