/-
  CUTS OF A SLICE OF BYTES, as run equations, and what they read.
-/
import Derived.Test.YthkadboeokgjnacGreatDoorOwn
set_option linter.unusedVariables false
namespace Go.Proofs.YthkadboeokgjnacGreatDoor
open Go.RowKit

theorem Tryz.sizeB (w : World) : (sizeOf (Tryz.prog.elem 22)).run Tryz.prog w = .ok 1 w := by kernel_rfl
theorem Tryz.elemB : Tryz.prog.underlying 22 = some (.slice (Tryz.prog.elem 22)) := by kernel_rfl

theorem slice_mid (b off n cap E H : Nat) (l h : Int) (w : World) (hl : l = (E : Int)) (hh : h = (H : Int)) (h1 : E ≤ H) (h2 : H ≤ cap) (h3 : ¬ cap = E) :
    (Instr.slice 22 (.slice (some ⟨b, off, none⟩) n cap) (some (.int .i64 l)) (some (.int .i64 h)) none).run Tryz.prog w = .ok (.slice (some ⟨b, off + E, none⟩) (H - E) (cap - E)) w := by
  subst hl hh
  rw [run_slice_lh (P := Tryz.prog) w 22 _ n cap Tryz.elemB .i64 .i64 (E : Int) (H : Int) (by omega) (by omega) (by omega), Tryz.sizeB]
  simp only [Result.andThen, sliced, Int.toNat_natCast, if_neg h3, Option.map_some, Nat.mul_one, addr_add]

theorem slice_from (b off n cap E : Nat) (l : Int) (w : World) (hl : l = (E : Int)) (h1 : E ≤ n) (h3 : ¬ cap = E) :
    (Instr.slice 22 (.slice (some ⟨b, off, none⟩) n cap) (some (.int .i64 l)) none none).run Tryz.prog w = .ok (.slice (some ⟨b, off + E, none⟩) (n - E) (cap - E)) w := by
  subst hl
  rw [run_slice_l (P := Tryz.prog) w 22 _ n cap Tryz.elemB .i64 (E : Int) (by omega) (by omega), Tryz.sizeB]
  simp only [Result.andThen, sliced, Int.toNat_natCast, if_neg h3, Option.map_some, Nat.mul_one, addr_add]

theorem Row.take {w : World} {a : Option Addr} {l : List UInt8} (h : Row w a l) (n : Nat) : Row w a (l.take n) := by
  intro hne
  obtain ⟨b, off, rfl, hc⟩ := h (by intro e; subst e; simp at hne)
  refine ⟨b, off, rfl, fun i hi => ?_⟩
  have hi' : i < n ∧ i < l.length := by simp at hi; omega
  rw [hc i hi'.2]
  simp [List.getD, hi'.1]

theorem Row.drop {w : World} {b off : Nat} {l : List UInt8} (h : Row w (some ⟨b, off, none⟩) l) (n : Nat) : Row w (some ⟨b, off + n, none⟩) (l.drop n) := by
  intro hne
  have hl : n < l.length := by
    rcases Nat.lt_or_ge n l.length with h' | h'
    · exact h'
    · exact absurd (List.drop_of_length_le h') hne
  obtain ⟨b', off', hh, hc⟩ := h (by intro e; subst e; simp at hl)
  obtain ⟨rfl, rfl⟩ : b = b' ∧ off = off' := by simpa using Option.some.inj hh
  refine ⟨b, off + n, rfl, fun i hi => ?_⟩
  have hi' : n + i < l.length := by simp at hi; omega
  rw [Nat.add_assoc, hc (n + i) hi']
  simp [List.getD]

theorem hide {p : Prop} (h : p) : Hid p := h
theorem unhide {p : Prop} (h : Hid p) : p := h

#print axioms slice_mid
#print axioms Row.drop
end Go.Proofs.YthkadboeokgjnacGreatDoor
