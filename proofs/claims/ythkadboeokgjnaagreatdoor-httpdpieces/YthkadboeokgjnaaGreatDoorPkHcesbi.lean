/-
  A SLICE OF INTS THAT CAME IN, opened.
-/
import Derived.Test.YthkadboeokgjnaaGreatDoorPkHcesbg
import Derived.Deep.Grids
import Derived.Lib.SmallJoins
section
set_option linter.unusedVariables false
namespace Go.Proofs.YthkadboeokgjnaaGreatDoor
open Go.RowKit Go.Joins Go.WideShapes Go.ChangeShapes Go.ChangeAt

section
variable {H : Type} {enc : TypeId × Value → H} {w : World}
theorem ints_open {fuel : Nat} {cs : List Value} {x : DataW H × List MemPlace} (h : DataW.trod enc Tryz.prog w 0 (fun _ => true) true fuel 67 cs = some x) : ∃ a c l, cs = [.slice a l.length c] ∧ IRow w a l := by
  rcases open_ints Tryz.underlying67 Tryz.underlying3 (by kernel_rfl) h with ⟨hcs, _⟩ | ⟨x, l, c, zs, hcs, _, hl, hm, hz, _, hcell, hwz⟩
  · exact ⟨none, 0, [], hcs, ⟨fun h => absurd rfl h, Nat.zero_le _⟩⟩
  · have hzl : zs.length = c := by simpa using hz
    refine ⟨some x, c, zs.take l, by rw [hcs]; simp; omega, ⟨fun hne => ?_, by simp; omega⟩⟩
    have h0 : 0 < l := by
      rcases Nat.eq_zero_or_pos l with h | h
      · subst h; simp at hne
      · exact h
    obtain ⟨b, off, spot⟩ := x
    have hc0 := hcell 0 (by omega)
    have hspot : spot = Option.none := by simpa [Addr.add] using World.cell?_spot hc0
    subst hspot
    refine ⟨b, off, rfl, fun i hi => ?_⟩
    have hi' : i < l := by simp at hi; omega
    have := hcell i (by omega)
    rw [addr_add] at this
    rw [this]
    simp [List.getD_eq_getElem?_getD, hi']
end
#print axioms ints_open
end Go.Proofs.YthkadboeokgjnaaGreatDoor
end
