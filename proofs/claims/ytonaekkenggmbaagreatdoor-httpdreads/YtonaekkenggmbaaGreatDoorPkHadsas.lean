/-
  httpd: what the listed variable strconv.ErrSyntax holds.
-/
import Derived.Test.YtonaekkenggmbaaGreatDoorPkHadsar
import Derived.Lib.LaidU8
import Derived.LaidLaws
section
set_option linter.unusedVariables false
namespace Go.Proofs.YtonaekkenggmbaaGreatDoor
open Go.RowKit Go.Lib

theorem sx_of_reads {w : World} {nm : String} {d : DataW Unit} (h : VarReads Tryz.prog w "strconv.ErrSyntax" (.iface nm d)) : Sx w := by
  obtain ⟨g', t', cs, fuel, p, hg, hty, hvar, hd⟩ := h
  obtain rfl := Option.some.inj ((show Tryz.prog.globalNamed "strconv.ErrSyntax" = some 4 by kernel_rfl).symm.trans hg)
  obtain rfl := Option.some.inj ((show (Tryz.prog.globals[4]?).map (·.type) = some 140 by kernel_rfl).symm.trans hty)
  obtain ⟨f1, u, v, hcs, _, _⟩ := iface_of_trod Tryz.underlying140 hd
  refine ⟨u, v, ?_⟩
  rw [World.var?_cell hg hvar 0, ← Array.getElem?_toList, hcs]
  rfl
#print axioms sx_of_reads
end Go.Proofs.YtonaekkenggmbaaGreatDoor
end
