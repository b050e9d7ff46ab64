/-
  THE FOUR TABLES of digest, as the row lists them: what they hold.
-/
import Derived.Test.YthhcaalafacjlaaDoorPkAetsai
import Derived.Lib.LaidU8
import Derived.Lib.LaidTab
section
set_option linter.unusedVariables false
namespace Go.Proofs.YthhcaalafacjlaaDoor
open Go.RowKit Go.Lib

def zsOf (l : List UInt32) : List Int := l.map fun x => (x.toNat : Int)
theorem dat2 : (Rows.laid_blotter_digest_longStart : DataW Unit) = tabData .u32 (zsOf ini2.list) := by kernel_rfl
theorem dat4 : (Rows.laid_blotter_digest_longRounds : DataW Unit) = tabData .u32 (zsOf k2s) := by kernel_rfl

theorem tab_cells {w : World} {nm : String} {g n : Nat} {t : TypeId} {l : List UInt32} (hn : Tryd.prog.globalNamed nm = some g) (ht : (Tryd.prog.globals[g]?).map (·.type) = some t) (hu : Tryd.prog.underlying t = some (.array n 94)) (hct : Tryd.prog.cellsOf t = n)
    (h : VarReads Tryd.prog w nm (tabData .u32 (zsOf l))) (i : Nat) (hi : i < l.length) : w.cell? ⟨g, i, none⟩ = some (.int .u32 ((l.getD i 0).toNat : Int)) := by
  obtain ⟨g', t', cs, fuel, p, hg, hty, hvar, hd⟩ := h
  obtain rfl := Option.some.inj (hn.symm.trans hg)
  obtain rfl := Option.some.inj (ht.symm.trans hty)
  have hce : Tryd.prog.cellsOf 94 = 1 := by kernel_rfl
  have hcs := cells_of_tab hu Tryd.underlying94 hce hct hd
  rw [World.var?_cell hg hvar i, ← Array.getElem?_toList, hcs]
  simp [zsOf, hi]

theorem tb_of_reads {w : World} (h2 : VarReads Tryd.prog w "blotter/digest.longStart" (tabData .u32 (zsOf ini2.list))) (h4 : VarReads Tryd.prog w "blotter/digest.longRounds" (tabData .u32 (zsOf k2s))) : Tb w :=
  ⟨fun i hi => tab_cells (by kernel_rfl) (by kernel_rfl) Tryd.underlying96 (by kernel_rfl) h2 i hi, fun i hi => tab_cells (by kernel_rfl) (by kernel_rfl) Tryd.underlying113 (by kernel_rfl) h4 i hi⟩
#print axioms tb_of_reads
end Go.Proofs.YthhcaalafacjlaaDoor
end
