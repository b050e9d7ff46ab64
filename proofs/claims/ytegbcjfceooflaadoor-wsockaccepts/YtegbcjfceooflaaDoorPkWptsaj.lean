/-
  THE FOUR TABLES of digest, as the row lists them: what they hold.
-/
import Derived.Test.YtegbcjfceooflaaDoorPkWptsai
import Derived.Lib.LaidU8
import Derived.Lib.LaidTab
section
set_option linter.unusedVariables false
namespace Go.Proofs.YtegbcjfceooflaaDoor
open Go.RowKit Go.Lib

def zsOf (l : List UInt32) : List Int := l.map fun x => (x.toNat : Int)
def k1s : List UInt32 := [k1 0, k1 1, k1 2, k1 3]
theorem dat1 : (Rows.laid_blotter_digest_shortStart : DataW Unit) = tabData .u32 (zsOf ini1.list) := by kernel_rfl
theorem dat3 : (Rows.laid_blotter_digest_shortRounds : DataW Unit) = tabData .u32 (zsOf k1s) := by kernel_rfl
theorem tab_cells {w : World} {nm : String} {g n : Nat} {t : TypeId} {l : List UInt32} (hn : Tryd.prog.globalNamed nm = some g) (ht : (Tryd.prog.globals[g]?).map (·.type) = some t) (hu : Tryd.prog.underlying t = some (.array n 69)) (hct : Tryd.prog.cellsOf t = n)
    (h : VarReads Tryd.prog w nm (tabData .u32 (zsOf l))) (i : Nat) (hi : i < l.length) : w.cell? ⟨g, i, none⟩ = some (.int .u32 ((l.getD i 0).toNat : Int)) := by
  obtain ⟨g', t', cs, fuel, p, hg, hty, hvar, hd⟩ := h
  obtain rfl := Option.some.inj (hn.symm.trans hg)
  obtain rfl := Option.some.inj (ht.symm.trans hty)
  have hce : Tryd.prog.cellsOf 69 = 1 := by kernel_rfl
  have hcs := cells_of_tab hu Tryd.underlying69 hce hct hd
  rw [World.var?_cell hg hvar i, ← Array.getElem?_toList, hcs]
  simp [zsOf, hi]

theorem tb_of_reads {w : World} (h1 : VarReads Tryd.prog w "blotter/digest.shortStart" (tabData .u32 (zsOf ini1.list))) (h3 : VarReads Tryd.prog w "blotter/digest.shortRounds" (tabData .u32 (zsOf k1s))) : Tb w := by
  refine ⟨fun i hi => tab_cells (by kernel_rfl) (by kernel_rfl) Tryd.underlying71 (by kernel_rfl) h1 i hi, fun i hi => ?_⟩
  have h := tab_cells (g := 1) (by kernel_rfl) (by kernel_rfl) Tryd.underlying113 (by kernel_rfl) h3 i hi
  rw [h]
  match i, hi with
  | 0, _ => rfl
  | 1, _ => rfl
  | 2, _ => rfl
  | 3, _ => rfl
#print axioms tb_of_reads
end Go.Proofs.YtegbcjfceooflaaDoor
end
