/-
  jsonx: what the rows' list gives (tables, the type of errors), and a world that meets it.
-/
import Derived.Test.YtmpjeahibfdehaaGreatDoorPkMtesay
import Derived.Test.YtmpjeahibfdehaaGreatDoorPkMtesaz
import Derived.LaidHandle
import Derived.Lay
section
set_option linter.unusedVariables false
set_option maxRecDepth 1000000
namespace Go.Proofs.YtmpjeahibfdehaaGreatDoor
open Go.RowKit

/-- The rows' list, and its plain data. -/
def L4 : List (String × DataW Unit) := [("math/bits.deBruijn32tab", Rows.laid_math_bits_deBruijn32tab), ("math/bits.deBruijn64tab", Rows.laid_math_bits_deBruijn64tab), ("internal/strconv.uint64pow10", Rows.laid_internal_strconv_uint64pow10), ("unicode/utf8.acceptRanges", Rows.laid_unicode_utf8_acceptRanges), ("errors.errorType", Rows.laid_errors_errorType), ("unicode/utf8.first", Rows.laid_unicode_utf8_first)]
def D4 : List (String × DataW Unit) := [("math/bits.deBruijn32tab", Rows.laid_math_bits_deBruijn32tab), ("math/bits.deBruijn64tab", Rows.laid_math_bits_deBruijn64tab), ("internal/strconv.uint64pow10", Rows.laid_internal_strconv_uint64pow10), ("unicode/utf8.acceptRanges", Rows.laid_unicode_utf8_acceptRanges), ("unicode/utf8.first", Rows.laid_unicode_utf8_first)]
def H4 : List (String × DataW Unit) := [("errors.errorType", Rows.laid_errors_errorType)]
theorem l4_met {W : World} (h : laidMetH Tryz.prog L4 W) : laidMet Tryz.prog D4 W ∧ handlesMet Tryz.prog H4 W := h
theorem rt4 : (Tryz.prog.cutTypes.find? (·.1 == "internal/reflectlite.rtype")).map (·.2) = some 137 := by kernel_rfl
theorem size4 : ∃ n, Tryz.prog.types.size = n ∧ ((List.range n).filter fun t => Tryz.prog.rowNamed t [101, 114, 114, 111, 114]) = [60] := ⟨_, rfl, by kernel_rfl⟩
theorem et4_of {W : World} (h : laidMetH Tryz.prog L4 W) : Et4 W := by
 obtain ⟨name, u, ty, e1, e2, e3, e4, e5⟩ := (l4_met h).2 _ (List.mem_singleton.2 rfl)
 have en : name = [101, 114, 114, 111, 114] := (Option.some.inj e1).symm
 subst en
 obtain rfl := Option.some.inj (rt4.symm.trans e2)
 obtain ⟨n, hn, hone⟩ := size4
 have hm : ty ∈ (List.range n).filter fun t => Tryz.prog.rowNamed t [101, 114, 114, 111, 114] := List.mem_filter.2 ⟨List.mem_range.2 (by rw [← hn]; exact e3), e4⟩
 rw [hone] at hm
 obtain rfl := List.mem_singleton.1 hm
 have hh : typeHandle Tryz.prog 60 = .pointer (some ⟨7, 60, none⟩) := by kernel_rfl
 rw [hh] at e5
 simpa [Et4] using World.var?_cell (show Tryz.prog.globalNamed "errors.errorType" = some 0 by kernel_rfl) e5 0
theorem env4_of {W : World} (h : laidMetH Tryz.prog L4 W) : Env4 W :=
 ⟨tabs_of_reads (Lib.laidMet.reads (l4_met h).1 (.tail _ (.tail _ (.tail _ (.tail _ (.head _)))))) (Lib.laidMet.reads (l4_met h).1 (.tail _ (.tail _ (.tail _ (.head _))))), et4_of h, p10_of_reads (Lib.laidMet.reads (l4_met h).1 (.tail _ (.tail _ (.head _))))⟩
/-- A world with the type of errors in its place, and the plain data laid. -/
noncomputable def lw4 (os : Os) : World :=
 let w0 := World.holding Tryz.prog os ⟨#[], #[], []⟩
 { w0 with heap := w0.heap.modify 0 fun
   | .cells _ t m => .cells #[.iface 137 (.agg #[.pointer (some ⟨7, 60, none⟩)])] t m
   | o => o }
noncomputable def lwA4 (os : Os) : World := (lw4 os).layVars Tryz.prog D4
theorem lwA4_os (os : Os) : (lwA4 os).os = os := World.layVars_os _ _ _
theorem lwA4_met (os : Os) (args : Array Value) : laidMetH Tryz.prog L4 ((lwA4 os).forCall (fun _ _ => 0) ⟨#[], args, []⟩).memory := by
 have e1 : (D4.filter fun x => (D4.map (·.1)).contains x.1) = D4 := List.filter_eq_self.2 fun x hx => List.contains_iff_mem.2 (List.mem_map.2 ⟨x, hx, rfl⟩)
 have e2 : (D4.filter fun x => !(D4.map (·.1)).contains x.1) = [] := List.filter_eq_nil_iff.2 fun x hx => by rw [List.contains_iff_mem.2 (List.mem_map.2 ⟨x, hx, rfl⟩)]; simp
 have hd : laidMet Tryz.prog D4 (lwA4 os) := laidMet_layVars (w0 := lw4 os) (D4.map (·.1)) [] (by rw [e1]; rfl) (by rw [e1]; kernel_rfl) (by rw [e1]; kernel_rfl) (by rw [e2]; exact LaidIn.none)
 exact laidMetH_of_parts (hd.of_heap (by simp [World.memory, World.forCall, Input.heap])) (by kernel_rfl)
end Go.Proofs.YtmpjeahibfdehaaGreatDoor
end
