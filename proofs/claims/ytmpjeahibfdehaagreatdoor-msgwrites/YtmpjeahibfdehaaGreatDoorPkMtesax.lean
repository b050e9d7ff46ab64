/-
  jsonx: numbers in digits (strconv.FormatInt in base ten), the table that it reads.
-/
import Derived.Test.YtmpjeahibfdehaaGreatDoorPkMtesaa
import Derived.Test.YtmpjeahibfdehaaGreatDoorPkMtesav
import Derived.Lib.LaidTab
import Derived.Lib.ItoaLen
import Derived.Lib.LaidU8
import Derived.LaidLaws
section
set_option linter.unusedVariables false
set_option maxRecDepth 1000000
namespace Go.Proofs.YtmpjeahibfdehaaGreatDoor
open Go.RowKit

/-- The library's powers of ten. -/
def P10 (w : World) : Prop := Lib.TabIs Tryz.prog w "internal/strconv.uint64pow10" .u64 Lib.pow10Tab
theorem P10.below {w w' : World} (h : P10 w) (hb : Below w.heap.size w w') : P10 w' := by
 have hgn : Tryz.prog.globalNamed "internal/strconv.uint64pow10" = some 1 := by kernel_rfl
 unfold P10 Lib.TabIs World.var? at h ⊢
 rw [hgn] at h ⊢
 simp only [Option.bind_some] at h ⊢
 have hlt : 1 < w.heap.size := by
  rcases Nat.lt_or_ge 1 w.heap.size with h' | h'
  ·exact h'
  ·rw [Array.getElem?_eq_none h'] at h; cases h
 rw [hb.block _ hlt]
 exact h
theorem p10_of_reads {w : World} (h : Lib.VarReads Tryz.prog w "internal/strconv.uint64pow10" (Lib.tabData .u64 Lib.pow10Tab)) : P10 w := by
 obtain ⟨g', t', cs, fuel, p, hg, hty, hvar, hd⟩ := h
 obtain rfl := Option.some.inj ((show Tryz.prog.globalNamed "internal/strconv.uint64pow10" = some 1 by kernel_rfl).symm.trans hg)
 obtain rfl := Option.some.inj ((show (Tryz.prog.globals[1]?).map (·.type) = some 200 by kernel_rfl).symm.trans hty)
 unfold P10 Lib.TabIs
 rw [hvar, ← Lib.cells_of_tab Tryz.underlying200 Tryz.underlying173 (by kernel_rfl) (by kernel_rfl) hd]
theorem bdr {B : Nat} {w0 w : World} (h : Below B w0 w) : ∀ n : Nat, Below B w0 (w.drewN n)
 | 0 => h
 | n + 1 => ⟨(bdr h n).os, (bdr h n).tape, (bdr h n).output, (bdr h n).size, (bdr h n).block⟩
theorem below_growW {w : World} (k : Nat) (os : Array Obj) : Below w.heap.size w (Go.Sort.grow (w.drewN k) os) := by
 have h1 : Below w.heap.size w (w.drewN k) := bdr (Below.refl _ _) k
 refine ⟨h1.os, h1.tape, h1.output, ?_, fun j hj => ?_⟩
 ·simp [Go.Sort.grow]
 ·have h2 : j < (w.drewN k).heap.size := Nat.lt_of_lt_of_le hj h1.size
  rw [← h1.block j hj]
  exact Array.getElem?_append_left h2
theorem fmtInt_any (n : Int) (h0 : -9223372036854775808 ≤ n) (h1 : n ≤ 9223372036854775807) (w : World) (h : P10 w) :
  Calls Tryz.prog 92 #[.int .i64 n, .int .i64 10] w fun e w' => e = .returned (.string (str (Lib.itoa n))) ∧ Hid (Below w.heap.size w w') :=
 Calls.mono (Any.strconv_FormatInt_10 (ρ := Tryz.laysM173_ren) Tryz.laysM173 n h0 h1 w h) (fun e w' h => ⟨h.1, by obtain ⟨k, os, rfl⟩ := h.2; exact below_growW k os⟩)
end Go.Proofs.YtmpjeahibfdehaaGreatDoor
end
