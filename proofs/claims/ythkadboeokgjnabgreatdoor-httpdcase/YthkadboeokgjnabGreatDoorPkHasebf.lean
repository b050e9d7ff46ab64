/-
  HttpdCase.
-/
import Derived.Test.YthkadboeokgjnabGreatDoorPkHasebc
import Derived.Test.YthkadboeokgjnabGreatDoorPkHasebe
section
set_option linter.unusedVariables false
namespace Go.Proofs.YthkadboeokgjnabGreatDoor
open Go.RowKit

theorem wfu {n : Int} (h : (Lit.int .u64 n).wf = true) : 0 ≤ n ∧ n ≤ 18446744073709551615 := by
  simp [Lit.wf, IntKind.min, IntKind.max, IntKind.bits, IntKind.signed] at h
  omega
theorem httpdCase_walk (a0 : Option Addr) (c0 : Nat) (l0 : List UInt8) (wh : Int) (w : World) (h0 : Bs w a0 c0 l0) (h1 : (Lit.int .u64 wh).wf = true) (hE : EnvH w) :
    Calls Tryz.prog 7 #[.slice a0 l0.length c0, .int .u64 wh] w fun e w' => e = .returned (.bool true) ∧ Below w.heap.size w w' :=
  (case_any index_w w hE a0 c0 l0 h0 wh (wfu h1)).mono fun e w' h => ⟨h.1, unhide h.2⟩
#print axioms httpdCase_walk
end Go.Proofs.YthkadboeokgjnabGreatDoor
end
