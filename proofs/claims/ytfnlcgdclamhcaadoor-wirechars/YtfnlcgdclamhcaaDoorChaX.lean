/-
  WireChars, with the reference's first walked.
-/
import Derived.Test.YtfnlcgdclamhcaaDoorFstW
import Derived.Test.YtfnlcgdclamhcaaDoorCharL
namespace Go.Proofs.YtfnlcgdclamhcaaDoor
open Go.RowKit

theorem wireChars_walk (a0 : Option Addr) (cap0 : Nat) (l0 : List UInt8) (w : World) (p0 : Bs w a0 cap0 l0) (hT : Tabs w) :
    Calls Tryd.prog 3 #[.slice a0 l0.length cap0] w fun e w' => e = .returned (.bool true) ∧ Below w.heap.size w w' :=
  wireChars_of (fun b off cap l w hr hne hle hl hcm => first_any b off cap l w hr hne hle hl hcm) a0 cap0 l0 w p0 hT
#print axioms wireChars_walk
end Go.Proofs.YtfnlcgdclamhcaaDoor
