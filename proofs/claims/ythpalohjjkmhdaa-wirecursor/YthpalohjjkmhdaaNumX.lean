/-
  THE WALKS of wire.Number and wire.Text: a number's form behind any bytes.
-/
import Derived.Test.YthpalohjjkmhdaaNumW
set_option linter.unusedVariables false
namespace Go.Proofs.Ythpalohjjkmhdaa
open Go.RowKit

theorem ofNat_in (n : Nat) (h : n < 256) : ((UInt8.ofNat n).toNat : Int) = (n : Int) := by
  simp
  omega

end Go.Proofs.Ythpalohjjkmhdaa
