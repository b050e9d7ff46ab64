/-
  THE LIBRARY's slices.Grow of nil and slices.Concat of two lists of bytes.
-/
import Derived.Test.YtmpjeahibfdehaaGreatDoorPkMtesac
import Derived.WalkSpells
import Derived.WalkLawsBesides
import Derived.Lib.AppendZeros
section
set_option linter.unusedVariables false
namespace Go.Proofs.YtmpjeahibfdehaaGreatDoor
open Go.RowKit

end Go.Proofs.YtmpjeahibfdehaaGreatDoor
end
