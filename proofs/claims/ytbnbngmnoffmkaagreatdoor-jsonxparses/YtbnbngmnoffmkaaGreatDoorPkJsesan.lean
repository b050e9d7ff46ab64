/-
  THE LIBRARY's slices.Grow of nil and slices.Concat of two lists of bytes.
-/
import Derived.Test.YtbnbngmnoffmkaaGreatDoorPkJsesac
import Derived.WalkSpells
import Derived.WalkLawsBesides
import Derived.Lib.AppendZeros
section
set_option linter.unusedVariables false
namespace Go.Proofs.YtbnbngmnoffmkaaGreatDoor
open Go.RowKit

end Go.Proofs.YtbnbngmnoffmkaaGreatDoor
end
