/-
  THE LIBRARY's slices.Grow of nil and slices.Concat of two lists of bytes.
-/
import Derived.Test.YthkadboeokgjnacGreatDoorOwn
import Derived.Test.YthkadboeokgjnacGreatDoorSlc
import Derived.WalkSpells
import Derived.WalkLawsBesides
import Derived.Lib.AppendZeros
set_option linter.unusedVariables false
namespace Go.Proofs.YthkadboeokgjnacGreatDoor
open Go.RowKit

end Go.Proofs.YthkadboeokgjnacGreatDoor
