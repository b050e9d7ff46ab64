/-
  THE WALK of digest's eachBlock with the function number 2 that it is handed.
-/
import Derived.Test.YtilgjldkieojcaaDoorShaH
set_option linter.unusedVariables false
namespace Go.Proofs.YtilgjldkieojcaaDoor
open Go.RowKit

end Go.Proofs.YtilgjldkieojcaaDoor
