/-
  THE WALK of digest's (long).behind.
-/
import Derived.Test.YtilgjldkieojcaaDoorShaD
set_option linter.unusedVariables false
namespace Go.Proofs.YtilgjldkieojcaaDoor
open Go.RowKit

end Go.Proofs.YtilgjldkieojcaaDoor
