/-
  THE WALK of digest's eachBlock with the function number 2 that it is handed.
-/
import Derived.Test.YtednhfdopbpagaaDoorShaH
set_option linter.unusedVariables false
namespace Go.Proofs.YtednhfdopbpagaaDoor
open Go.RowKit

end Go.Proofs.YtednhfdopbpagaaDoor
