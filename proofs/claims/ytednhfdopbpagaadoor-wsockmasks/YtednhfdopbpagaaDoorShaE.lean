/-
  THE WALK of digest's (long).behind.
-/
import Derived.Test.YtednhfdopbpagaaDoorShaD
set_option linter.unusedVariables false
namespace Go.Proofs.YtednhfdopbpagaaDoor
open Go.RowKit

end Go.Proofs.YtednhfdopbpagaaDoor
