/-
  THE WALK of digest's eachBlock with the function number 2 that it is handed.
-/
import Derived.Test.YtiiafkjdeoabaaaDoorShaH
set_option linter.unusedVariables false
namespace Go.Proofs.YtiiafkjdeoabaaaDoor
open Go.RowKit

end Go.Proofs.YtiiafkjdeoabaaaDoor
