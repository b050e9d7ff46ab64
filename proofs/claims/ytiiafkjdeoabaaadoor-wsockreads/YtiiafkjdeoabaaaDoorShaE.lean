/-
  THE WALK of digest's (long).behind.
-/
import Derived.Test.YtiiafkjdeoabaaaDoorShaD
set_option linter.unusedVariables false
namespace Go.Proofs.YtiiafkjdeoabaaaDoor
open Go.RowKit

end Go.Proofs.YtiiafkjdeoabaaaDoor
