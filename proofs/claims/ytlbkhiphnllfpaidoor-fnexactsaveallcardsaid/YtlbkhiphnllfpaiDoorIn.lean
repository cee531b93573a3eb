/-
  What the model's test of a range answers, walked.
-/
import Derived.Test.YtlbkhiphnllfpaiDoorRows
import Derived.WalkKit
import Derived.Test.YtlbkhiphnllfpaiDoorLn
namespace Go.Proofs.YtlbkhiphnllfpaiDoor
open Go.RowKit
set_option linter.unusedVariables false

end Go.Proofs.YtlbkhiphnllfpaiDoor
