/-
  What the model's test of a range answers, walked.
-/
import Derived.Test.YtcfdhpcfdglmgaiDoorRows
import Derived.WalkKit
import Derived.Test.YtcfdhpcfdglmgaiDoorLn
namespace Go.Proofs.YtcfdhpcfdglmgaiDoor
open Go.RowKit
set_option linter.unusedVariables false

end Go.Proofs.YtcfdhpcfdglmgaiDoor
