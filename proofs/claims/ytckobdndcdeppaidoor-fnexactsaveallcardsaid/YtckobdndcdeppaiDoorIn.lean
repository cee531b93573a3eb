/-
  What the model's test of a range answers, walked.
-/
import Derived.Test.YtckobdndcdeppaiDoorRows
import Derived.WalkKit
import Derived.Test.YtckobdndcdeppaiDoorLn
namespace Go.Proofs.YtckobdndcdeppaiDoor
open Go.RowKit
set_option linter.unusedVariables false

end Go.Proofs.YtckobdndcdeppaiDoor
