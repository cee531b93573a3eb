/-
  What the model's test of a range answers, walked.
-/
import Derived.Test.YtbgnjhepfekdaaiDoorRows
import Derived.WalkKit
import Derived.Test.YtbgnjhepfekdaaiDoorLn
namespace Go.Proofs.YtbgnjhepfekdaaiDoor
open Go.RowKit
set_option linter.unusedVariables false

end Go.Proofs.YtbgnjhepfekdaaiDoor
