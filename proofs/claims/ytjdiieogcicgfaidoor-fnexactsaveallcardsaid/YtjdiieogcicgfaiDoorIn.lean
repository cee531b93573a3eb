/-
  What the model's test of a range answers, walked.
-/
import Derived.Test.YtjdiieogcicgfaiDoorRows
import Derived.WalkKit
import Derived.Test.YtjdiieogcicgfaiDoorLn
namespace Go.Proofs.YtjdiieogcicgfaiDoor
open Go.RowKit
set_option linter.unusedVariables false

end Go.Proofs.YtjdiieogcicgfaiDoor
