/-
  What the model's test of a range answers, walked.
-/
import Derived.Test.YtblhdadgndhpkaiDoorRows
import Derived.WalkKit
import Derived.Test.YtblhdadgndhpkaiDoorLn
namespace Go.Proofs.YtblhdadgndhpkaiDoor
open Go.RowKit
set_option linter.unusedVariables false

end Go.Proofs.YtblhdadgndhpkaiDoor
