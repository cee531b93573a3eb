/-
  What the model's test of a range answers, walked.
-/
import Derived.Test.YtbfmncfjknhhoaiDoorRows
import Derived.WalkKit
import Derived.Test.YtbfmncfjknhhoaiDoorLn
namespace Go.Proofs.YtbfmncfjknhhoaiDoor
open Go.RowKit
set_option linter.unusedVariables false

end Go.Proofs.YtbfmncfjknhhoaiDoor
