/-
  What the model's product of two decimal texts answers, walked.
-/
import Derived.Test.YtcflomcankcggatDoorTxt5
import Derived.Test.YtcflomcankcggatDoorTxt3
namespace Go.Proofs.YtcflomcankcggatDoor
open Go.RowKit
set_option linter.unusedVariables false
set_option maxRecDepth 100000
end Go.Proofs.YtcflomcankcggatDoor
