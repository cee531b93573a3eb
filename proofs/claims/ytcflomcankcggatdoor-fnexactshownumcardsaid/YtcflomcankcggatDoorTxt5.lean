/-
  What the model's multiplying of decimal texts answers, walked.
-/
import Derived.Test.YtcflomcankcggatDoorTxt2
import Derived.Test.YtcflomcankcggatDoorTxtP
import Derived.OpenShut
namespace Go.Proofs.YtcflomcankcggatDoor
open Go.RowKit
set_option linter.unusedVariables false
set_option maxRecDepth 100000
end Go.Proofs.YtcflomcankcggatDoor
