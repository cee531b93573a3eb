/-
  What the model's multiplying of decimal texts answers, walked.
-/
import Derived.Test.YtjgnhlldehgieaqDoorTxt2
import Derived.Test.YtjgnhlldehgieaqDoorTxtP
import Derived.OpenShut
namespace Go.Proofs.YtjgnhlldehgieaqDoor
open Go.RowKit
set_option linter.unusedVariables false
set_option maxRecDepth 100000
end Go.Proofs.YtjgnhlldehgieaqDoor
