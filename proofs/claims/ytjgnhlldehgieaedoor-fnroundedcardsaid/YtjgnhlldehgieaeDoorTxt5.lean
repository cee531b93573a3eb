/-
  What the model's multiplying of decimal texts answers, walked.
-/
import Derived.Test.YtjgnhlldehgieaeDoorTxt2
import Derived.Test.YtjgnhlldehgieaeDoorTxtP
import Derived.OpenShut
namespace Go.Proofs.YtjgnhlldehgieaeDoor
open Go.RowKit
set_option linter.unusedVariables false
set_option maxRecDepth 100000
end Go.Proofs.YtjgnhlldehgieaeDoor
