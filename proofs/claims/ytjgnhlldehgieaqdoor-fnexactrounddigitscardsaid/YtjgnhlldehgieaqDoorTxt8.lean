/-
  What the model's product of two decimal texts answers, walked.
-/
import Derived.Test.YtjgnhlldehgieaqDoorTxt5
import Derived.Test.YtjgnhlldehgieaqDoorTxt3
namespace Go.Proofs.YtjgnhlldehgieaqDoor
open Go.RowKit
set_option linter.unusedVariables false
set_option maxRecDepth 100000
end Go.Proofs.YtjgnhlldehgieaqDoor
