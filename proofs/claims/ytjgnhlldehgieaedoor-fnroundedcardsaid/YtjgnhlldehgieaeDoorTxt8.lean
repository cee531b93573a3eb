/-
  What the model's product of two decimal texts answers, walked.
-/
import Derived.Test.YtjgnhlldehgieaeDoorTxt5
import Derived.Test.YtjgnhlldehgieaeDoorTxt3
namespace Go.Proofs.YtjgnhlldehgieaeDoor
open Go.RowKit
set_option linter.unusedVariables false
set_option maxRecDepth 100000
end Go.Proofs.YtjgnhlldehgieaeDoor
