/-
  Order of the model: NaNs, quanta; walked.
-/
import Derived.Test.YtmndemegiimagasGreatDoorOrn
namespace Go.Proofs.YtmndemegiimagasGreatDoor
open Go.RowKit
set_option linter.unusedVariables false
set_option maxRecDepth 100000
end Go.Proofs.YtmndemegiimagasGreatDoor
