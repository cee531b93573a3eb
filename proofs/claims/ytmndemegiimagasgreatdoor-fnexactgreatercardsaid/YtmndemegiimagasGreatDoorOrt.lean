/-
  Order of the model: Compare, Total; walked.
-/
import Derived.Test.YtmndemegiimagasGreatDoorOrs
import Derived.Test.YtmndemegiimagasGreatDoorOrm
import Derived.Test.YtmndemegiimagasGreatDoorOrd
namespace Go.Proofs.YtmndemegiimagasGreatDoor
open Go.RowKit
set_option linter.unusedVariables false
set_option maxRecDepth 100000
end Go.Proofs.YtmndemegiimagasGreatDoor
