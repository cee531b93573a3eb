/-
  Add of the model, nothing assumed.
-/
import Derived.Test.YtmndemegiimagasGreatDoorFin
import Derived.Test.YtmndemegiimagasGreatDoorFinA
import Derived.Test.YtmndemegiimagasGreatDoorSmL
namespace Go.Proofs.YtmndemegiimagasGreatDoor
open Go.RowKit
set_option linter.unusedVariables false
set_option maxRecDepth 100000
end Go.Proofs.YtmndemegiimagasGreatDoor
namespace Go.Proofs.YtmndemegiimagasGreatDoor
open Go.RowKit
set_option linter.unusedVariables false
set_option maxRecDepth 100000
end Go.Proofs.YtmndemegiimagasGreatDoor
