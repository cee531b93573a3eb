/-
  The model's sum of two finite numbers, walked: none of them nought, near each other: the first one is more.
-/
import Derived.Test.YtmndemegiimagasGreatDoorSmE
namespace Go.Proofs.YtmndemegiimagasGreatDoor
open Go.RowKit
set_option linter.unusedVariables false
set_option maxRecDepth 100000
end Go.Proofs.YtmndemegiimagasGreatDoor
