/-
  The model's sum of two finite numbers, walked: none of them nought, near each other: the second one is more.
-/
import Derived.Test.YtnkoeidolmiheaaGreatDoorSmF
namespace Go.Proofs.YtnkoeidolmiheaaGreatDoor
open Go.RowKit
set_option linter.unusedVariables false
set_option maxRecDepth 100000
end Go.Proofs.YtnkoeidolmiheaaGreatDoor
namespace Go.Proofs.YtnkoeidolmiheaaGreatDoor
open Go.RowKit
set_option linter.unusedVariables false
set_option maxRecDepth 100000
end Go.Proofs.YtnkoeidolmiheaaGreatDoor
