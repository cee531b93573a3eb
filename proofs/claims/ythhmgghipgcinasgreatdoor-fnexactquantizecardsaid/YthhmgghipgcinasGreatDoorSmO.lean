/-
  Add of the model, nothing assumed.
-/
import Derived.Test.YthhmgghipgcinasGreatDoorFin
import Derived.Test.YthhmgghipgcinasGreatDoorFinA
import Derived.Test.YthhmgghipgcinasGreatDoorSmL
namespace Go.Proofs.YthhmgghipgcinasGreatDoor
open Go.RowKit
set_option linter.unusedVariables false
set_option maxRecDepth 100000
end Go.Proofs.YthhmgghipgcinasGreatDoor
namespace Go.Proofs.YthhmgghipgcinasGreatDoor
open Go.RowKit
set_option linter.unusedVariables false
set_option maxRecDepth 100000
end Go.Proofs.YthhmgghipgcinasGreatDoor
