/-
  An exact result finished, of the model, walked.
-/
import Derived.Test.YtmndemegiimagasGreatDoorBx5
import Derived.Test.YtmndemegiimagasGreatDoorRnd2
import Derived.Deep.CutBlock
import Derived.Deep.DeepCutAuto
import Derived.Deep.LoopGhost
import Derived.Great.Walk
import Derived.Laws.CopyOwn
import Derived.Laws.Tables
namespace Go.Proofs.YtmndemegiimagasGreatDoor
open Go.RowKit
set_option linter.unusedVariables false
set_option maxRecDepth 100000
/-- A function's end, behind its last store. -/
theorem end_ret {P : Program} {ops : Array Oper} {Q : Exit → Act → World → Prop} {K : Act → World → Prop} {a : Act} {w : World} (hK : ∀ a w, Code.wp P Code.ret Q a w → K a w) (h : Q .ret a w) : Hid (wpList P ops (Exit.then K Q) [] a w) := hK _ _ (wp_ret h)
end Go.Proofs.YtmndemegiimagasGreatDoor
