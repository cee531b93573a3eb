/-
  Numbers and results held against each other by the laws, walked.
-/
import Derived.Test.YtcflomcankcggatDoorBx4
import Derived.BigQuiet
import Derived.Deep.QuietTactic
namespace Go.Proofs.YtcflomcankcggatDoor
open Go.RowKit
set_option linter.unusedVariables false
set_option maxRecDepth 100000
theorem eqNum_same (k : Int) (b : Bool) (e : Int) (s : ByteArray) (w : World) :
    Calls Tryd.prog 27 #[numV k b e s, numV k b e s] w fun r w' => r = .returned (.bool true) ∧ Below w.heap.size w w' := by
  go_enter Tryd.func27, Tryd.ntmps27
  go_wp2
  go_ret
  exact ⟨rfl, ((Below.refl _ _).alloc (Nat.le_refl _) _).alloc (by simp) _⟩
end Go.Proofs.YtcflomcankcggatDoor
