/-
  Numbers and results held against each other by the laws, walked.
-/
import Derived.Test.YtmeicjbeibmmgaoDoorNum
import Derived.BigQuiet
import Derived.Deep.QuietTactic
namespace Go.Proofs.YtmeicjbeibmmgaoDoor
open Go.RowKit
set_option linter.unusedVariables false
set_option maxRecDepth 100000
theorem eqNum_same (k : Int) (b : Bool) (e : Int) (s : ByteArray) (w : World) :
    Calls Tryd.prog 17 #[numV k b e s, numV k b e s] w fun r w' => r = .returned (.bool true) ∧ Below w.heap.size w w' := by
  go_enter Tryd.func17, Tryd.ntmps17
  go_wp2
  go_ret
  exact ⟨rfl, ((Below.refl _ _).alloc (Nat.le_refl _) _).alloc (by simp) _⟩
end Go.Proofs.YtmeicjbeibmmgaoDoor
