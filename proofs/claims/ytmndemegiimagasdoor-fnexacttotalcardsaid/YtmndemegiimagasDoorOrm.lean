/-
  Order of the model: NaNs, quanta; walked.
-/
import Derived.Test.YtmndemegiimagasDoorOrn
namespace Go.Proofs.YtmndemegiimagasDoor
open Go.RowKit
set_option linter.unusedVariables false
theorem l15IsNan_any (k : Int) (b : Bool) (e : Int) (s : ByteArray) (w : World) : Calls Tryd.prog 12 #[numV k b e s] w fun x w' => x = .returned (.bool ((k == 3) || (k == 4))) ∧ Below w.heap.size w w' := by
  cases h1 : (k == 3) with
  | true =>
    go_enter Tryd.func12, Tryd.ntmps12
    go_wp2
    go_ret
    exact ⟨rfl, (Below.refl _ _).alloc (Nat.le_refl _) _⟩
  | false =>
    go_enter Tryd.func12, Tryd.ntmps12
    go_wp2
    go_ret
    exact ⟨rfl, (Below.refl _ _).alloc (Nat.le_refl _) _⟩
end Go.Proofs.YtmndemegiimagasDoor
