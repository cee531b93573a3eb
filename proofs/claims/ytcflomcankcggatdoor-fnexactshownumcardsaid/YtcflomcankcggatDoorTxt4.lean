/-
  What the model's comparing and subtracting of decimal texts answer, walked.
-/
import Derived.Test.YtcflomcankcggatDoorTxt2
import Derived.Test.YtcflomcankcggatDoorTxtN
namespace Go.Proofs.YtcflomcankcggatDoor
open Go.RowKit
set_option linter.unusedVariables false
set_option maxRecDepth 100000
theorem byte_at (ds : List Int) (h : Dec ds) (k : Nat) (hk : k < (tx ds).size) : ∃ z : Int, (((tx ds)[k]'hk).toNat : Int) = z ∧ z = 48 + ds.getD k 0 ∧ 48 ≤ z ∧ z ≤ 57 := by
  have a := tx_at ds h k hk
  have b := dec_at ds h k
  exact ⟨_, rfl, a, by omega, by omega⟩
end Go.Proofs.YtcflomcankcggatDoor
