/-
  What the readers of one lane answer (the program's laneAt, the model's l1Lane), walked.
-/
import Derived.Test.YtmeicjbeibmmganDoorRows
import Derived.WalkKit
import Derived.Test.YtmeicjbeibmmganDoorLn
namespace Go.Proofs.YtmeicjbeibmmganDoor
open Go.RowKit
set_option linter.unusedVariables false

theorem laneAt_any (x j : Int) (i : Nat) (w : World) (hj : j = (i : Int)) (hi : i ≤ 15) (h0 : 0 ≤ x) (h1 : x ≤ 18446744073709551615) :
    Calls Tryd.prog 38 #[.int .u64 x, .int .i64 j] w fun e w' => e = .returned (.int .u64 (Ln.ln x i)) ∧ w' = w := by
  subst hj
  go_enter Tryd.func38, Tryd.ntmps38
  go_wp2
  go_ret
  exact ⟨Ln.ret_int (Ln.ln_and x i h0 h1), rfl⟩
end Go.Proofs.YtmeicjbeibmmganDoor
