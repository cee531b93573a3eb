/-
  What the readers of one lane answer (the program's laneAt, the model's l1Lane), walked.
-/
import Derived.Test.YtlbkhiphnllfpakDoorRows
import Derived.WalkKit
import Derived.Test.YtlbkhiphnllfpakDoorLn
namespace Go.Proofs.YtlbkhiphnllfpakDoor
open Go.RowKit
set_option linter.unusedVariables false

theorem laneAt_any (x j : Int) (i : Nat) (w : World) (hj : j = (i : Int)) (hi : i ≤ 15) (h0 : 0 ≤ x) (h1 : x ≤ 18446744073709551615) :
    Calls Tryd.prog 34 #[.int .u64 x, .int .i64 j] w fun e w' => e = .returned (.int .u64 (Ln.ln x i)) ∧ w' = w := by
  subst hj
  go_enter Tryd.func34, Tryd.ntmps34
  go_wp2
  go_ret
  exact ⟨Ln.ret_int (Ln.ln_and x i h0 h1), rfl⟩
theorem l1Lane_any (x j : Int) (i : Nat) (w : World) (hj : j = (i : Int)) (hi : i ≤ 15) (h0 : 0 ≤ x) (h1 : x ≤ 18446744073709551615) :
    Calls Tryd.prog 44 #[.int .u64 x, .int .i64 j] w fun e w' => e = .returned (.int .i64 (Ln.ln x i)) ∧ w' = w := by
  subst hj
  go_enter Tryd.func44, Tryd.ntmps44
  go_wp2
  go_ret
  exact ⟨Ln.ret_int (Ln.ln_mod x i h0), rfl⟩
end Go.Proofs.YtlbkhiphnllfpakDoor
