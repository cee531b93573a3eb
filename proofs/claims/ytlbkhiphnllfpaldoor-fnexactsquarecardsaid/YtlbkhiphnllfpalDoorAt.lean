/-
  What the readers of one lane answer (the program's laneAt, the model's l1Lane), walked.
-/
import Derived.Test.YtlbkhiphnllfpalDoorRows
import Derived.WalkKit
import Derived.Test.YtlbkhiphnllfpalDoorLn
namespace Go.Proofs.YtlbkhiphnllfpalDoor
open Go.RowKit
set_option linter.unusedVariables false

theorem laneAt_any (x j : Int) (i : Nat) (w : World) (hj : j = (i : Int)) (hi : i ≤ 15) (h0 : 0 ≤ x) (h1 : x ≤ 18446744073709551615) :
    Calls Tryd.prog 24 #[.int .u64 x, .int .i64 j] w fun e w' => e = .returned (.int .u64 (Ln.ln x i)) ∧ w' = w := by
  subst hj
  go_enter Tryd.func24, Tryd.ntmps24
  go_wp2
  go_ret
  exact ⟨Ln.ret_int (Ln.ln_and x i h0 h1), rfl⟩
theorem l1Lane_any (x j : Int) (i : Nat) (w : World) (hj : j = (i : Int)) (hi : i ≤ 15) (h0 : 0 ≤ x) (h1 : x ≤ 18446744073709551615) :
    Calls Tryd.prog 20 #[.int .u64 x, .int .i64 j] w fun e w' => e = .returned (.int .i64 (Ln.ln x i)) ∧ w' = w := by
  subst hj
  go_enter Tryd.func20, Tryd.ntmps20
  go_wp2
  go_ret
  exact ⟨Ln.ret_int (Ln.ln_mod x i h0), rfl⟩
end Go.Proofs.YtlbkhiphnllfpalDoor
