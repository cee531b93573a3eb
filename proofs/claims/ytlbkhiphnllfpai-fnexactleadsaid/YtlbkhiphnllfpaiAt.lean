/-
  What the readers of one lane answer (the program's laneAt, the model's l1Lane), walked.
-/
import Derived.Test.YtlbkhiphnllfpaiRows
import Derived.WalkKit
import Derived.Test.YtlbkhiphnllfpaiLn
namespace Go.Proofs.Ytlbkhiphnllfpai
open Go.RowKit
set_option linter.unusedVariables false

theorem laneAt_any (x j : Int) (i : Nat) (w : World) (hj : j = (i : Int)) (hi : i ≤ 15) (h0 : 0 ≤ x) (h1 : x ≤ 18446744073709551615) :
    Calls Try.prog 14 #[.int .u64 x, .int .i64 j] w fun e w' => e = .returned (.int .u64 (Ln.ln x i)) ∧ w' = w := by
  subst hj
  go_enter Try.func14, Try.ntmps14
  go_wp2
  go_ret
  exact ⟨Ln.ret_int (Ln.ln_and x i h0 h1), rfl⟩
theorem l1Lane_any (x j : Int) (i : Nat) (w : World) (hj : j = (i : Int)) (hi : i ≤ 15) (h0 : 0 ≤ x) (h1 : x ≤ 18446744073709551615) :
    Calls Try.prog 13 #[.int .u64 x, .int .i64 j] w fun e w' => e = .returned (.int .i64 (Ln.ln x i)) ∧ w' = w := by
  subst hj
  go_enter Try.func13, Try.ntmps13
  go_wp2
  go_ret
  exact ⟨Ln.ret_int (Ln.ln_mod x i h0), rfl⟩
end Go.Proofs.Ytlbkhiphnllfpai
