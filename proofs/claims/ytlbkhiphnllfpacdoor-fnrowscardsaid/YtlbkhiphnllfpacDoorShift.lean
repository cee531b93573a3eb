/-
  What LaneShift and Lead answer, for the program and for its model alike, walked.
-/
import Derived.Test.YtlbkhiphnllfpacDoorRows
import Derived.WalkKit
import Derived.Test.YtlbkhiphnllfpacDoorLn
namespace Go.Proofs.YtlbkhiphnllfpacDoor
open Go.RowKit
set_option linter.unusedVariables false

/-- The program's LaneShift, n from 0 to 16. -/
theorem ishift_up (x : Int) (n : Nat) (w : World) (h0 : 0 ≤ x) (h1 : x ≤ 18446744073709551615) (hn : n ≤ 16) :
    Calls Tryd.prog 53 #[.int .u64 x, .int .i64 n] w fun e w' => e = .returned (.int .u64 (Ln.up x n)) ∧ w' = w := by
  go_enter Tryd.func53, Tryd.ntmps53
  go_wp2
  go_ret
  exact ⟨Ln.ret_int (Ln.up_pow x n), rfl⟩
/-- The program's LaneShift, n from -16 to -1. -/
theorem ishift_down (x : Int) (n : Nat) (w : World) (h0 : 0 ≤ x) (h1 : x ≤ 18446744073709551615) (hp : 0 < n) (hn : n ≤ 16) :
    Calls Tryd.prog 53 #[.int .u64 x, .int .i64 (-(n : Int))] w fun e w' => e = .returned (.int .u64 (Ln.down x n)) ∧ w' = w := by
  go_enter Tryd.func53, Tryd.ntmps53
  go_wp2
  go_ret
  exact ⟨Ln.ret_int (Ln.down_pow x n), rfl⟩
/-- The program's LaneShift, another n. -/
theorem ishift_out (x n : Int) (w : World) (hn : n < -16 ∨ 16 < n) :
    Calls Tryd.prog 53 #[.int .u64 x, .int .i64 n] w fun e w' => e = .returned (.int .u64 0) ∧ w' = w := by
  rcases hn with h | h
  · go_enter Tryd.func53, Tryd.ntmps53
    go_wp2
    go_ret
    exact ⟨rfl, rfl⟩
  · go_enter Tryd.func53, Tryd.ntmps53
    go_wp2
    go_ret
    exact ⟨rfl, rfl⟩
end Go.Proofs.YtlbkhiphnllfpacDoor
