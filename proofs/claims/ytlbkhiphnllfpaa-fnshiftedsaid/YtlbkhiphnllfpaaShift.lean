/-
  What LaneShift and Lead answer, for the program and for its model alike, walked.
-/
import Derived.Test.YtlbkhiphnllfpaaRows
import Derived.WalkKit
import Derived.Test.YtlbkhiphnllfpaaLn
namespace Go.Proofs.Ytlbkhiphnllfpaa
open Go.RowKit
set_option linter.unusedVariables false

/-- The program's LaneShift, n from 0 to 16. -/
theorem ishift_up (x : Int) (n : Nat) (w : World) (h0 : 0 ≤ x) (h1 : x ≤ 18446744073709551615) (hn : n ≤ 16) :
    Calls Try.prog 7 #[.int .u64 x, .int .i64 n] w fun e w' => e = .returned (.int .u64 (Ln.up x n)) ∧ w' = w := by
  go_enter Try.func7, Try.ntmps7
  go_wp2
  go_ret
  exact ⟨Ln.ret_int (Ln.up_pow x n), rfl⟩
/-- The program's LaneShift, n from -16 to -1. -/
theorem ishift_down (x : Int) (n : Nat) (w : World) (h0 : 0 ≤ x) (h1 : x ≤ 18446744073709551615) (hp : 0 < n) (hn : n ≤ 16) :
    Calls Try.prog 7 #[.int .u64 x, .int .i64 (-(n : Int))] w fun e w' => e = .returned (.int .u64 (Ln.down x n)) ∧ w' = w := by
  go_enter Try.func7, Try.ntmps7
  go_wp2
  go_ret
  exact ⟨Ln.ret_int (Ln.down_pow x n), rfl⟩
/-- The program's LaneShift, another n. -/
theorem ishift_out (x n : Int) (w : World) (hn : n < -16 ∨ 16 < n) :
    Calls Try.prog 7 #[.int .u64 x, .int .i64 n] w fun e w' => e = .returned (.int .u64 0) ∧ w' = w := by
  rcases hn with h | h
  · go_enter Try.func7, Try.ntmps7
    go_wp2
    go_ret
    exact ⟨rfl, rfl⟩
  · go_enter Try.func7, Try.ntmps7
    go_wp2
    go_ret
    exact ⟨rfl, rfl⟩
/-- The model's LaneShift, n from 0 to 16. -/
theorem sshift_up (x : Int) (n : Nat) (w : World) (h0 : 0 ≤ x) (h1 : x ≤ 18446744073709551615) (hn : n ≤ 16) :
    Calls Try.prog 8 #[.int .u64 x, .int .i64 n] w fun e w' => e = .returned (.int .u64 (Ln.up x n)) ∧ w' = w := by
  have hlo : (-16 : Int) ≤ (n : Int) := by omega
  have hhi : (n : Int) ≤ 16 := by omega
  go_enter Try.func8, Try.ntmps8
  go_wp2
  go_loop [0, 1] (fun t i => ∃ k : Nat, k ≤ n ∧ i = .int .i64 ((n : Int) - k) ∧ t = .int .u64 (Ln.up x k)) (fun _ i => (intOf i).toNat)
  case atStart => exact ⟨0, Nat.zero_le _, by simp, by rw [Ln.up_zero x h0 h1]⟩
  case round =>
    obtain ⟨k, hk, rfl, rfl⟩ := hrel
    by_cases hlt : k < n
    · go_wp2
      go_round
      case rel => exact ⟨k + 1, by omega, Ln.val_int (by omega), Ln.val_int (Ln.up_step x k)⟩
      case measure => simp [intOf]; omega
    · go_wp2
      go_loop [0, 1] (fun t i => i = .int .i64 0 ∧ t = .int .u64 (Ln.up x n)) (fun _ i => 0)
      case atStart => exact ⟨Ln.val_int (by omega), Ln.val_int (by rw [show k = n by omega])⟩
      case round =>
        obtain ⟨rfl, rfl⟩ := hrel
        go_wp2
        go_ret
        exact ⟨rfl, rfl⟩
/-- The model's LaneShift, n from -16 to -1. -/
theorem sshift_down (x : Int) (n : Nat) (w : World) (h0 : 0 ≤ x) (h1 : x ≤ 18446744073709551615) (hp : 0 < n) (hn : n ≤ 16) :
    Calls Try.prog 8 #[.int .u64 x, .int .i64 (-(n : Int))] w fun e w' => e = .returned (.int .u64 (Ln.down x n)) ∧ w' = w := by
  have hlo : (-16 : Int) ≤ -(n : Int) := by omega
  have hhi : -(n : Int) ≤ 16 := by omega
  go_enter Try.func8, Try.ntmps8
  go_wp2
  go_loop [0, 1] (fun t i => i = .int .i64 (-(n : Int)) ∧ t = .int .u64 x) (fun _ i => 0)
  case atStart => exact ⟨rfl, rfl⟩
  case round =>
    obtain ⟨rfl, rfl⟩ := hrel
    go_wp2
    go_loop [0, 1] (fun t i => ∃ k : Nat, k ≤ n ∧ i = .int .i64 ((k : Int) - n) ∧ t = .int .u64 (Ln.down x k)) (fun _ i => (-(intOf i)).toNat)
    case atStart => exact ⟨0, Nat.zero_le _, Ln.val_int (by omega), Ln.val_int (Ln.down_zero x).symm⟩
    case round =>
      obtain ⟨k, hk, rfl, rfl⟩ := hrel
      by_cases hlt : k < n
      · go_wp2
        go_round
        case rel => exact ⟨k + 1, by omega, Ln.val_int (by omega), Ln.val_int (Ln.down_succ x k)⟩
        case measure => simp [intOf]; omega
      · go_wp2
        go_ret
        exact ⟨Ln.ret_int (by rw [show k = n by omega]), rfl⟩
/-- The model's LaneShift, another n. -/
theorem sshift_out (x n : Int) (w : World) (hn : n < -16 ∨ 16 < n) :
    Calls Try.prog 8 #[.int .u64 x, .int .i64 n] w fun e w' => e = .returned (.int .u64 0) ∧ w' = w := by
  rcases hn with h | h
  · have h' : decide (-16 ≤ n) = false := by simp; omega
    go_enter Try.func8, Try.ntmps8
    go_wp2
    go_ret
    exact ⟨rfl, rfl⟩
  · have h' : decide (n ≤ 16) = false := by simp; omega
    go_enter Try.func8, Try.ntmps8
    go_wp2
    go_ret
    exact ⟨rfl, rfl⟩
end Go.Proofs.Ytlbkhiphnllfpaa
