/-
  The two formats behind their interface, walked.
-/
import Derived.Test.YtmndemegiimagatRows
import Derived.WalkKit
import Derived.Test.YtmndemegiimagatLn
namespace Go.Proofs.Ytmndemegiimagat
open Go.RowKit
set_option linter.unusedVariables false
theorem digitCount_64 (w : World) : Calls Try.prog 61 #[.agg #[]] w fun e w' => e = .returned (.int .i64 16) ∧ Below w.heap.size w w' := by
  go_enter Try.func61, Try.ntmps61
  go_wp2
  go_ret
  exact ⟨rfl, (Below.refl _ _).alloc (Nat.le_refl _) _⟩
theorem md_digitCount_64 (n : Nat) (X : World) : (method (n + 1) 66 (.agg #[]) "loop.example/g00085/impl.digitCount").run Try.prog X = .ok (61, .agg #[]) X := by kernel_rfl
theorem leastExp_64 (w : World) : Calls Try.prog 63 #[.agg #[]] w fun e w' => e = .returned (.int .i64 (-398)) ∧ Below w.heap.size w w' := by
  go_enter Try.func63, Try.ntmps63
  go_wp2
  go_ret
  exact ⟨rfl, (Below.refl _ _).alloc (Nat.le_refl _) _⟩
theorem md_leastExp_64 (n : Nat) (X : World) : (method (n + 1) 66 (.agg #[]) "loop.example/g00085/impl.leastExp").run Try.prog X = .ok (63, .agg #[]) X := by kernel_rfl
theorem greatestExp_64 (w : World) : Calls Try.prog 62 #[.agg #[]] w fun e w' => e = .returned (.int .i64 369) ∧ Below w.heap.size w w' := by
  go_enter Try.func62, Try.ntmps62
  go_wp2
  go_ret
  exact ⟨rfl, (Below.refl _ _).alloc (Nat.le_refl _) _⟩
theorem md_greatestExp_64 (n : Nat) (X : World) : (method (n + 1) 66 (.agg #[]) "loop.example/g00085/impl.greatestExp").run Try.prog X = .ok (62, .agg #[]) X := by kernel_rfl
theorem fmtOf_64 (w : World) : Calls Try.prog 39 #[.int .i64 64] w fun e w' => e = .returned (.tuple #[.iface 66 (.agg #[]), .bool true]) ∧ w' = w := by
  go_enter Try.func39, Try.ntmps39
  go_wp2
  go_ret2
  exact ⟨rfl, rfl⟩
theorem digitCount_128 (w : World) : Calls Try.prog 66 #[.agg #[]] w fun e w' => e = .returned (.int .i64 34) ∧ Below w.heap.size w w' := by
  go_enter Try.func66, Try.ntmps66
  go_wp2
  go_ret
  exact ⟨rfl, (Below.refl _ _).alloc (Nat.le_refl _) _⟩
theorem md_digitCount_128 (n : Nat) (X : World) : (method (n + 1) 67 (.agg #[]) "loop.example/g00085/impl.digitCount").run Try.prog X = .ok (66, .agg #[]) X := by kernel_rfl
theorem leastExp_128 (w : World) : Calls Try.prog 68 #[.agg #[]] w fun e w' => e = .returned (.int .i64 (-6176)) ∧ Below w.heap.size w w' := by
  go_enter Try.func68, Try.ntmps68
  go_wp2
  go_ret
  exact ⟨rfl, (Below.refl _ _).alloc (Nat.le_refl _) _⟩
theorem md_leastExp_128 (n : Nat) (X : World) : (method (n + 1) 67 (.agg #[]) "loop.example/g00085/impl.leastExp").run Try.prog X = .ok (68, .agg #[]) X := by kernel_rfl
theorem greatestExp_128 (w : World) : Calls Try.prog 67 #[.agg #[]] w fun e w' => e = .returned (.int .i64 6111) ∧ Below w.heap.size w w' := by
  go_enter Try.func67, Try.ntmps67
  go_wp2
  go_ret
  exact ⟨rfl, (Below.refl _ _).alloc (Nat.le_refl _) _⟩
theorem md_greatestExp_128 (n : Nat) (X : World) : (method (n + 1) 67 (.agg #[]) "loop.example/g00085/impl.greatestExp").run Try.prog X = .ok (67, .agg #[]) X := by kernel_rfl
theorem fmtOf_128 (w : World) : Calls Try.prog 39 #[.int .i64 128] w fun e w' => e = .returned (.tuple #[.iface 67 (.agg #[]), .bool true]) ∧ w' = w := by
  go_enter Try.func39, Try.ntmps39
  go_wp2
  go_ret2
  exact ⟨rfl, rfl⟩
theorem fmtOf_no (f : Int) (w : World) (h1 : f ≠ 64) (h2 : f ≠ 128) : Calls Try.prog 39 #[.int .i64 f] w fun e w' => e = .returned (.tuple #[.nilIface, .bool false]) ∧ w' = w := by
  have e1 : (f == 64) = false := beq_eq_false_iff_ne.2 h1
  have e2 : (f == 128) = false := beq_eq_false_iff_ne.2 h2
  go_enter Try.func39, Try.ntmps39
  go_wp2
  go_ret2
  exact ⟨rfl, rfl⟩
end Go.Proofs.Ytmndemegiimagat
