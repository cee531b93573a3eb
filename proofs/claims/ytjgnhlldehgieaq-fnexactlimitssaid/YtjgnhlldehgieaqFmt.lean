/-
  The two formats behind their interface, walked.
-/
import Derived.Test.YtjgnhlldehgieaqRows
import Derived.WalkKit
import Derived.Test.YtjgnhlldehgieaqLn
namespace Go.Proofs.Ytjgnhlldehgieaq
open Go.RowKit
set_option linter.unusedVariables false
theorem digitCount_64 (w : World) : Calls Try.prog 80 #[.agg #[]] w fun e w' => e = .returned (.int .i64 16) ∧ Below w.heap.size w w' := by
  go_enter Try.func80, Try.ntmps80
  go_wp2
  go_ret
  exact ⟨rfl, (Below.refl _ _).alloc (Nat.le_refl _) _⟩
theorem md_digitCount_64 (n : Nat) (X : World) : (method (n + 1) 68 (.agg #[]) "loop.example/g00085/impl.digitCount").run Try.prog X = .ok (80, .agg #[]) X := by kernel_rfl
theorem leastExp_64 (w : World) : Calls Try.prog 82 #[.agg #[]] w fun e w' => e = .returned (.int .i64 (-398)) ∧ Below w.heap.size w w' := by
  go_enter Try.func82, Try.ntmps82
  go_wp2
  go_ret
  exact ⟨rfl, (Below.refl _ _).alloc (Nat.le_refl _) _⟩
theorem md_leastExp_64 (n : Nat) (X : World) : (method (n + 1) 68 (.agg #[]) "loop.example/g00085/impl.leastExp").run Try.prog X = .ok (82, .agg #[]) X := by kernel_rfl
theorem greatestExp_64 (w : World) : Calls Try.prog 81 #[.agg #[]] w fun e w' => e = .returned (.int .i64 369) ∧ Below w.heap.size w w' := by
  go_enter Try.func81, Try.ntmps81
  go_wp2
  go_ret
  exact ⟨rfl, (Below.refl _ _).alloc (Nat.le_refl _) _⟩
theorem md_greatestExp_64 (n : Nat) (X : World) : (method (n + 1) 68 (.agg #[]) "loop.example/g00085/impl.greatestExp").run Try.prog X = .ok (81, .agg #[]) X := by kernel_rfl
theorem fmtOf_64 (w : World) : Calls Try.prog 28 #[.int .i64 64] w fun e w' => e = .returned (.tuple #[.iface 68 (.agg #[]), .bool true]) ∧ w' = w := by
  go_enter Try.func28, Try.ntmps28
  go_wp2
  go_ret2
  exact ⟨rfl, rfl⟩
theorem digitCount_128 (w : World) : Calls Try.prog 85 #[.agg #[]] w fun e w' => e = .returned (.int .i64 34) ∧ Below w.heap.size w w' := by
  go_enter Try.func85, Try.ntmps85
  go_wp2
  go_ret
  exact ⟨rfl, (Below.refl _ _).alloc (Nat.le_refl _) _⟩
theorem md_digitCount_128 (n : Nat) (X : World) : (method (n + 1) 69 (.agg #[]) "loop.example/g00085/impl.digitCount").run Try.prog X = .ok (85, .agg #[]) X := by kernel_rfl
theorem leastExp_128 (w : World) : Calls Try.prog 87 #[.agg #[]] w fun e w' => e = .returned (.int .i64 (-6176)) ∧ Below w.heap.size w w' := by
  go_enter Try.func87, Try.ntmps87
  go_wp2
  go_ret
  exact ⟨rfl, (Below.refl _ _).alloc (Nat.le_refl _) _⟩
theorem md_leastExp_128 (n : Nat) (X : World) : (method (n + 1) 69 (.agg #[]) "loop.example/g00085/impl.leastExp").run Try.prog X = .ok (87, .agg #[]) X := by kernel_rfl
theorem greatestExp_128 (w : World) : Calls Try.prog 86 #[.agg #[]] w fun e w' => e = .returned (.int .i64 6111) ∧ Below w.heap.size w w' := by
  go_enter Try.func86, Try.ntmps86
  go_wp2
  go_ret
  exact ⟨rfl, (Below.refl _ _).alloc (Nat.le_refl _) _⟩
theorem md_greatestExp_128 (n : Nat) (X : World) : (method (n + 1) 69 (.agg #[]) "loop.example/g00085/impl.greatestExp").run Try.prog X = .ok (86, .agg #[]) X := by kernel_rfl
theorem fmtOf_128 (w : World) : Calls Try.prog 28 #[.int .i64 128] w fun e w' => e = .returned (.tuple #[.iface 69 (.agg #[]), .bool true]) ∧ w' = w := by
  go_enter Try.func28, Try.ntmps28
  go_wp2
  go_ret2
  exact ⟨rfl, rfl⟩
theorem fmtOf_no (f : Int) (w : World) (h1 : f ≠ 64) (h2 : f ≠ 128) : Calls Try.prog 28 #[.int .i64 f] w fun e w' => e = .returned (.tuple #[.nilIface, .bool false]) ∧ w' = w := by
  have e1 : (f == 64) = false := beq_eq_false_iff_ne.2 h1
  have e2 : (f == 128) = false := beq_eq_false_iff_ne.2 h2
  go_enter Try.func28, Try.ntmps28
  go_wp2
  go_ret2
  exact ⟨rfl, rfl⟩
end Go.Proofs.Ytjgnhlldehgieaq
