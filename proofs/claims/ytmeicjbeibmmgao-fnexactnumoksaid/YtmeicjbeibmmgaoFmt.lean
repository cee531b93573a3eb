/-
  The two formats behind their interface, walked.
-/
import Derived.Test.YtmeicjbeibmmgaoRows
import Derived.WalkKit
import Derived.Test.YtmeicjbeibmmgaoLn
namespace Go.Proofs.Ytmeicjbeibmmgao
open Go.RowKit
set_option linter.unusedVariables false
theorem digitCount_64 (w : World) : Calls Try.prog 30 #[.agg #[]] w fun e w' => e = .returned (.int .i64 16) ∧ Below w.heap.size w w' := by
  go_enter Try.func30, Try.ntmps30
  go_wp2
  go_ret
  exact ⟨rfl, (Below.refl _ _).alloc (Nat.le_refl _) _⟩
theorem md_digitCount_64 (n : Nat) (X : World) : (method (n + 1) 39 (.agg #[]) "loop.example/g00085/impl.digitCount").run Try.prog X = .ok (30, .agg #[]) X := by kernel_rfl
theorem leastExp_64 (w : World) : Calls Try.prog 32 #[.agg #[]] w fun e w' => e = .returned (.int .i64 (-398)) ∧ Below w.heap.size w w' := by
  go_enter Try.func32, Try.ntmps32
  go_wp2
  go_ret
  exact ⟨rfl, (Below.refl _ _).alloc (Nat.le_refl _) _⟩
theorem md_leastExp_64 (n : Nat) (X : World) : (method (n + 1) 39 (.agg #[]) "loop.example/g00085/impl.leastExp").run Try.prog X = .ok (32, .agg #[]) X := by kernel_rfl
theorem greatestExp_64 (w : World) : Calls Try.prog 31 #[.agg #[]] w fun e w' => e = .returned (.int .i64 369) ∧ Below w.heap.size w w' := by
  go_enter Try.func31, Try.ntmps31
  go_wp2
  go_ret
  exact ⟨rfl, (Below.refl _ _).alloc (Nat.le_refl _) _⟩
theorem md_greatestExp_64 (n : Nat) (X : World) : (method (n + 1) 39 (.agg #[]) "loop.example/g00085/impl.greatestExp").run Try.prog X = .ok (31, .agg #[]) X := by kernel_rfl
theorem fmtOf_64 (w : World) : Calls Try.prog 11 #[.int .i64 64] w fun e w' => e = .returned (.tuple #[.iface 39 (.agg #[]), .bool true]) ∧ w' = w := by
  go_enter Try.func11, Try.ntmps11
  go_wp2
  go_ret2
  exact ⟨rfl, rfl⟩
theorem digitCount_128 (w : World) : Calls Try.prog 35 #[.agg #[]] w fun e w' => e = .returned (.int .i64 34) ∧ Below w.heap.size w w' := by
  go_enter Try.func35, Try.ntmps35
  go_wp2
  go_ret
  exact ⟨rfl, (Below.refl _ _).alloc (Nat.le_refl _) _⟩
theorem md_digitCount_128 (n : Nat) (X : World) : (method (n + 1) 40 (.agg #[]) "loop.example/g00085/impl.digitCount").run Try.prog X = .ok (35, .agg #[]) X := by kernel_rfl
theorem leastExp_128 (w : World) : Calls Try.prog 37 #[.agg #[]] w fun e w' => e = .returned (.int .i64 (-6176)) ∧ Below w.heap.size w w' := by
  go_enter Try.func37, Try.ntmps37
  go_wp2
  go_ret
  exact ⟨rfl, (Below.refl _ _).alloc (Nat.le_refl _) _⟩
theorem md_leastExp_128 (n : Nat) (X : World) : (method (n + 1) 40 (.agg #[]) "loop.example/g00085/impl.leastExp").run Try.prog X = .ok (37, .agg #[]) X := by kernel_rfl
theorem greatestExp_128 (w : World) : Calls Try.prog 36 #[.agg #[]] w fun e w' => e = .returned (.int .i64 6111) ∧ Below w.heap.size w w' := by
  go_enter Try.func36, Try.ntmps36
  go_wp2
  go_ret
  exact ⟨rfl, (Below.refl _ _).alloc (Nat.le_refl _) _⟩
theorem md_greatestExp_128 (n : Nat) (X : World) : (method (n + 1) 40 (.agg #[]) "loop.example/g00085/impl.greatestExp").run Try.prog X = .ok (36, .agg #[]) X := by kernel_rfl
theorem fmtOf_128 (w : World) : Calls Try.prog 11 #[.int .i64 128] w fun e w' => e = .returned (.tuple #[.iface 40 (.agg #[]), .bool true]) ∧ w' = w := by
  go_enter Try.func11, Try.ntmps11
  go_wp2
  go_ret2
  exact ⟨rfl, rfl⟩
theorem fmtOf_no (f : Int) (w : World) (h1 : f ≠ 64) (h2 : f ≠ 128) : Calls Try.prog 11 #[.int .i64 f] w fun e w' => e = .returned (.tuple #[.nilIface, .bool false]) ∧ w' = w := by
  have e1 : (f == 64) = false := beq_eq_false_iff_ne.2 h1
  have e2 : (f == 128) = false := beq_eq_false_iff_ne.2 h2
  go_enter Try.func11, Try.ntmps11
  go_wp2
  go_ret2
  exact ⟨rfl, rfl⟩
end Go.Proofs.Ytmeicjbeibmmgao
