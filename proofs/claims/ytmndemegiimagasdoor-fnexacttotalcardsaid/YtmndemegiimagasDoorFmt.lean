/-
  The two formats behind their interface, walked.
-/
import Derived.Test.YtmndemegiimagasDoorRows
import Derived.WalkKit
import Derived.Test.YtmndemegiimagasDoorLn
namespace Go.Proofs.YtmndemegiimagasDoor
open Go.RowKit
set_option linter.unusedVariables false
theorem digitCount_64 (w : World) : Calls Tryd.prog 75 #[.agg #[]] w fun e w' => e = .returned (.int .i64 16) ∧ Below w.heap.size w w' := by
  go_enter Tryd.func75, Tryd.ntmps75
  go_wp2
  go_ret
  exact ⟨rfl, (Below.refl _ _).alloc (Nat.le_refl _) _⟩
theorem md_digitCount_64 (n : Nat) (X : World) : (method (n + 1) 60 (.agg #[]) "loop.example/g00085/impl.digitCount").run Tryd.prog X = .ok (75, .agg #[]) X := by kernel_rfl
theorem leastExp_64 (w : World) : Calls Tryd.prog 77 #[.agg #[]] w fun e w' => e = .returned (.int .i64 (-398)) ∧ Below w.heap.size w w' := by
  go_enter Tryd.func77, Tryd.ntmps77
  go_wp2
  go_ret
  exact ⟨rfl, (Below.refl _ _).alloc (Nat.le_refl _) _⟩
theorem md_leastExp_64 (n : Nat) (X : World) : (method (n + 1) 60 (.agg #[]) "loop.example/g00085/impl.leastExp").run Tryd.prog X = .ok (77, .agg #[]) X := by kernel_rfl
theorem greatestExp_64 (w : World) : Calls Tryd.prog 76 #[.agg #[]] w fun e w' => e = .returned (.int .i64 369) ∧ Below w.heap.size w w' := by
  go_enter Tryd.func76, Tryd.ntmps76
  go_wp2
  go_ret
  exact ⟨rfl, (Below.refl _ _).alloc (Nat.le_refl _) _⟩
theorem md_greatestExp_64 (n : Nat) (X : World) : (method (n + 1) 60 (.agg #[]) "loop.example/g00085/impl.greatestExp").run Tryd.prog X = .ok (76, .agg #[]) X := by kernel_rfl
theorem fmtOf_64 (w : World) : Calls Tryd.prog 33 #[.int .i64 64] w fun e w' => e = .returned (.tuple #[.iface 60 (.agg #[]), .bool true]) ∧ w' = w := by
  go_enter Tryd.func33, Tryd.ntmps33
  go_wp2
  go_ret2
  exact ⟨rfl, rfl⟩
theorem digitCount_128 (w : World) : Calls Tryd.prog 80 #[.agg #[]] w fun e w' => e = .returned (.int .i64 34) ∧ Below w.heap.size w w' := by
  go_enter Tryd.func80, Tryd.ntmps80
  go_wp2
  go_ret
  exact ⟨rfl, (Below.refl _ _).alloc (Nat.le_refl _) _⟩
theorem md_digitCount_128 (n : Nat) (X : World) : (method (n + 1) 61 (.agg #[]) "loop.example/g00085/impl.digitCount").run Tryd.prog X = .ok (80, .agg #[]) X := by kernel_rfl
theorem leastExp_128 (w : World) : Calls Tryd.prog 82 #[.agg #[]] w fun e w' => e = .returned (.int .i64 (-6176)) ∧ Below w.heap.size w w' := by
  go_enter Tryd.func82, Tryd.ntmps82
  go_wp2
  go_ret
  exact ⟨rfl, (Below.refl _ _).alloc (Nat.le_refl _) _⟩
theorem md_leastExp_128 (n : Nat) (X : World) : (method (n + 1) 61 (.agg #[]) "loop.example/g00085/impl.leastExp").run Tryd.prog X = .ok (82, .agg #[]) X := by kernel_rfl
theorem greatestExp_128 (w : World) : Calls Tryd.prog 81 #[.agg #[]] w fun e w' => e = .returned (.int .i64 6111) ∧ Below w.heap.size w w' := by
  go_enter Tryd.func81, Tryd.ntmps81
  go_wp2
  go_ret
  exact ⟨rfl, (Below.refl _ _).alloc (Nat.le_refl _) _⟩
theorem md_greatestExp_128 (n : Nat) (X : World) : (method (n + 1) 61 (.agg #[]) "loop.example/g00085/impl.greatestExp").run Tryd.prog X = .ok (81, .agg #[]) X := by kernel_rfl
theorem fmtOf_128 (w : World) : Calls Tryd.prog 33 #[.int .i64 128] w fun e w' => e = .returned (.tuple #[.iface 61 (.agg #[]), .bool true]) ∧ w' = w := by
  go_enter Tryd.func33, Tryd.ntmps33
  go_wp2
  go_ret2
  exact ⟨rfl, rfl⟩
theorem fmtOf_no (f : Int) (w : World) (h1 : f ≠ 64) (h2 : f ≠ 128) : Calls Tryd.prog 33 #[.int .i64 f] w fun e w' => e = .returned (.tuple #[.nilIface, .bool false]) ∧ w' = w := by
  have e1 : (f == 64) = false := beq_eq_false_iff_ne.2 h1
  have e2 : (f == 128) = false := beq_eq_false_iff_ne.2 h2
  go_enter Tryd.func33, Tryd.ntmps33
  go_wp2
  go_ret2
  exact ⟨rfl, rfl⟩
end Go.Proofs.YtmndemegiimagasDoor
