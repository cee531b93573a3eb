/-
  The two formats behind their interface, walked.
-/
import Derived.Test.YtcflomcankcggatDoorRows
import Derived.WalkKit
import Derived.Test.YtcflomcankcggatDoorLn
namespace Go.Proofs.YtcflomcankcggatDoor
open Go.RowKit
set_option linter.unusedVariables false
set_option maxRecDepth 100000
theorem digitCount_64 (w : World) : Calls Tryd.prog 106 #[.agg #[]] w fun e w' => e = .returned (.int .i64 16) ∧ Below w.heap.size w w' := by
  go_enter Tryd.func106, Tryd.ntmps106
  go_wp2
  go_ret
  exact ⟨rfl, (Below.refl _ _).alloc (Nat.le_refl _) _⟩
theorem md_digitCount_64 (n : Nat) (X : World) : (method (n + 1) 61 (.agg #[]) "loop.example/g00085/impl.digitCount").run Tryd.prog X = .ok (106, .agg #[]) X := by kernel_rfl
theorem leastExp_64 (w : World) : Calls Tryd.prog 108 #[.agg #[]] w fun e w' => e = .returned (.int .i64 (-398)) ∧ Below w.heap.size w w' := by
  go_enter Tryd.func108, Tryd.ntmps108
  go_wp2
  go_ret
  exact ⟨rfl, (Below.refl _ _).alloc (Nat.le_refl _) _⟩
theorem md_leastExp_64 (n : Nat) (X : World) : (method (n + 1) 61 (.agg #[]) "loop.example/g00085/impl.leastExp").run Tryd.prog X = .ok (108, .agg #[]) X := by kernel_rfl
theorem greatestExp_64 (w : World) : Calls Tryd.prog 107 #[.agg #[]] w fun e w' => e = .returned (.int .i64 369) ∧ Below w.heap.size w w' := by
  go_enter Tryd.func107, Tryd.ntmps107
  go_wp2
  go_ret
  exact ⟨rfl, (Below.refl _ _).alloc (Nat.le_refl _) _⟩
theorem md_greatestExp_64 (n : Nat) (X : World) : (method (n + 1) 61 (.agg #[]) "loop.example/g00085/impl.greatestExp").run Tryd.prog X = .ok (107, .agg #[]) X := by kernel_rfl
theorem fmtOf_64 (w : World) : Calls Tryd.prog 31 #[.int .i64 64] w fun e w' => e = .returned (.tuple #[.iface 61 (.agg #[]), .bool true]) ∧ w' = w := by
  go_enter Tryd.func31, Tryd.ntmps31
  go_wp2
  go_ret2
  exact ⟨rfl, rfl⟩
theorem digitCount_128 (w : World) : Calls Tryd.prog 111 #[.agg #[]] w fun e w' => e = .returned (.int .i64 34) ∧ Below w.heap.size w w' := by
  go_enter Tryd.func111, Tryd.ntmps111
  go_wp2
  go_ret
  exact ⟨rfl, (Below.refl _ _).alloc (Nat.le_refl _) _⟩
theorem md_digitCount_128 (n : Nat) (X : World) : (method (n + 1) 62 (.agg #[]) "loop.example/g00085/impl.digitCount").run Tryd.prog X = .ok (111, .agg #[]) X := by kernel_rfl
theorem leastExp_128 (w : World) : Calls Tryd.prog 113 #[.agg #[]] w fun e w' => e = .returned (.int .i64 (-6176)) ∧ Below w.heap.size w w' := by
  go_enter Tryd.func113, Tryd.ntmps113
  go_wp2
  go_ret
  exact ⟨rfl, (Below.refl _ _).alloc (Nat.le_refl _) _⟩
theorem md_leastExp_128 (n : Nat) (X : World) : (method (n + 1) 62 (.agg #[]) "loop.example/g00085/impl.leastExp").run Tryd.prog X = .ok (113, .agg #[]) X := by kernel_rfl
theorem greatestExp_128 (w : World) : Calls Tryd.prog 112 #[.agg #[]] w fun e w' => e = .returned (.int .i64 6111) ∧ Below w.heap.size w w' := by
  go_enter Tryd.func112, Tryd.ntmps112
  go_wp2
  go_ret
  exact ⟨rfl, (Below.refl _ _).alloc (Nat.le_refl _) _⟩
theorem md_greatestExp_128 (n : Nat) (X : World) : (method (n + 1) 62 (.agg #[]) "loop.example/g00085/impl.greatestExp").run Tryd.prog X = .ok (112, .agg #[]) X := by kernel_rfl
theorem fmtOf_128 (w : World) : Calls Tryd.prog 31 #[.int .i64 128] w fun e w' => e = .returned (.tuple #[.iface 62 (.agg #[]), .bool true]) ∧ w' = w := by
  go_enter Tryd.func31, Tryd.ntmps31
  go_wp2
  go_ret2
  exact ⟨rfl, rfl⟩
theorem fmtOf_no (f : Int) (w : World) (h1 : f ≠ 64) (h2 : f ≠ 128) : Calls Tryd.prog 31 #[.int .i64 f] w fun e w' => e = .returned (.tuple #[.nilIface, .bool false]) ∧ w' = w := by
  have e1 : (f == 64) = false := beq_eq_false_iff_ne.2 h1
  have e2 : (f == 128) = false := beq_eq_false_iff_ne.2 h2
  go_enter Tryd.func31, Tryd.ntmps31
  go_wp2
  go_ret2
  exact ⟨rfl, rfl⟩
end Go.Proofs.YtcflomcankcggatDoor
