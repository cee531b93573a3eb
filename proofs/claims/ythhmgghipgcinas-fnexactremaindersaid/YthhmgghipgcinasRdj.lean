/-
  The program's parts of rounding, walked: digits split, one more, the modes.
-/
import Derived.Test.YthhmgghipgcinasRdi
namespace Go.Proofs.Ythhmgghipgcinas
open Go.RowKit
set_option linter.unusedVariables false
set_option maxRecDepth 100000
/-- What a mode asks of a number whose last digits go. -/
abbrev cutV (neg od : Bool) (p : Int) : Value := .agg #[.bool neg, .bool od, .int .i64 p]
set_option maxRecDepth 100000 in
theorem grow1 (neg od : Bool) (p : Int) (hp : p = 0 ∨ p = 1 ∨ p = 2 ∨ p = 3) (w : World) : Calls Try.prog 51 #[cutV neg od p] w fun e w' => e = .returned (.bool (grw 1 neg od p)) ∧ Below w.heap.size w w' := by
  rcases hp with rfl | rfl | rfl | rfl <;> cases neg <;> cases od
  all_goals
    go_enter Try.func51, Try.ntmps51
    go_wp2
    go_ret
    exact ⟨rfl, (Below.refl _ _).alloc (Nat.le_refl _) _⟩
set_option maxRecDepth 100000 in
theorem grow2 (neg od : Bool) (p : Int) (hp : p = 0 ∨ p = 1 ∨ p = 2 ∨ p = 3) (w : World) : Calls Try.prog 74 #[cutV neg od p] w fun e w' => e = .returned (.bool (grw 2 neg od p)) ∧ Below w.heap.size w w' := by
  rcases hp with rfl | rfl | rfl | rfl <;> cases neg <;> cases od
  all_goals
    go_enter Try.func74, Try.ntmps74
    go_wp2
    go_ret
    exact ⟨rfl, (Below.refl _ _).alloc (Nat.le_refl _) _⟩
set_option maxRecDepth 100000 in
theorem grow3 (neg od : Bool) (p : Int) (hp : p = 0 ∨ p = 1 ∨ p = 2 ∨ p = 3) (w : World) : Calls Try.prog 75 #[cutV neg od p] w fun e w' => e = .returned (.bool (grw 3 neg od p)) ∧ Below w.heap.size w w' := by
  rcases hp with rfl | rfl | rfl | rfl <;> cases neg <;> cases od
  all_goals
    go_enter Try.func75, Try.ntmps75
    go_wp2
    go_ret
    exact ⟨rfl, (Below.refl _ _).alloc (Nat.le_refl _) _⟩
set_option maxRecDepth 100000 in
theorem grow4 (neg od : Bool) (p : Int) (hp : p = 0 ∨ p = 1 ∨ p = 2 ∨ p = 3) (w : World) : Calls Try.prog 76 #[cutV neg od p] w fun e w' => e = .returned (.bool (grw 4 neg od p)) ∧ Below w.heap.size w w' := by
  rcases hp with rfl | rfl | rfl | rfl <;> cases neg <;> cases od
  all_goals
    go_enter Try.func76, Try.ntmps76
    go_wp2
    go_ret
    exact ⟨rfl, (Below.refl _ _).alloc (Nat.le_refl _) _⟩
set_option maxRecDepth 100000 in
theorem grow5 (neg od : Bool) (p : Int) (hp : p = 0 ∨ p = 1 ∨ p = 2 ∨ p = 3) (w : World) : Calls Try.prog 77 #[cutV neg od p] w fun e w' => e = .returned (.bool (grw 5 neg od p)) ∧ Below w.heap.size w w' := by
  rcases hp with rfl | rfl | rfl | rfl <;> cases neg <;> cases od
  all_goals
    go_enter Try.func77, Try.ntmps77
    go_wp2
    go_ret
    exact ⟨rfl, (Below.refl _ _).alloc (Nat.le_refl _) _⟩
end Go.Proofs.Ythhmgghipgcinas
