/-
  The model's powers, parameters, range and bound of a table's cells, walked.
-/
import Derived.Test.YtlbkhiphnllfpanIn
namespace Go.Proofs.Ytlbkhiphnllfpan
open Go.RowKit
set_option linter.unusedVariables false
theorem ten_le (a b : Nat) (h : a ≤ b) : (10 : Int) ^ a ≤ 10 ^ b := by
  obtain ⟨c, rfl⟩ := Nat.exists_eq_add_of_le h
  rw [Int.pow_add]
  have h1 : (1 : Int) ≤ 10 ^ c := Int.le_of_lt_add_one (by have : (0 : Int) < 10 ^ c := Int.pow_pos (by decide); omega)
  have h2 : (0 : Int) ≤ 10 ^ a := Int.le_of_lt (Int.pow_pos (by decide))
  have := Int.mul_le_mul_of_nonneg_left h1 h2
  omega
/-- The parameters that a table takes. -/
def prm (a u t : Int) : Bool := decide (5 ≤ a ∧ a ≤ 9) && (decide (1 ≤ u ∧ u ≤ 2) && decide (1 ≤ t ∧ t ≤ 2))
theorem prm_parts (a u t : Int) (h : prm a u t = true) : (5 ≤ a ∧ a ≤ 9) ∧ (1 ≤ u ∧ u ≤ 2) ∧ (1 ≤ t ∧ t ≤ 2) := by
  unfold prm at h; simpa using h
/-- The divisors of u digits. -/
def rgd (u d : Int) : Bool := decide (10 ^ (u - 1).toNat ≤ d ∧ d ≤ 10 ^ u.toNat - 1)
/-- The bound of a divisor's cells. -/
def bnd (a u t d : Int) : Int := if prm a u t = true ∧ rgd u d = true then (10 * a * 10 ^ t.toNat * (d + 1)) / (9 * 10 ^ u.toNat) else 0
end Go.Proofs.Ytlbkhiphnllfpan
