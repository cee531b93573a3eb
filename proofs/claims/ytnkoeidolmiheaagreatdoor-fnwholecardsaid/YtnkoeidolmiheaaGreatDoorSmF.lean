/-
  The model's sum of two finite numbers, walked: none of them nought, near each other: they cancel.
-/
import Derived.Test.YtnkoeidolmiheaaGreatDoorSmD
namespace Go.Proofs.YtnkoeidolmiheaaGreatDoor
open Go.RowKit
set_option linter.unusedVariables false
set_option maxRecDepth 100000
/-- Two numbers brought to one exponent. -/
theorem near_bd (d : List Int) (e M : Int) (c : Canon d) (h0 : M ≤ e) (h : (d.length : Int) + e - M ≤ 180) : 0 ≤ vl d * 10 ^ (e - M).toNat ∧ vl d * 10 ^ (e - M).toNat < 10 ^ 180 ∧ (e - M).toNat ≤ 200 ∧ e - M = ((e - M).toNat : Int) := by
  have b := vl_bd d c.1
  have hp : (0 : Int) < 10 ^ (e - M).toNat := Int.pow_pos (by decide)
  refine ⟨Int.mul_nonneg b.1 (Int.le_of_lt hp), ?_, by have := c.2.1; omega, by omega⟩
  have h1 : vl d * 10 ^ (e - M).toNat < 10 ^ d.length * 10 ^ (e - M).toNat := Int.mul_lt_mul_of_pos_right b.2 hp
  rw [← Int.pow_add] at h1
  exact Int.lt_of_lt_of_le h1 (pow_mono _ _ (by omega))
theorem nt_near (v : Int) (h0 : 0 ≤ v) (h1 : v < 10 ^ 181) : Canon (nt v) ∧ vl (nt v) = v ∧ (nt v).length ≤ 181 := by
  have h5 : (10 : Int) ^ 181 < 10 ^ 500 := by decide +kernel
  have sp := nt_spec v h0 (Int.lt_trans h1 h5)
  exact ⟨sp.1, sp.2, canon_le _ sp.1 181 (by decide) (by rw [sp.2]; exact h1)⟩
end Go.Proofs.YtnkoeidolmiheaaGreatDoor
namespace Go.Proofs.YtnkoeidolmiheaaGreatDoor
open Go.RowKit
set_option linter.unusedVariables false
set_option maxRecDepth 100000
end Go.Proofs.YtnkoeidolmiheaaGreatDoor
