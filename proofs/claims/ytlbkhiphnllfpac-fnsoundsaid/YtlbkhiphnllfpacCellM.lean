/-
  Plain facts on a table's cell: what holds at the corners of what is in reach holds at each point of it.
-/
import Derived.Test.YtlbkhiphnllfpacTxtM
namespace Go.Proofs.Ytlbkhiphnllfpac
set_option linter.unusedVariables false
set_option maxRecDepth 100000
theorem pos_of_mul {m v : Int} (hm : 0 < m) (h : 0 ≤ m * v) : 0 ≤ v := by
  rcases Int.lt_or_le v 0 with c | c
  · have := Int.mul_lt_mul_of_pos_left c hm
    rw [Int.mul_zero] at this
    omega
  · exact c
/-- The corners that are in reach, and a linear form A x + B z that is no less than nought at each of them. -/
structure Corn (p q D Y A B : Int) : Prop where
  box : ∀ d y, (d = D ∨ d = D + 1) → (y = Y ∨ y = Y + 2) → y * p ≤ q * d → -(q * d) ≤ y * p → 0 ≤ A * d + B * y
  side : ∀ d, (d = D ∨ d = D + 1) → (Y * p ≤ q * d → q * d ≤ (Y + 2) * p → 0 ≤ A * (d * p) + B * (q * d)) ∧ (Y * p ≤ -(q * d) → -(q * d) ≤ (Y + 2) * p → 0 ≤ A * (d * p) + B * (-(q * d)))
  edge : ∀ y, (y = Y ∨ y = Y + 2) → (0 ≤ y → D * q ≤ y * p → y * p ≤ (D + 1) * q → 0 ≤ A * (y * p) + B * (y * q)) ∧ (y ≤ 0 → D * q ≤ -(y * p) → -(y * p) ≤ (D + 1) * q → 0 ≤ A * (-(y * p)) + B * (y * q))
/-- On an upright line. -/
theorem corn_up {p q D Y A B : Int} (h : Corn p q D Y A B) (hp : 0 < p) (d : Int) (hd : d = D ∨ d = D + 1) (z : Int) (z0 : 4 * Y ≤ z) (z1 : z ≤ 4 * Y + 8) (r0 : z * p ≤ 4 * (q * d)) (r1 : -(4 * (q * d)) ≤ z * p) : 0 ≤ A * (4 * d) + B * z := by
  have m0 : 4 * (Y * p) ≤ z * p := by
    have := Int.mul_le_mul_of_nonneg_right z0 (Int.le_of_lt hp); rw [Int.mul_assoc] at this; exact this
  have m1 : z * p ≤ 4 * ((Y + 2) * p) := by
    have := Int.mul_le_mul_of_nonneg_right (show z ≤ 4 * (Y + 2) by omega) (Int.le_of_lt hp); rw [Int.mul_assoc] at this; exact this
  have e4 : A * (4 * d) = 4 * (A * d) := Int.mul_left_comm ..
  rcases Int.lt_or_le B 0 with hB | hB
  · -- the upper end
    by_cases c : (Y + 2) * p ≤ q * d
    · have b := h.box d (Y + 2) hd (.inr rfl) c (by omega)
      have k := Int.mul_nonneg (show 0 ≤ -B by omega) (show 0 ≤ 4 * (Y + 2) - z by omega)
      rw [Int.neg_mul, Int.mul_sub, Int.mul_left_comm B 4] at k
      omega
    · have b := (h.side d hd).1 (by omega) (by omega)
      refine pos_of_mul hp ?_
      have k := Int.mul_nonneg (show 0 ≤ -B by omega) (show 0 ≤ 4 * (q * d) - z * p by omega)
      rw [Int.neg_mul, Int.mul_sub, Int.mul_left_comm B 4] at k
      have e : p * (A * (4 * d) + B * z) = 4 * (A * (d * p)) + B * (z * p) := by
        rw [Int.mul_add, e4, Int.mul_left_comm p 4, Int.mul_left_comm p A, Int.mul_comm p d, Int.mul_left_comm p B, Int.mul_comm p z]
      omega
  · -- the lower end
    by_cases c : -(q * d) ≤ Y * p
    · have b := h.box d Y hd (.inl rfl) (by omega) c
      have k := Int.mul_nonneg hB (show 0 ≤ z - 4 * Y by omega)
      rw [Int.mul_sub, Int.mul_left_comm B 4] at k
      omega
    · have b := (h.side d hd).2 (by omega) (by omega)
      refine pos_of_mul hp ?_
      have k := Int.mul_nonneg hB (show 0 ≤ z * p + 4 * (q * d) by omega)
      rw [Int.mul_add, Int.mul_left_comm B 4] at k
      have e : p * (A * (4 * d) + B * z) = 4 * (A * (d * p)) + B * (z * p) := by
        rw [Int.mul_add, e4, Int.mul_left_comm p 4, Int.mul_left_comm p A, Int.mul_comm p d, Int.mul_left_comm p B, Int.mul_comm p z]
      rw [Int.mul_neg] at b
      omega
/-- On the rays that bound the reach. -/
theorem corn_ray_up {p q D Y A B : Int} (h : Corn p q D Y A B) (hp : 0 < p) (hq : 0 < q) (hD : 0 < D) (z : Int) (z0 : 4 * Y ≤ z) (z1 : z ≤ 4 * Y + 8) (hz : 0 < z) (r0 : 4 * (q * D) < z * p) (r1 : z * p ≤ 4 * (q * (D + 1))) : 0 ≤ A * p + B * q := by
  have m0 : 4 * (Y * p) ≤ z * p := by
    have := Int.mul_le_mul_of_nonneg_right z0 (Int.le_of_lt hp); rw [Int.mul_assoc] at this; exact this
  have m1 : z * p ≤ 4 * ((Y + 2) * p) := by
    have := Int.mul_le_mul_of_nonneg_right (show z ≤ 4 * (Y + 2) by omega) (Int.le_of_lt hp); rw [Int.mul_assoc] at this; exact this
  have eD : D * q = q * D := Int.mul_comm ..
  have eD1 : (D + 1) * q = q * (D + 1) := Int.mul_comm ..
  by_cases c : q * (D + 1) ≤ (Y + 2) * p
  · have b := (h.side (D + 1) (.inr rfl)).1 (by omega) c
    refine pos_of_mul (show 0 < D + 1 by omega) ?_
    rw [Int.mul_add, Int.mul_left_comm _ A, Int.mul_left_comm _ B, Int.mul_comm (D + 1) q]
    exact b
  · have b := (h.edge (Y + 2) (.inr rfl)).1 (by omega) (by omega) (by omega)
    refine pos_of_mul (show 0 < Y + 2 by omega) ?_
    rw [Int.mul_add, Int.mul_left_comm _ A, Int.mul_left_comm _ B]
    exact b
theorem corn_ray_dn {p q D Y A B : Int} (h : Corn p q D Y A B) (hp : 0 < p) (hq : 0 < q) (hD : 0 < D) (z : Int) (z0 : 4 * Y ≤ z) (z1 : z ≤ 4 * Y + 8) (hz : z < 0) (r0 : 4 * (q * D) < -(z * p)) (r1 : -(z * p) ≤ 4 * (q * (D + 1))) : 0 ≤ A * p + B * (-q) := by
  have m0 : 4 * (Y * p) ≤ z * p := by
    have := Int.mul_le_mul_of_nonneg_right z0 (Int.le_of_lt hp); rw [Int.mul_assoc] at this; exact this
  have m1 : z * p ≤ 4 * ((Y + 2) * p) := by
    have := Int.mul_le_mul_of_nonneg_right (show z ≤ 4 * (Y + 2) by omega) (Int.le_of_lt hp); rw [Int.mul_assoc] at this; exact this
  have eD : D * q = q * D := Int.mul_comm ..
  have eD1 : (D + 1) * q = q * (D + 1) := Int.mul_comm ..
  by_cases c : Y * p ≤ -(q * (D + 1))
  · have b := (h.side (D + 1) (.inr rfl)).2 c (by omega)
    refine pos_of_mul (show 0 < D + 1 by omega) ?_
    rw [Int.mul_add, Int.mul_left_comm _ A, Int.mul_left_comm _ B, Int.mul_neg, Int.mul_comm (D + 1) q]
    exact b
  · have b := (h.edge Y (.inl rfl)).2 (by omega) (by omega) (by omega)
    refine pos_of_mul (show 0 < -Y by omega) ?_
    rw [Int.mul_add, Int.mul_left_comm _ A, Int.mul_left_comm _ B, Int.neg_mul, Int.neg_mul_neg]
    exact b
/-- At each point of the cell, in quarters. -/
theorem corn_all {p q D Y A B : Int} (h : Corn p q D Y A B) (hp : 0 < p) (hq : 0 < q) (hD : 0 < D) (x z : Int) (x0 : 4 * D ≤ x) (x1 : x ≤ 4 * D + 4) (z0 : 4 * Y ≤ z) (z1 : z ≤ 4 * Y + 8) (r0 : z * p ≤ q * x) (r1 : -(q * x) ≤ z * p) : 0 ≤ A * x + B * z := by
  have n0 : 4 * (q * D) ≤ q * x := by
    have := Int.mul_le_mul_of_nonneg_left x0 (Int.le_of_lt hq); rw [Int.mul_left_comm] at this; exact this
  have n1 : q * x ≤ 4 * (q * (D + 1)) := by
    have := Int.mul_le_mul_of_nonneg_left (show x ≤ 4 * (D + 1) by omega) (Int.le_of_lt hq); rw [Int.mul_left_comm q] at this; exact this
  rcases Int.lt_or_le A 0 with hA | hA
  · have u := corn_up h hp (D + 1) (.inr rfl) z z0 z1 (by omega) (by omega)
    have k := Int.mul_nonneg (show 0 ≤ -A by omega) (show 0 ≤ 4 * (D + 1) - x by omega)
    rw [Int.neg_mul, Int.mul_sub] at k
    omega
  · by_cases c : z * p ≤ 4 * (q * D) ∧ -(4 * (q * D)) ≤ z * p
    · have u := corn_up h hp D (.inl rfl) z z0 z1 c.1 c.2
      have k := Int.mul_nonneg hA (show 0 ≤ x - 4 * D by omega)
      rw [Int.mul_sub] at k
      omega
    · have qD : 0 < q * D := Int.mul_pos hq hD
      refine pos_of_mul hq ?_
      rw [Int.mul_add, Int.mul_left_comm q A, Int.mul_left_comm q B]
      rcases Int.lt_trichotomy z 0 with hz | hz | hz
      · have zp : z * p < 0 := by
          have := Int.mul_lt_mul_of_pos_right hz hp; rw [Int.zero_mul] at this; exact this
        have ray := corn_ray_dn h hp hq hD z z0 z1 hz (by omega) (by omega)
        have k := Int.mul_nonneg (show 0 ≤ -z by omega) ray
        have k2 := Int.mul_nonneg hA (show 0 ≤ q * x + z * p by omega)
        rw [Int.mul_add, Int.neg_mul, Int.mul_left_comm z A, Int.mul_left_comm (-z) B, Int.neg_mul_neg] at k
        rw [Int.mul_add] at k2
        rw [Int.mul_comm q z]
        omega
      · subst hz; rw [Int.zero_mul] at c; omega
      · have zp : 0 < z * p := Int.mul_pos hz hp
        have ray := corn_ray_up h hp hq hD z z0 z1 hz (by omega) (by omega)
        have k := Int.mul_nonneg (show 0 ≤ z by omega) ray
        have k2 := Int.mul_nonneg hA (show 0 ≤ q * x - z * p by omega)
        rw [Int.mul_add, Int.mul_left_comm z A, Int.mul_left_comm z B] at k
        rw [Int.mul_sub] at k2
        rw [Int.mul_comm q z]
        omega
end Go.Proofs.Ytlbkhiphnllfpac
