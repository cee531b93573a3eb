/-
  Plain facts on roots: one turn's digit, and that a root is told by its square.
-/
import Derived.Test.YtmjkpjmccdjkjaqTxtM
namespace Go.Proofs.Ytmjkpjmccdjkjaq
set_option linter.unusedVariables false
/-- One turn of the root: the next digit k of it. -/
theorem root_turn (S R P dd k : Int) (h : S * S + R = P) (hR : R ≤ 2 * S) (r0 : 0 ≤ R) (s0 : 0 ≤ S) (d0 : 0 ≤ dd) (d1 : dd ≤ 99) (k0 : 0 ≤ k) (k9 : k ≤ 9) (hk : (S * 20 + k) * k ≤ R * 100 + dd) (hend : k = 9 ∨ R * 100 + dd < (S * 20 + (k + 1)) * (k + 1)) :
    (S * 10 + k) * (S * 10 + k) + (R * 100 + dd - (S * 20 + k) * k) = P * 100 + dd ∧ R * 100 + dd - (S * 20 + k) * k ≤ 2 * (S * 10 + k) := by
  have e1 : (S * 10 + k) * (S * 10 + k) = S * S * 100 + (S * 20 + k) * k := by
    rw [Int.add_mul, Int.add_mul, Int.mul_add, Int.mul_add]
    have : S * 10 * (S * 10) = S * S * 100 := by
      rw [Int.mul_assoc, Int.mul_left_comm 10 S 10, ← Int.mul_assoc]; rfl
    have h2 : S * 10 * k = S * k * 10 := by rw [Int.mul_assoc, Int.mul_comm 10, ← Int.mul_assoc]
    have h3 : k * (S * 10) = S * k * 10 := by rw [Int.mul_comm k, h2]
    have h4 : S * 20 * k = S * k * 20 := by rw [Int.mul_assoc, Int.mul_comm 20, ← Int.mul_assoc]
    omega
  have e2 : (S * 20 + (k + 1)) * (k + 1) = (S * 20 + k) * k + (S * 20 + 2 * k + 1) := by
    rw [Int.mul_add, Int.mul_one, Int.add_mul, Int.add_mul, Int.add_mul]
    omega
  refine ⟨by omega, ?_⟩
  rcases hend with hk9 | hlt
  · subst hk9
    have : (S * 20 + 9) * 9 = S * 180 + 81 := by rw [Int.add_mul, Int.mul_assoc]; rfl
    omega
  · omega
/-- A root rounded down is told by the number. -/
theorem root_same (x s t : Int) (s0 : 0 ≤ s) (t0 : 0 ≤ t) (h1 : s * s ≤ x) (h2 : x < (s + 1) * (s + 1)) (k1 : t * t ≤ x) (k2 : x < (t + 1) * (t + 1)) : s = t := by
  rcases Int.lt_trichotomy s t with c | c | c
  · have := Int.mul_le_mul (show s + 1 ≤ t by omega) (show s + 1 ≤ t by omega) (by omega) t0
    omega
  · exact c
  · have := Int.mul_le_mul (show t + 1 ≤ s by omega) (show t + 1 ≤ s by omega) (by omega) s0
    omega
/-- What is left at most twice the root: it is the root rounded down. -/
theorem root_left (x s r : Int) (h : s * s + r = x) (r0 : 0 ≤ r) (r1 : r ≤ 2 * s) : s * s ≤ x ∧ x < (s + 1) * (s + 1) := by
  have e : (s + 1) * (s + 1) = s * s + 2 * s + 1 := by rw [Int.add_mul, Int.mul_add, Int.one_mul]; omega
  omega
end Go.Proofs.Ytmjkpjmccdjkjaq
