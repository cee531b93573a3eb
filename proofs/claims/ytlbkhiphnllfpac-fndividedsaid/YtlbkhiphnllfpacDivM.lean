/-
  Plain facts on quotients by recurrence: there is a digit at each turn, what the turns stand for, and the plain quotient.
-/
import Derived.Test.YtlbkhiphnllfpacSgnM
namespace Go.Proofs.Ytlbkhiphnllfpac
set_option linter.unusedVariables false
set_option maxRecDepth 100000
/-- A digit serves: nine times what is left is at most a times the divisor. -/
def Fits (a d w q : Int) : Prop := 9 * (10 * w - q * d) ≤ a * d ∧ -(a * d) ≤ 9 * (10 * w - q * d)
theorem near (m d : Int) (hd : 0 < d) : ∃ q, 2 * (m - q * d) ≤ d ∧ -d ≤ 2 * (m - q * d) := by
  refine ⟨(2 * m + d) / (2 * d), ?_⟩
  have h := Int.emod_add_mul_ediv (2 * m + d) (2 * d)
  have l := Int.emod_nonneg (2 * m + d) (show 2 * d ≠ 0 by omega)
  have u := Int.emod_lt_of_pos (2 * m + d) (show 0 < 2 * d by omega)
  generalize (2 * m + d) % (2 * d) = r at *
  generalize (2 * m + d) / (2 * d) = q at *
  have e : 2 * d * q = 2 * (q * d) := by rw [Int.mul_assoc, Int.mul_comm d]
  omega
theorem fits_exists (a d w : Int) (hd : 0 < d) (a5 : 5 ≤ a) (a9 : a ≤ 9) (h1 : 9 * w ≤ a * d) (h2 : -(a * d) ≤ 9 * w) : ∃ q, -a ≤ q ∧ q ≤ a ∧ Fits a d w q := by
  have five : 5 * d ≤ a * d := Int.mul_le_mul_of_nonneg_right a5 (by omega)
  have nine : a * d ≤ 9 * d := Int.mul_le_mul_of_nonneg_right a9 (by omega)
  unfold Fits
  by_cases hb : 10 * w > a * d
  · exact ⟨a, by omega, by omega, by omega, by omega⟩
  · by_cases hs : 10 * w < -(a * d)
    · refine ⟨-a, by omega, by omega, ?_⟩
      rw [Int.neg_mul]; omega
    · obtain ⟨q, q1, q2⟩ := near (10 * w) d hd
      refine ⟨q, ?_, ?_, by omega, by omega⟩
      · rcases Int.lt_or_le q (-a) with c | c
        · have := Int.mul_le_mul_of_nonneg_right (show q ≤ -a - 1 by omega) (show 0 ≤ d by omega)
          rw [Int.sub_mul, Int.neg_mul, Int.one_mul] at this
          omega
        · exact c
      · rcases Int.lt_or_le a q with c | c
        · have := Int.mul_le_mul_of_nonneg_right (show a + 1 ≤ q by omega) (show 0 ≤ d by omega)
          rw [Int.add_mul, Int.one_mul] at this
          omega
        · exact c
/-- What is left when the digits of qs have come. -/
def rests (d x : Int) (qs : List Int) : Nat → Int
  | 0 => x
  | i + 1 => 10 * rests d x qs i - qs.getD i 0 * d
/-- The digits so far, times the divisor, and what is left, are the number with that many noughts. -/
theorem rests_vl (d x : Int) (qs : List Int) (i : Nat) (hi : i ≤ qs.length) : x * 10 ^ i = vl (qs.take i) * d + rests d x qs i := by
  induction i with
  | zero => simp [rests, vl, lv]
  | succ i ih =>
    have h := ih (by omega)
    have t : vl (qs.take (i + 1)) = vl (qs.take i) * 10 + qs.getD i 0 := by
      rw [List.take_succ_eq_append_getElem (by omega), vl_snoc]
      simp [List.getD, show i < qs.length by omega]
    rw [t, Int.pow_succ, ← Int.mul_assoc, h]
    simp only [rests]
    rw [Int.add_mul, Int.add_mul]
    have e : vl (qs.take i) * d * 10 = vl (qs.take i) * 10 * d := by rw [Int.mul_assoc, Int.mul_comm d, ← Int.mul_assoc]
    omega
/-- A number, a divisor: digits and what is left below the divisor are told by them. -/
theorem quot_same (d X a b r s : Int) (hd : 0 < d) (h1 : a * d + r = X) (h2 : b * d + s = X) (r0 : 0 ≤ r) (r1 : r < d) (s0 : 0 ≤ s) (s1 : s < d) : a = b ∧ r = s := by
  have e : a * d - b * d = s - r := by omega
  rw [← Int.sub_mul] at e
  rcases (show a - b ≤ -1 ∨ a - b = 0 ∨ 1 ≤ a - b by omega) with c | c | c
  · have := Int.mul_le_mul_of_nonneg_right c (show 0 ≤ d by omega)
    omega
  · rw [c, Int.zero_mul] at e; omega
  · have := Int.mul_le_mul_of_nonneg_right c (show 0 ≤ d by omega)
    omega
/-- The registers of the turns' digits are the plain quotient's digits. -/
theorem mended_digits (d x : Int) (qs p : List Int) (hq : rng (-9) 9 qs = true) (hp : Dec p) (hl : p.length = qs.length) (hd : 0 < d) (x0 : 0 ≤ x) (left : Int)
    (hpv : vl p * d + left = x * 10 ^ qs.length) (l0 : 0 ≤ left) (l1 : left < d) (w1 : rests d x qs qs.length < d) (w0 : -d < rests d x qs qs.length) :
    (0 ≤ rests d x qs qs.length → (reg qs qs.length).1 = p ∧ rests d x qs qs.length = left) ∧ (rests d x qs qs.length < 0 → (reg qs qs.length).2 = p ∧ rests d x qs qs.length + d = left) := by
  have h := rests_vl d x qs qs.length (Nat.le_refl _)
  rw [List.take_length] at h
  obtain ⟨dq, dm, ⟨e, eq⟩, ⟨f, em⟩⟩ := reg_vl qs hq qs.length (Nat.le_refl _)
  rw [List.take_length] at eq em
  have lq := (reg_length qs qs.length).1
  have lm := (reg_length qs qs.length).2
  have bq := vl_bd _ dq
  have bm := vl_bd _ dm
  have bp := vl_bd _ hp
  rw [lq] at bq
  rw [lm] at bm
  rw [hl] at bp
  have P : (0 : Int) < 10 ^ qs.length := Int.pow_pos (by decide)
  have one : ∀ g u v : Int, u = v + g * 10 ^ qs.length → 0 ≤ u → u < 10 ^ qs.length → 0 ≤ v → v < 10 ^ qs.length → u = v := fun g u v h a b c e => by
    rcases (show g ≤ -1 ∨ g = 0 ∨ 1 ≤ g by omega) with k | k | k
    · have := Int.mul_le_mul_of_nonneg_right k (Int.le_of_lt P); omega
    · rw [k, Int.zero_mul] at h; omega
    · have := Int.mul_le_mul_of_nonneg_right k (Int.le_of_lt P); omega
  constructor
  · intro hw
    obtain ⟨s1, s2⟩ := quot_same d _ _ _ _ _ hd h.symm hpv hw w1 l0 l1
    refine ⟨vl_unique _ _ dq hp (by rw [lq, hl]) ?_, s2⟩
    exact one e _ _ (by rw [eq, s1]) bq.1 bq.2 bp.1 bp.2
  · intro hw
    have h' : (vl qs - 1) * d + (rests d x qs qs.length + d) = x * 10 ^ qs.length := by
      rw [Int.sub_mul, Int.one_mul, h]; omega
    obtain ⟨s1, s2⟩ := quot_same d _ _ _ _ _ hd h' hpv (by omega) (by omega) l0 l1
    refine ⟨vl_unique _ _ dm hp (by rw [lm, hl]) ?_, s2⟩
    exact one f _ _ (by rw [em, s1]) bm.1 bm.2 bp.1 bp.2
end Go.Proofs.Ytlbkhiphnllfpac
