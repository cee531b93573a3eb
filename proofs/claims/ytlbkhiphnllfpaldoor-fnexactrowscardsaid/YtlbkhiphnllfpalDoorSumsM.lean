/-
  Plain facts on sums of plain words: they go both ways, keep what the words stand for, and a word and its nines give nines.
-/
import Derived.Test.YtlbkhiphnllfpalDoorAdd2
import Derived.Test.YtlbkhiphnllfpalDoorTxtM
namespace Go.Proofs.YtlbkhiphnllfpalDoor
open Ln
set_option linter.unusedVariables false
theorem cy_comm (fa fb : Nat → Int) (c : Int) (k : Nat) : cyF fa fb c k = cyF fb fa c k := by
  induction k with
  | zero => rfl
  | succ k ih => rw [cyF_succ, cyF_succ, ih, Int.add_comm (fa k)]
theorem sd_comm (fa fb : Nat → Int) (c : Int) : sdF fa fb c = sdF fb fa c := by
  funext k; rw [sdF_def, sdF_def, cy_comm, Int.add_comm (fa k)]
theorem addV_comm (a b : Int) (i : Bool) : addV a b i = addV b a i := by unfold addV; rw [sd_comm]
theorem addC_comm (a b : Int) (i : Bool) : addC a b i = addC b a i := by unfold addC; rw [cy_comm]
/-- The lanes of what sixteen digits make. -/
theorem Sm_div (f : Nat → Int) (hf : Nine f) (k n : Nat) (hk : k + n ≤ 16) : Sm f (k + n) / 16 ^ k = Sm (fun i => f (k + i)) n := by
  induction n with
  | zero =>
    have b := Sm_bd f hf k (by omega)
    exact Int.ediv_eq_zero_of_lt b.1 b.2
  | succ n ih =>
    rw [show k + (n + 1) = (k + n) + 1 by omega]
    simp only [Sm]
    rw [Int.pow_add, Int.mul_comm (16 ^ k), ← Int.mul_assoc, Int.add_mul_ediv_right _ _ (Int.ne_of_gt (pow_pos16 k)), ih (by omega)]
theorem Sm_mod (g : Nat → Int) (n : Nat) (h0 : 0 ≤ g 0) (h9 : g 0 ≤ 9) : Sm g (n + 1) % 16 = g 0 := by
  induction n with
  | zero => simp only [Sm]; rw [Int.pow_zero]; omega
  | succ n ih =>
    rw [Sm, Int.pow_succ, ← Int.mul_assoc, Int.add_mul_emod_self_right]; exact ih
theorem ln_Sm (f : Nat → Int) (hf : Nine f) (i : Nat) (hi : i < 16) : ln (Sm f 16) i = f i := by
  unfold ln
  have e := Sm_div f hf i (15 - i + 1) (by omega)
  rw [show i + (15 - i + 1) = 16 by omega] at e
  rw [e, Sm_mod _ (15 - i) (hf i hi).1 (hf i hi).2]
  rfl
theorem ok_Sm (f : Nat → Int) (hf : Nine f) : okB 0 (Sm f 16) = true := by
  rw [okB_iff]
  intro i hi
  rw [ln_Sm f hf i hi, dig0 _ (hf i hi).1 (by have := (hf i hi).2; omega)]
  exact (hf i hi).2
theorem Sm_u64 (f : Nat → Int) (hf : Nine f) : 0 ≤ Sm f 16 ∧ Sm f 16 ≤ 18446744073709551615 := by
  have := Sm_bd f hf 16 (Nat.le_refl _)
  have e : (16 : Int) ^ 16 = 18446744073709551616 := by decide
  omega
theorem highsF_congr (f g : Nat → Int) (h : ∀ i, i < 16 → f i = g i) (j : Nat) (hj : j ≤ 16) : highsF f j = highsF g j := by
  induction j with
  | zero => rfl
  | succ j ih => simp only [highsF]; rw [ih (by omega), h (15 - j) (by omega)]
theorem digits_Sm (f : Nat → Int) (hf : Nine f) : digits 0 (Sm f 16) = highsF f 16 := by
  rw [digits_highsF 0 _ (ok_Sm f hf), plain_dig]
  exact highsF_congr _ _ (fun i hi => ln_Sm f hf i hi) 16 (Nat.le_refl _)
theorem pv_sum (fa fb : Nat → Int) (c : Int) (k : Nat) : pv fa k + pv fb k + c = pv (sdF fa fb c) k + 10 ^ k * cyF fa fb c k := by
  induction k with
  | zero => simp [pv, cyF]
  | succ k ih =>
    simp only [pv, cyF_succ, sdF_def, Int.pow_succ]
    have key : ∀ p A B y q r : Int, r + 10 * q = A + B + y → A * p + B * p + p * y = r * p + p * 10 * q := fun p A B y q r h => by
      rw [Int.mul_comm A, Int.mul_comm B, ← Int.mul_add, ← Int.mul_add, ← h, Int.mul_comm r, Int.mul_assoc, ← Int.mul_add]
    have := key (10 ^ k) (fa k) (fb k) (cyF fa fb c k) ((fa k + fb k + cyF fa fb c k) / 10) ((fa k + fb k + cyF fa fb c k) % 10) (by omega)
    omega
theorem add_value (a b : Int) (i : Bool) (ka : okB 0 a = true) (kb : okB 0 b = true) :
    vl (digits 0 a) + vl (digits 0 b) + inI i = vl (digits 0 (addV a b i)) + inI (addC a b i) * 10 ^ 16 := by
  rw [digits_highsF 0 a ka, digits_highsF 0 b kb, plain_dig, plain_dig, vl_highsF, vl_highsF]
  unfold addV
  rw [digits_Sm _ (sdF_nine _ _ _), vl_highsF]
  have := pv_sum (ln a) (ln b) (inI i) 16
  have bd := cyF_bd (ln a) (ln b) (inI i) (ok_nine a ka) (ok_nine b kb) (inI_bd i).1 (inI_bd i).2 16 (Nat.le_refl _)
  have e : inI (addC a b i) = cyF (ln a) (ln b) (inI i) 16 := by
    unfold addC
    generalize cyF (ln a) (ln b) (inI i) 16 = y at *
    by_cases h : y = 1
    · subst h; rfl
    · have : y = 0 := by omega
      subst this; rfl
  rw [e, Int.mul_comm (cyF _ _ _ _)]
  exact this
/-- A word is what its lanes make. -/
theorem Sm_ln (x : Int) (k : Nat) (h0 : 0 ≤ x) : Sm (ln x) k = x % 16 ^ k := by
  induction k with
  | zero => rw [Int.pow_zero, Int.emod_one]; rfl
  | succ k ih =>
    simp only [Sm]
    rw [ih, Int.pow_succ]
    have p := pow_pos16 k
    have u := (Int.ediv_emod_unique (a := x) (b := 16 ^ k * 16) (q := x / 16 ^ k / 16) (r := x % 16 ^ k + x / 16 ^ k % 16 * 16 ^ k) (by omega)).2 ?_
    · exact u.2.symm
    · have e1 := Int.emod_add_mul_ediv x (16 ^ k)
      have e2 := Int.emod_add_mul_ediv (x / 16 ^ k) 16
      have b1 := Int.emod_nonneg x (Int.ne_of_gt p)
      have b2 := Int.emod_lt_of_pos x p
      have c1 := Int.emod_nonneg (x / 16 ^ k) (show (16 : Int) ≠ 0 by decide)
      have c2 := Int.emod_lt_of_pos (x / 16 ^ k) (show (0 : Int) < 16 by decide)
      generalize (16 : Int) ^ k = P at *
      generalize x / P % 16 = r at *
      generalize x / P / 16 = s at *
      have e3 : P * (x / P) = P * r + P * 16 * s := by rw [← e2, Int.mul_add, Int.mul_assoc]
      have m0 : 0 ≤ r * P := Int.mul_nonneg c1 (Int.le_of_lt p)
      have m1 : r * P ≤ 15 * P := Int.mul_le_mul_of_nonneg_right (by omega) (Int.le_of_lt p)
      have m2 := Int.mul_comm r P
      refine ⟨by omega, by omega, by omega⟩
theorem Sm_word (x : Int) (h0 : 0 ≤ x) (h1 : x ≤ 18446744073709551615) : Sm (ln x) 16 = x := by
  rw [Sm_ln x 16 h0]
  have e : (16 : Int) ^ 16 = 18446744073709551616 := by decide
  rw [e]; omega
theorem Sm_congr (f g : Nat → Int) (n : Nat) (h : ∀ i, i < n → f i = g i) : Sm f n = Sm g n := by
  induction n with
  | zero => rfl
  | succ n ih => simp only [Sm]; rw [ih (fun i hi => h i (by omega)), h n (by omega)]
theorem Sm_sub (f : Nat → Int) (n : Nat) : Sm (fun i => 9 - f i) n = Sm (fun _ => 9) n - Sm f n := by
  induction n with
  | zero => rfl
  | succ n ih =>
    simp only [Sm]
    rw [ih, Int.sub_mul]
    omega
theorem Sm_nines : Sm (fun _ => 9) 16 = 11068046444225730969 := by decide
theorem Sm_noughts (n : Nat) : Sm (fun _ => 0) n = 0 := by
  induction n with
  | zero => rfl
  | succ n ih => simp only [Sm]; rw [ih, Int.zero_mul]; rfl
theorem cy_nines (fa fb : Nat → Int) (c : Int) (h : ∀ i, i < 16 → fa i + fb i = 9) (hc : c = 0 ∨ c = 1) (k : Nat) (hk : k ≤ 16) : cyF fa fb c k = c := by
  induction k with
  | zero => rfl
  | succ k ih => rw [cyF_succ, ih (by omega), h k (by omega)]; rcases hc with rfl | rfl <;> rfl
end Go.Proofs.YtlbkhiphnllfpalDoor
