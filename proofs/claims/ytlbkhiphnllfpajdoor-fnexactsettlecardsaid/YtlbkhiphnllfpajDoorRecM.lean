/-
  Plain facts on recoding: a recoded word stands for the same digits, and recoded back from a first form it is itself.
-/
import Derived.Test.YtlbkhiphnllfpajDoorSumM
namespace Go.Proofs.YtlbkhiphnllfpajDoor
open Ln
set_option linter.unusedVariables false
/-- Lanes 0 to 15 of four bits each. -/
def Hex (f : Nat → Int) : Prop := ∀ i, i < 16 → 0 ≤ f i ∧ f i ≤ 15
theorem SmH_bd (f : Nat → Int) (hf : Hex f) (k : Nat) (hk : k ≤ 16) : 0 ≤ Sm f k ∧ Sm f k < 16 ^ k := by
  induction k with
  | zero => exact ⟨Int.le_refl _, show (0 : Int) < 16 ^ 0 by decide⟩
  | succ k ih =>
    have a := hf k (by omega)
    have i := ih (by omega)
    have p := Ln.pow_pos16 k
    simp only [Sm]
    rw [Int.pow_succ]
    have h9 : f k * 16 ^ k ≤ 15 * 16 ^ k := Int.mul_le_mul_of_nonneg_right a.2 (Int.le_of_lt p)
    have h0 : 0 ≤ f k * 16 ^ k := Int.mul_nonneg a.1 (Int.le_of_lt p)
    omega
theorem SmH_div (f : Nat → Int) (hf : Hex f) (k n : Nat) (hk : k + n ≤ 16) : Sm f (k + n) / 16 ^ k = Sm (fun i => f (k + i)) n := by
  induction n with
  | zero =>
    have b := SmH_bd f hf k (by omega)
    exact Int.ediv_eq_zero_of_lt b.1 b.2
  | succ n ih =>
    rw [show k + (n + 1) = (k + n) + 1 by omega]
    simp only [Sm]
    rw [Int.pow_add, Int.mul_comm (16 ^ k), ← Int.mul_assoc, Int.add_mul_ediv_right _ _ (Int.ne_of_gt (pow_pos16 k)), ih (by omega)]
theorem SmH_mod (g : Nat → Int) (n : Nat) (h0 : 0 ≤ g 0) (h9 : g 0 ≤ 15) : Sm g (n + 1) % 16 = g 0 := by
  induction n with
  | zero => simp only [Sm]; rw [Int.pow_zero]; omega
  | succ n ih =>
    rw [Sm, Int.pow_succ, ← Int.mul_assoc, Int.add_mul_emod_self_right]; exact ih
theorem lnH_Sm (f : Nat → Int) (hf : Hex f) (i : Nat) (hi : i < 16) : ln (Sm f 16) i = f i := by
  unfold ln
  have e := SmH_div f hf i (15 - i + 1) (by omega)
  rw [show i + (15 - i + 1) = 16 by omega] at e
  rw [e, SmH_mod _ (15 - i) (hf i hi).1 (hf i hi).2]
  rfl
theorem SmH_u64 (f : Nat → Int) (hf : Hex f) : 0 ≤ Sm f 16 ∧ Sm f 16 ≤ 18446744073709551615 := by
  have := SmH_bd f hf 16 (Nat.le_refl _)
  have e : (16 : Int) ^ 16 = 18446744073709551616 := by decide
  omega
theorem ff_hex (n : Nat) (f : Nat → Int) : Hex (fun i => (ff n (f i) : Int)) := fun i _ => by
  have := ff_lt n (f i)
  show 0 ≤ (ff n (f i) : Int) ∧ (ff n (f i) : Int) ≤ 15
  omega
/-- Sixteen digits packed under the weighting n + 1, lane by lane. -/
theorem packN_lanes (n : Nat) (f : Nat → Int) : packN n (highsF f 16) = Sm (fun i => (ff n (f i) : Int)) 16 := by
  simp only [highsF, packN_snoc, Sm]
  rw [show packN n ([] : List Int) = 0 from rfl]
  simp only [Nat.sub_zero, Nat.reduceSub, Int.reducePow]
  omega
theorem hCongr (f g : Nat → Int) (h : ∀ i, i < 16 → f i = g i) (j : Nat) (hj : j ≤ 16) : highsF f j = highsF g j := by
  induction j with
  | zero => rfl
  | succ j ih => simp only [highsF]; rw [ih (by omega), h (15 - j) (by omega)]
theorem pack_ok (n : Nat) (f : Nat → Int) (hn : n < 3) (hf : Nine f) : okB n (packN n (highsF f 16)) = true ∧ digits n (packN n (highsF f 16)) = highsF f 16 ∧ (0 ≤ packN n (highsF f 16) ∧ packN n (highsF f 16) ≤ 18446744073709551615) := by
  have l : ∀ i, i < 16 → dig n (ln (packN n (highsF f 16)) i) = f i := fun i hi => by
    rw [packN_lanes, lnH_Sm _ (ff_hex n f) i hi]
    exact ff_dig n (f i) hn (hf i hi).1 (hf i hi).2
  have k : okB n (packN n (highsF f 16)) = true := by
    rw [okB_iff]; intro i hi; rw [l i hi]; exact (hf i hi).2
  refine ⟨k, ?_, ?_⟩
  · rw [digits_highsF n _ k]; exact hCongr _ _ l 16 (Nat.le_refl _)
  · rw [packN_lanes]; exact SmH_u64 _ (ff_hex n f)
/-- A recoded word: right, of the same digits. -/
theorem rec_ok (m n : Nat) (x : Int) (hn : n < 3) (k : okB m x = true) : okB n (recV m n x) = true ∧ digits n (recV m n x) = digits m x ∧ (0 ≤ recV m n x ∧ recV m n x ≤ 18446744073709551615) := by
  unfold recV
  rw [k, if_pos rfl, digits_highsF m x k]
  exact pack_ok n _ hn (dig_nine m x k)
theorem rec_again (m n p : Nat) (x : Int) (hn : n < 3) (k : okB m x = true) : recV n p (recV m n x) = packN p (digits m x) := by
  obtain ⟨a, b, _⟩ := rec_ok m n x hn k
  show (if okB n (recV m n x) then packN p (digits n (recV m n x)) else 0) = _
  rw [a, if_pos rfl, b]
end Go.Proofs.YtlbkhiphnllfpajDoor
