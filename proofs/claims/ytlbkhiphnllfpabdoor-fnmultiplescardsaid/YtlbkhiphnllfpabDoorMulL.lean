/-
  Ten times a word: one lane up.
-/
import Derived.Test.YtlbkhiphnllfpabDoorMulP
namespace Go.Proofs.YtlbkhiphnllfpabDoor
open Ln
set_option linter.unusedVariables false
set_option maxRecDepth 100000
theorem mcy_ten (f : Nat → Int) (hf : Nine f) (i : Nat) (hi : i < 16) : mcy f 10 (i + 1) = f i := by
  have a := mcy_bd f 10 hf (by decide) (by decide) i (by omega)
  show (f i * 10 + mcy f 10 i) / 10 = f i
  omega
theorem mdg_ten (f : Nat → Int) (hf : Nine f) (i : Nat) (hi : i < 16) : mdg f 10 i = if i = 0 then 0 else f (i - 1) := by
  have a := mcy_bd f 10 hf (by decide) (by decide) i (by omega)
  show (f i * 10 + mcy f 10 i) % 10 = _
  cases i with
  | zero => rw [if_pos rfl]; show (f 0 * 10 + 0) % 10 = 0; omega
  | succ i =>
    have b := hf i (by omega)
    rw [if_neg (Nat.succ_ne_zero i), Nat.add_sub_cancel, mcy_ten f hf i (by omega)]
    omega
theorem ln_up1 (x : Int) (h0 : 0 ≤ x) (i : Nat) (hi : i < 16) : ln (up x 1) i = if i = 0 then 0 else ln x (i - 1) := by
  obtain ⟨X, rfl⟩ := Int.eq_ofNat_of_zero_le h0
  have e : up (X : Int) 1 = ((X * 16 % 18446744073709551616 : Nat) : Int) := by unfold up; omega
  unfold ln
  rw [e]
  have p : ∀ j : Nat, (16 : Int) ^ j = ((16 ^ j : Nat) : Int) := fun j => by simp
  rw [p]
  have t : ∀ j, j < 16 → X * 16 % 18446744073709551616 / 16 ^ j % 16 = X * 16 / 16 ^ j % 16 := fun j hj => by
    have hp : 18446744073709551616 = 16 ^ j * 16 ^ (16 - j) := by rw [← Nat.pow_add, show j + (16 - j) = 16 by omega]
    rw [hp, Nat.mod_mul_right_div_self]
    have : (16 : Nat) ∣ 16 ^ (16 - j) := ⟨16 ^ (16 - j - 1), by rw [← Nat.pow_succ', show (16 - j - 1).succ = 16 - j by omega]⟩
    rw [Nat.mod_mod_of_dvd _ this]
  have g : ((X * 16 % 18446744073709551616 : Nat) : Int) / ((16 ^ i : Nat) : Int) % 16 = ((X * 16 % 18446744073709551616 / 16 ^ i % 16 : Nat) : Int) := by omega
  rw [g, t i hi]
  cases i with
  | zero => simp
  | succ i =>
    rw [if_neg (Nat.succ_ne_zero i), Nat.add_sub_cancel, p]
    have : X * 16 / 16 ^ (i + 1) = X / 16 ^ i := by rw [Nat.pow_succ, Nat.mul_comm (16 ^ i) 16, ← Nat.div_div_eq_div_mul, Nat.mul_div_cancel _ (by decide)]
    rw [this]
    omega
theorem mul_ten (x : Int) (h0 : 0 ≤ x) (h1 : x ≤ 18446744073709551615) (k : okB 0 x = true) : mulV x 10 = up x 1 ∧ mulC x 10 = x / 2 ^ 60 := by
  have n := ok_nine x k
  refine ⟨?_, ?_⟩
  · unfold mulV
    rw [Sm_congr _ (ln (up x 1)) 16 (fun i hi => by rw [mdg_ten _ n i hi, ln_up1 x h0 i hi]), Sm_word _ (up_lo x 1) (up_hi x 1)]
  · unfold mulC
    rw [mcy_ten _ n 15 (by omega)]
    unfold ln
    have e : (16 : Int) ^ 15 = 1152921504606846976 := by decide
    have e2 : (2 : Int) ^ 60 = 1152921504606846976 := by decide
    rw [e, e2]
    omega
end Go.Proofs.YtlbkhiphnllfpabDoor
