/-
  Plain facts on a word in fives doubled: it keeps what it stands for.
-/
import Derived.Test.YtlbkhiphnllfpajDoorDigM
import Derived.Test.YtlbkhiphnllfpajDoorTwice
namespace Go.Proofs.YtlbkhiphnllfpajDoor
open Ln
set_option linter.unusedVariables false
theorem four_all : ∀ l : Fin 16, dig 1 (l.val : Int) ≤ 9 := by decide +kernel
theorem five_all : ∀ l : Fin 16, dig 2 (l.val : Int) ≤ 9 := by decide +kernel
theorem ln_fin (x : Int) (i : Nat) : ∃ l : Fin 16, ln x i = (l.val : Int) := by
  have a := ln_lo x i
  have b := ln_hi x i
  exact ⟨⟨(ln x i).toNat, by omega⟩, by simp; omega⟩
theorem ok_four (x : Int) : okB 1 x = true := by
  rw [okB_iff]; intro i _; obtain ⟨l, e⟩ := ln_fin x i; rw [e]; exact four_all l
theorem ok_five (x : Int) : okB 2 x = true := by
  rw [okB_iff]; intro i _; obtain ⟨l, e⟩ := ln_fin x i; rw [e]; exact five_all l
/-- What a word stands for under the weighting m + 1. -/
def W (m : Nat) (x : Int) : Int := pv (fun i => dig m (ln x i)) 16
theorem W_vl (m : Nat) (x : Int) (k : okB m x = true) : vl (digits m x) = W m x := by
  rw [digits_highsF m x k, vl_highsF]; rfl
/-- The bit that comes into lane i from below. -/
def inBit (x : Int) : Nat → Int
  | 0 => 0
  | i + 1 => ln x i / 8
theorem ln_nat (X i : Nat) : ln (X : Int) i = ((X / 16 ^ i % 16 : Nat) : Int) := by
  unfold ln
  have e : ((16 : Int) ^ i) = ((16 ^ i : Nat) : Int) := by simp
  rw [e]; rfl
theorem top_nat (X i : Nat) (hi : i < 16) : X % 18446744073709551616 / 16 ^ i % 16 = X / 16 ^ i % 16 := by
  have e : 18446744073709551616 = 16 ^ i * 16 ^ (16 - i) := by
    rw [← Nat.pow_add, show i + (16 - i) = 16 by omega]
  rw [e, Nat.mod_mul_right_div_self]
  exact Nat.mod_mod_of_dvd _ ⟨16 ^ (15 - i), by rw [show 16 - i = 15 - i + 1 by omega, Nat.pow_succ, Nat.mul_comm]⟩
theorem dbl_nat (X P : Nat) (hP : 0 < P) : ∃ e, e < 2 ∧ 2 * X / P = 2 * (X / P) + e := by
  have h := Nat.div_add_mod X P
  have r := Nat.mod_lt X hP
  refine ⟨2 * (X % P) / P, Nat.div_lt_of_lt_mul (by omega), ?_⟩
  have : 2 * X = 2 * (X % P) + P * (2 * (X / P)) := by
    rw [Nat.mul_left_comm]; omega
  rw [this, Nat.add_mul_div_left _ _ hP]
  omega
theorem dbl_lane (X i : Nat) : 2 * X / 16 ^ (i + 1) % 16 = 2 * (X / 16 ^ (i + 1) % 16) % 16 + X / 16 ^ i % 16 / 8 := by
  obtain ⟨e, he, h⟩ := dbl_nat X (16 ^ i) (Nat.pow_pos (by decide))
  rw [Nat.pow_succ, ← Nat.div_div_eq_div_mul, ← Nat.div_div_eq_div_mul, h]
  generalize X / 16 ^ i = Y
  omega
theorem tw_lane (x : Int) (i : Nat) (h0 : 0 ≤ x) (hi : i < 16) : ln (tw x) i = 2 * ln x i % 16 + inBit x i := by
  obtain ⟨X, rfl⟩ := Int.eq_ofNat_of_zero_le h0
  have e : tw (X : Int) = ((2 * X % 18446744073709551616 : Nat) : Int) := by
    rw [tw_eq, Int.mul_comm]; rfl
  rw [e, ln_nat, top_nat (2 * X) i hi, ln_nat]
  cases i with
  | zero =>
    show _ = _ + (0 : Int)
    rw [Nat.pow_zero, Nat.div_one, Nat.div_one]
    omega
  | succ i =>
    show _ = _ + ln (X : Int) i / 8
    rw [dbl_lane, ln_nat]
    omega
theorem twice_all : ∀ l : Fin 16, ∀ c : Fin 2, dig 1 (2 * (l.val : Int) % 16 + (c.val : Int)) + 10 * ((l.val : Int) / 8) = 2 * dig 2 (l.val : Int) + (c.val : Int) := by decide +kernel
theorem inBit_bd (x : Int) (i : Nat) : inBit x i = 0 ∨ inBit x i = 1 := by
  cases i with
  | zero => exact .inl rfl
  | succ i =>
    have a := ln_lo x i
    have b := ln_hi x i
    show ln x i / 8 = 0 ∨ ln x i / 8 = 1
    omega
theorem twice_lane (x : Int) (i : Nat) (h0 : 0 ≤ x) (hi : i < 16) : dig 1 (ln (tw x) i) + 10 * inBit x (i + 1) = 2 * dig 2 (ln x i) + inBit x i := by
  rw [tw_lane x i h0 hi]
  show dig 1 _ + 10 * (ln x i / 8) = _
  obtain ⟨l, e⟩ := ln_fin x i
  rw [e]
  rcases inBit_bd x i with h | h
  · rw [h]; exact twice_all l 0
  · rw [h]; exact twice_all l 1
theorem twice_pv (x : Int) (h0 : 0 ≤ x) (k : Nat) (hk : k ≤ 16) : pv (fun i => dig 1 (ln (tw x) i)) k + 10 ^ k * inBit x k = 2 * pv (fun i => dig 2 (ln x i)) k := by
  induction k with
  | zero => simp [pv, inBit]
  | succ k ih =>
    have i := ih (by omega)
    have t := twice_lane x k h0 (by omega)
    simp only [pv, Int.pow_succ]
    have key : ∀ p A B c d : Int, A + 10 * c = 2 * B + d → A * p + p * 10 * c = 2 * (B * p) + p * d := fun p A B c d h => by
      rw [Int.mul_comm A, Int.mul_assoc, ← Int.mul_add, h, Int.mul_add, Int.mul_comm B, ← Int.mul_assoc, ← Int.mul_assoc, Int.mul_comm p 2]
    have := key (10 ^ k) _ _ _ _ t
    omega
theorem out_bit (x : Int) (h0 : 0 ≤ x) (h1 : x ≤ 18446744073709551615) : inBit x 16 = twOut x := by
  show x / 16 ^ 15 % 16 / 8 = x / 9223372036854775808
  have e : (16 : Int) ^ 15 = 1152921504606846976 := by decide
  rw [e]; omega
/-- A word in fives doubled is the word in fours and what left. -/
theorem twice_W (x : Int) (h0 : 0 ≤ x) (h1 : x ≤ 18446744073709551615) : 2 * W 2 x = W 1 (tw x) + twOut x * 10 ^ 16 := by
  have := twice_pv x h0 16 (Nat.le_refl _)
  rw [out_bit x h0 h1, Int.mul_comm (10 ^ 16)] at this
  exact this.symm
end Go.Proofs.YtlbkhiphnllfpajDoor
