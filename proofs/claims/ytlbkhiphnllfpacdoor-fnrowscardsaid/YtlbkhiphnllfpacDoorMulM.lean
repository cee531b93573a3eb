/-
  Plain facts on multiples of a plain word: digit by digit, and what they stand for.
-/
import Derived.Test.YtlbkhiphnllfpacDoorSumsM
namespace Go.Proofs.YtlbkhiphnllfpacDoor
open Ln
set_option linter.unusedVariables false
/-- The carry into place i of k times f. -/
def mcy (f : Nat → Int) (k : Int) : Nat → Int
  | 0 => 0
  | i + 1 => (f i * k + mcy f k i) / 10
/-- The digit at place i of k times f. -/
def mdg (f : Nat → Int) (k : Int) (i : Nat) : Int := (f i * k + mcy f k i) % 10
theorem mdg_nine (f : Nat → Int) (k : Int) : Nine (mdg f k) := fun i _ => by unfold mdg; omega
theorem mul_room (d k : Int) (d0 : 0 ≤ d) (d9 : d ≤ 9) (k0 : 0 ≤ k) (k10 : k ≤ 10) : 0 ≤ d * k ∧ d * k ≤ 90 := by
  have h := Int.mul_nonneg d0 k0
  have g := Int.mul_le_mul d9 k10 k0 (by decide)
  omega
theorem mcy_bd (f : Nat → Int) (k : Int) (hf : Nine f) (k0 : 0 ≤ k) (k10 : k ≤ 10) (i : Nat) (hi : i ≤ 16) : 0 ≤ mcy f k i ∧ mcy f k i ≤ 9 := by
  induction i with
  | zero =>
    show (0 : Int) ≤ 0 ∧ (0 : Int) ≤ 9
    decide
  | succ i ih =>
    have a := ih (by omega)
    have b := hf i (by omega)
    have c := mul_room (f i) k b.1 b.2 k0 k10
    show 0 ≤ (f i * k + mcy f k i) / 10 ∧ (f i * k + mcy f k i) / 10 ≤ 9
    omega
theorem mul_pv (f : Nat → Int) (k : Int) (n : Nat) : pv f n * k = pv (mdg f k) n + 10 ^ n * mcy f k n := by
  induction n with
  | zero => simp [pv, mcy]
  | succ n ih =>
    have e1 : mcy f k (n + 1) = (f n * k + mcy f k n) / 10 := rfl
    have e2 : mdg f k n = (f n * k + mcy f k n) % 10 := rfl
    have e3 : f n * k + mcy f k n = mdg f k n + 10 * mcy f k (n + 1) := by omega
    simp only [pv, Int.pow_succ]
    rw [Int.add_mul, ih]
    have key : ∀ p F C D E : Int, F + C = D + 10 * E → F * p + p * C = D * p + p * 10 * E := fun p F C D E h => by
      rw [Int.mul_comm p C, ← Int.add_mul, h, Int.add_mul, Int.mul_assoc p, Int.mul_comm p]
    have h := key (10 ^ n) _ _ _ _ e3
    have r : f n * 10 ^ n * k = f n * k * 10 ^ n := by rw [Int.mul_assoc, Int.mul_comm (10 ^ n), ← Int.mul_assoc]
    omega
theorem pv_room (f : Nat → Int) (hf : Nine f) : 0 ≤ pv f 16 ∧ pv f 16 < 10000000000000000 := by
  have d : Dec (highsF f 16) := fun x hx => by
    obtain ⟨i, hi, rfl⟩ := highsF_mem f 16 (Nat.le_refl _) x hx
    exact hf i hi
  have h := vl_bd _ d
  rw [vl_highsF, highsF_length] at h
  exact h
/-- Sixteen digits are told by what they stand for. -/
theorem pv_same (f g : Nat → Int) (hf : Nine f) (hg : Nine g) (h : pv f 16 = pv g 16) : Sm f 16 = Sm g 16 := by
  have df : Dec (highsF f 16) := fun x hx => by
    obtain ⟨i, hi, rfl⟩ := highsF_mem f 16 (Nat.le_refl _) x hx
    exact hf i hi
  have dg : Dec (highsF g 16) := fun x hx => by
    obtain ⟨i, hi, rfl⟩ := highsF_mem g 16 (Nat.le_refl _) x hx
    exact hg i hi
  have e : (highsF f 16).reverse = (highsF g 16).reverse := lv_unique _ _ (dec_rev _ df) (dec_rev _ dg) (by rw [List.length_reverse, List.length_reverse, highsF_length, highsF_length]) (by
    have := h; rw [← vl_highsF, ← vl_highsF] at this; exact this)
  have e2 : highsF f 16 = highsF g 16 := by rw [← List.reverse_reverse (highsF f 16), e, List.reverse_reverse]
  rw [← pack_highsF f hf, ← pack_highsF g hg, e2]
/-- Digits and what leaves that stand for k times f are those of k times f. -/
theorem mul_same (f g : Nat → Int) (k o : Int) (hg : Nine g) (h : pv g 16 + o * 10 ^ 16 = pv f 16 * k) : Sm g 16 = Sm (mdg f k) 16 ∧ o = mcy f k 16 := by
  have m := mul_pv f k 16
  have a := pv_room g hg
  have b := pv_room _ (mdg_nine f k)
  have e : (10 : Int) ^ 16 = 10000000000000000 := by decide
  rw [e] at h m
  have ho : o = mcy f k 16 := by omega
  exact ⟨pv_same _ _ hg (mdg_nine f k) (by omega), ho⟩
/-- k times a plain word: the word, and what leaves. -/
def mulV (x k : Int) : Int := Sm (mdg (ln x) k) 16
def mulC (x k : Int) : Int := mcy (ln x) k 16
theorem mulV_bd (x k : Int) : 0 ≤ mulV x k ∧ mulV x k ≤ 18446744073709551615 := Sm_u64 _ (mdg_nine _ _)
theorem mulV_ok (x k : Int) : okB 0 (mulV x k) = true := ok_Sm _ (mdg_nine _ _)
theorem mulV_vl (x k : Int) (hx : okB 0 x = true) : vl (digits 0 (mulV x k)) + mulC x k * 10 ^ 16 = vl (digits 0 x) * k := by
  unfold mulV mulC
  rw [digits_Sm _ (mdg_nine _ _), digits_highsF 0 x hx, plain_dig, vl_highsF, vl_highsF, Int.mul_comm _ (10 ^ 16)]
  exact (mul_pv (ln x) k 16).symm
/-- Doubled lane by lane. -/
def dbl (f : Nat → Int) (i : Nat) : Int := f i * 2 % 10 + (if i = 0 then 0 else f (i - 1) / 5)
theorem dbl_nine (f : Nat → Int) (hf : Nine f) : Nine (dbl f) := fun i hi => by
  have a := hf i hi
  unfold dbl
  split
  · omega
  · have b := hf (i - 1) (by omega); omega
theorem dbl_pv (f : Nat → Int) (n : Nat) : pv (dbl f) n + 10 ^ n * (if n = 0 then 0 else f (n - 1) / 5) = pv f n * 2 := by
  induction n with
  | zero => simp [pv]
  | succ n ih =>
    simp only [pv, Int.pow_succ, Nat.add_sub_cancel, if_neg (Nat.succ_ne_zero n)]
    rw [Int.add_mul, ← ih]
    have e : dbl f n + 10 * (f n / 5) = f n * 2 + (if n = 0 then 0 else f (n - 1) / 5) := by
      unfold dbl; omega
    have key : ∀ p A B C D : Int, A + 10 * B = C * 2 + D → A * p + p * 10 * B = C * p * 2 + p * D := fun p A B C D h => by
      rw [Int.mul_assoc p, Int.mul_comm A, ← Int.mul_add, h, Int.mul_add, Int.mul_comm C 2, Int.mul_comm (C * p) 2, ← Int.mul_assoc 2, Int.mul_comm p (2 * C)]
    have := key (10 ^ n) _ _ _ _ e
    omega
/-- Five times lane by lane. -/
def fiv (f : Nat → Int) (i : Nat) : Int := f i % 2 * 5 + (if i = 0 then 0 else f (i - 1) / 2)
theorem fiv_nine (f : Nat → Int) (hf : Nine f) : Nine (fiv f) := fun i hi => by
  have a := hf i hi
  unfold fiv
  split
  · omega
  · have b := hf (i - 1) (by omega); omega
theorem fiv_pv (f : Nat → Int) (n : Nat) : pv (fiv f) n + 10 ^ n * (if n = 0 then 0 else f (n - 1) / 2) = pv f n * 5 := by
  induction n with
  | zero => simp [pv]
  | succ n ih =>
    simp only [pv, Int.pow_succ, Nat.add_sub_cancel, if_neg (Nat.succ_ne_zero n)]
    rw [Int.add_mul, ← ih]
    have e : fiv f n + 10 * (f n / 2) = f n * 5 + (if n = 0 then 0 else f (n - 1) / 2) := by
      unfold fiv; omega
    have key : ∀ p A B C D : Int, A + 10 * B = C * 5 + D → A * p + p * 10 * B = C * p * 5 + p * D := fun p A B C D h => by
      rw [Int.mul_assoc p, Int.mul_comm A, ← Int.mul_add, h, Int.mul_add, Int.mul_comm C 5, Int.mul_comm (C * p) 5, ← Int.mul_assoc 5, Int.mul_comm p (5 * C)]
    have := key (10 ^ n) _ _ _ _ e
    omega
end Go.Proofs.YtlbkhiphnllfpacDoor
