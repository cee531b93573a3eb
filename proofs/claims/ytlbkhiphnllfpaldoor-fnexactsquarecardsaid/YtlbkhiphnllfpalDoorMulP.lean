/-
  Plain facts on once, twice and five times a plain word, lane by lane, and on a multiple that is put together of them.
-/
import Derived.Test.YtlbkhiphnllfpalDoorMulM
namespace Go.Proofs.YtlbkhiphnllfpalDoor
open Ln
set_option linter.unusedVariables false
/-- t times, lane by lane: what the lane keeps and what comes from the one below. -/
def ez (f : Nat → Int) (t : Int) (i : Nat) : Int := t * f i - 10 * (t * f i / 10) + (if i = 0 then 0 else t * f (i - 1) / 10)
/-- What comes into lane i. -/
def ezc (f : Nat → Int) (t : Int) (i : Nat) : Int := if i = 0 then 0 else t * f (i - 1) / 10
theorem ezc_zero (f : Nat → Int) (t : Int) : ezc f t 0 = 0 := rfl
theorem ezc_succ (f : Nat → Int) (t : Int) (i : Nat) : ezc f t (i + 1) = t * f i / 10 := by
  unfold ezc; rw [if_neg (Nat.succ_ne_zero i), Nat.add_sub_cancel]
theorem ez_def (f : Nat → Int) (t : Int) (i : Nat) : ez f t i = t * f i - 10 * (t * f i / 10) + ezc f t i := rfl
def Easy (t : Int) : Prop := t = 1 ∨ t = 2 ∨ t = 5
theorem ezc_bd (f : Nat → Int) (t : Int) (ht : Easy t) (hf : Nine f) (i : Nat) (hi : i ≤ 16) : 0 ≤ ezc f t i ∧ ezc f t i ≤ 4 := by
  cases i with
  | zero => rw [ezc_zero]; decide
  | succ i =>
    have a := hf i (by omega)
    rw [ezc_succ]
    rcases ht with rfl | rfl | rfl <;> omega
theorem ez_nine (f : Nat → Int) (t : Int) (ht : Easy t) (hf : Nine f) : Nine (ez f t) := fun i hi => by
  have a := hf i hi
  rw [ez_def]
  cases i with
  | zero => rw [ezc_zero]; rcases ht with rfl | rfl | rfl <;> omega
  | succ i =>
    have b := hf i (by omega)
    rw [ezc_succ]
    rcases ht with rfl | rfl | rfl <;> omega
theorem ez_pv (f : Nat → Int) (t : Int) (n : Nat) : pv (ez f t) n + 10 ^ n * ezc f t n = pv f n * t := by
  induction n with
  | zero => simp [pv, ezc]
  | succ n ih =>
    simp only [pv, Int.pow_succ]
    rw [Int.add_mul, ← ih]
    have e : ez f t n + 10 * ezc f t (n + 1) = f n * t + ezc f t n := by
      rw [ez_def, ezc_succ, Int.mul_comm (f n) t]; omega
    have key : ∀ p A B C D : Int, A + 10 * B = C + D → A * p + p * 10 * B = C * p + p * D := fun p A B C D h => by
      rw [Int.mul_assoc p, Int.mul_comm A, ← Int.mul_add, h, Int.mul_add, Int.mul_comm C]
    have := key (10 ^ n) _ _ _ _ e
    rw [Int.mul_assoc (f n), Int.mul_comm (10 ^ n) t, ← Int.mul_assoc (f n) t]
    omega
/-- t times a word: the word and what leaves. -/
def ezV (x t : Int) : Int := Sm (ez (ln x) t) 16
def ezC (x t : Int) : Int := ezc (ln x) t 16
theorem ezV_same (x t : Int) (ht : Easy t) (k : okB 0 x = true) : ezV x t = mulV x t ∧ ezC x t = mulC x t := by
  have n := ok_nine x k
  exact mul_same (ln x) (ez (ln x) t) t (ezC x t) (ez_nine _ _ ht n) (by have := ez_pv (ln x) t 16; unfold ezC; rw [Int.mul_comm _ (10 ^ 16)]; exact this)
theorem pv0 (x : Int) (k : okB 0 x = true) : vl (digits 0 x) = pv (ln x) 16 := by
  rw [digits_highsF 0 x k, plain_dig, vl_highsF]
/-- A part more. -/
theorem mul_more (x m o k t : Int) (hx : okB 0 x = true) (km : okB 0 m = true) (h : vl (digits 0 m) + o * 10 ^ 16 = vl (digits 0 x) * k) :
    vl (digits 0 (addV m (mulV x t) false)) + (o + mulC x t + inI (addC m (mulV x t) false)) * 10 ^ 16 = vl (digits 0 x) * (k + t) := by
  have a := add_value m (mulV x t) false km (mulV_ok x t)
  have b := mulV_vl x t hx
  have e : inI false = 0 := rfl
  rw [Int.mul_add, ← h, ← b]
  rw [e] at a
  generalize vl (digits 0 (addV m (mulV x t) false)) = V at *
  generalize inI (addC m (mulV x t) false) = C at *
  generalize vl (digits 0 (mulV x t)) = M at *
  generalize vl (digits 0 m) = N at *
  generalize mulC x t = D at *
  rw [Int.add_mul, Int.add_mul]
  omega
/-- A right word and what leaves are told by their value. -/
theorem mul_told (x m o k : Int) (hx : okB 0 x = true) (km : okB 0 m = true) (m0 : 0 ≤ m) (m1 : m ≤ 18446744073709551615) (h : vl (digits 0 m) + o * 10 ^ 16 = vl (digits 0 x) * k) : m = mulV x k ∧ o = mulC x k := by
  rw [pv0 _ hx, pv0 _ km] at h
  have := mul_same (ln x) (ln m) k o (ok_nine m km) h
  rw [Sm_word m m0 m1] at this
  exact this
theorem mulC_bd (x k : Int) (hx : okB 0 x = true) (k0 : 0 ≤ k) (k10 : k ≤ 10) : 0 ≤ mulC x k ∧ mulC x k ≤ 9 := mcy_bd _ k (ok_nine x hx) k0 k10 16 (Nat.le_refl _)
end Go.Proofs.YtlbkhiphnllfpalDoor
