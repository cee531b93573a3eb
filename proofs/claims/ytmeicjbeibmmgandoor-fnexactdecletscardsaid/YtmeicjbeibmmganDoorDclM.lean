/-
  Plain facts on three digits in ten bits.
-/
import Derived.WalkKit
import Derived.KernelRfl
namespace Go.Proofs.YtmeicjbeibmmganDoor
set_option linter.unusedVariables false
/-- Ten bits by the kind of the three digits and what is left of each. -/
def dcK (k b d f h j m : Int) : Int :=
  if k = 0 then b * 256 + d * 128 + f * 32 + h * 16 + j * 2 + m
  else if k = 1 then b * 256 + d * 128 + f * 32 + h * 16 + 8 + m
  else if k = 2 then b * 256 + d * 128 + j * 32 + h * 16 + 10 + m
  else if k = 4 then j * 256 + d * 128 + f * 32 + h * 16 + 12 + m
  else if k = 6 then j * 256 + d * 128 + h * 16 + 14 + m
  else if k = 5 then f * 256 + d * 128 + 32 + h * 16 + 14 + m
  else if k = 3 then b * 256 + d * 128 + 64 + h * 16 + 14 + m
  else d * 128 + 96 + h * 16 + 14 + m
/-- .. of three digits. -/
def dcD (x y z : Int) : Int := dcK (x / 8 * 4 + y / 8 * 2 + z / 8) (x % 8 / 2) (x % 2) (y % 8 / 2) (y % 2) (z % 8 / 2) (z % 2)
/-- .. of a number from 0 to 999; -1 of any other. -/
def dcl (n : Int) : Int := if 0 ≤ n ∧ n ≤ 999 then dcD (n / 100) (n / 10 % 10) (n % 10) else -1
/-- What is left of the bits that are not looked at. -/
def fold (b : Int) : Int := if b / 2 % 8 = 7 ∧ b / 32 % 4 = 3 then b % 256 else b
/-- The number that ten bits stand for, by their fields. -/
def unK (b : Int) : Int :=
  let p := b / 256; let d := b / 128 % 2; let q := b / 32 % 4; let h := b / 16 % 2; let v := b / 8 % 2; let r := b / 2 % 4; let m := b % 2
  if v = 0 then (p * 2 + d) * 100 + (q * 2 + h) * 10 + (r * 2 + m)
  else if r = 0 then (p * 2 + d) * 100 + (q * 2 + h) * 10 + (8 + m)
  else if r = 1 then (p * 2 + d) * 100 + (8 + h) * 10 + (q * 2 + m)
  else if r = 2 then (8 + d) * 100 + (q * 2 + h) * 10 + (p * 2 + m)
  else if q = 0 then (8 + d) * 100 + (8 + h) * 10 + (p * 2 + m)
  else if q = 1 then (8 + d) * 100 + (p * 2 + h) * 10 + (8 + m)
  else if q = 2 then (p * 2 + d) * 100 + (8 + h) * 10 + (8 + m)
  else (8 + d) * 100 + (8 + h) * 10 + (8 + m)
/-- .. -1 of what is none. -/
def und (b : Int) : Int := if 0 ≤ b ∧ b ≤ 1023 then unK b else -1
/-- The canonical bits. -/
def can (b : Int) : Int := dcl (und b)
theorem tab1 : (List.range 1000).all (fun n => decide (unK (dcl n) = n ∧ 0 ≤ dcl n ∧ dcl n ≤ 1023 ∧ fold (dcl n) = dcl n)) = true := by kernel_rfl
theorem tab2 : (List.range 1024).all (fun b => decide (dcl (unK b) = fold b ∧ 0 ≤ unK b ∧ unK b ≤ 999)) = true := by kernel_rfl
theorem dcl_back (n : Int) (h0 : 0 ≤ n) (h1 : n ≤ 999) : unK (dcl n) = n ∧ 0 ≤ dcl n ∧ dcl n ≤ 1023 ∧ fold (dcl n) = dcl n := by
  obtain ⟨N, rfl⟩ := Int.eq_ofNat_of_zero_le h0
  exact of_decide_eq_true (List.all_eq_true.1 tab1 N (List.mem_range.2 (by omega)))
theorem und_back (b : Int) (h0 : 0 ≤ b) (h1 : b ≤ 1023) : dcl (unK b) = fold b ∧ 0 ≤ unK b ∧ unK b ≤ 999 := by
  obtain ⟨N, rfl⟩ := Int.eq_ofNat_of_zero_le h0
  exact of_decide_eq_true (List.all_eq_true.1 tab2 N (List.mem_range.2 (by omega)))
/-- No two numbers have the same bits. -/
theorem dcl_one (n m : Int) (h0 : 0 ≤ n) (h1 : n ≤ 999) (k0 : 0 ≤ m) (k1 : m ≤ 999) (e : dcl n = dcl m) : n = m := by
  rw [← (dcl_back n h0 h1).1, ← (dcl_back m k0 k1).1, e]
theorem und_dcl (n : Int) (h0 : 0 ≤ n) (h1 : n ≤ 999) : und (dcl n) = n := by
  have h := dcl_back n h0 h1
  unfold und
  rw [if_pos ⟨h.2.1, h.2.2.1⟩]
  exact h.1
theorem und_fits (b : Int) : -1 ≤ und b ∧ und b ≤ 999 := by
  unfold und
  split
  · next h => have := und_back b h.1 h.2; omega
  · omega
theorem dcl_fits (n : Int) : -1 ≤ dcl n ∧ dcl n ≤ 1023 := by
  by_cases h : 0 ≤ n ∧ n ≤ 999
  · have := dcl_back n h.1 h.2; omega
  · unfold dcl; rw [if_neg h]; omega
theorem dcl_none (n : Int) (h : ¬ (0 ≤ n ∧ n ≤ 999)) : dcl n = -1 := by unfold dcl; rw [if_neg h]
theorem und_none (b : Int) (h : ¬ (0 ≤ b ∧ b ≤ 1023)) : und b = -1 := by unfold und; rw [if_neg h]
/-- Canonical bits stand for the same. -/
theorem und_can (b : Int) (h0 : 0 ≤ b) (h1 : b ≤ 1023) : und (can b) = und b := by
  have h := und_back b h0 h1
  have e : und b = unK b := by unfold und; rw [if_pos ⟨h0, h1⟩]
  unfold can
  rw [und_dcl _ (by omega) (by omega)]
end Go.Proofs.YtmeicjbeibmmganDoor
