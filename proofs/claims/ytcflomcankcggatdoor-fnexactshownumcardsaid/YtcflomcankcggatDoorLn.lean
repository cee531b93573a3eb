/-
  Plain facts on the lanes of a word: what a shift by lanes gives, and that one count alone tells how many lanes at the high end are 0.
-/
import Derived.WalkKit
namespace Go.Proofs.YtcflomcankcggatDoor.Ln
/-- Lane i of a word. -/
def ln (w : Int) (i : Nat) : Int := w / 16 ^ i % 16
theorem pow4 (i : Nat) : (2 : Int) ^ (4 * i) = 16 ^ i := by rw [Int.pow_mul]; rfl
theorem pow_pos16 (i : Nat) : (0 : Int) < 16 ^ i := Int.pow_pos (by decide)
theorem ln_lo (w : Int) (i : Nat) : 0 ≤ ln w i := Int.emod_nonneg _ (by decide)
theorem ln_hi (w : Int) (i : Nat) : ln w i < 16 := Int.emod_lt_of_pos _ (by decide)
/-- n lanes up, in 64 bits. -/
def up (w : Int) (n : Nat) : Int := w * 16 ^ n % 18446744073709551616
theorem up_zero (w : Int) (h0 : 0 ≤ w) (h1 : w ≤ 18446744073709551615) : up w 0 = w := by
  unfold up; rw [Int.pow_zero, Int.mul_one]; omega
theorem up_succ (w : Int) (n : Nat) : up w n * 16 % 18446744073709551616 = up w (n + 1) := by
  unfold up; rw [Int.pow_succ, ← Int.mul_assoc, Int.mul_emod, Int.emod_emod_of_dvd _ (Int.dvd_refl _), ← Int.mul_emod]
theorem up_lo (w : Int) (n : Nat) : 0 ≤ up w n := by unfold up; omega
theorem up_hi (w : Int) (n : Nat) : up w n ≤ 18446744073709551615 := by unfold up; omega
/-- n lanes down. -/
def down (w : Int) (n : Nat) : Int := w / 16 ^ n
theorem down_zero (w : Int) : down w 0 = w := by unfold down; rw [Int.pow_zero, Int.ediv_one]
theorem down_succ (w : Int) (n : Nat) : down w n / 16 = down w (n + 1) := by
  unfold down; rw [Int.pow_succ, Int.ediv_ediv_of_nonneg (Int.le_of_lt (pow_pos16 n))]
theorem down_lo (w : Int) (n : Nat) (h0 : 0 ≤ w) : 0 ≤ down w n := Int.ediv_nonneg h0 (Int.le_of_lt (pow_pos16 n))
theorem down_hi (w : Int) (n : Nat) (h0 : 0 ≤ w) (h1 : w ≤ 18446744073709551615) : down w n ≤ 18446744073709551615 := by
  have := Int.ediv_le_self (16 ^ n) h0; unfold down; omega
/-- k lanes at the high end are 0, and no more. -/
def IsLead (w : Int) (k : Nat) : Prop := k ≤ 16 ∧ (∀ j, j < k → ln w (15 - j) = 0) ∧ (k < 16 → ln w (15 - k) ≠ 0)
theorem lead_unique (w : Int) (a b : Nat) (ha : IsLead w a) (hb : IsLead w b) : a = b := by
  obtain ⟨a1, a2, a3⟩ := ha
  obtain ⟨b1, b2, b3⟩ := hb
  rcases Nat.lt_trichotomy a b with h | h | h
  · exact absurd (b2 a h) (a3 (by omega))
  · exact h
  · exact absurd (a2 b h) (b3 (by omega))
theorem up_pow (x : Int) (n : Nat) : IntKind.u64.wrap (x * 2 ^ (4 * n)) = up x n := by
  unfold up; rw [IntKind.wrap_u64, pow4]
theorem up_step (x : Int) (n : Nat) : IntKind.u64.wrap (up x n * 16) = up x (n + 1) := by
  rw [IntKind.wrap_u64]; exact up_succ x n
theorem down_pow (x : Int) (n : Nat) : x / 2 ^ (4 * n) = down x n := by unfold down; rw [pow4]
theorem ret_int {k : IntKind} {a b : Int} (h : a = b) : Ending.returned (.int k a) = .returned (.int k b) := by rw [h]
theorem ret_bool {a b : Bool} (h : a = b) : Ending.returned (.bool a) = .returned (.bool b) := by rw [h]
theorem val_int {k : IntKind} {a b : Int} (h : a = b) : Value.int k a = .int k b := by rw [h]
theorem down_nat (x : Int) (n : Nat) (h0 : 0 ≤ x) (h1 : x ≤ 18446744073709551615) : ∃ a : Nat, down x n = a ∧ a < 18446744073709551616 := by
  have l := down_lo x n h0
  have h := down_hi x n h0 h1
  exact ⟨(down x n).toNat, by omega, by omega⟩
theorem ln_and (x : Int) (i : Nat) (h0 : 0 ≤ x) (h1 : x ≤ 18446744073709551615) : bits .and .u64 (x / 2 ^ (4 * i)) 15 = ln x i := by
  rw [down_pow]
  obtain ⟨a, ha, hb⟩ := down_nat x i h0 h1
  have e : ln x i = down x i % 16 := rfl
  rw [e, ha]
  have := bits_and_u64_nat a 15 hb (by decide)
  rw [show ((15 : Nat) : Int) = 15 from rfl] at this
  rw [this, show (15 : Nat) = 2 ^ 4 - 1 from rfl, Nat.and_two_pow_sub_one_eq_mod]
  rfl
theorem ln_mod (x : Int) (i : Nat) (h0 : 0 ≤ x) : Go.RowKit.wrap64 ((x / 2 ^ (4 * i)).tmod 16) = ln x i := by
  rw [down_pow, Int.tmod_eq_emod_of_nonneg (down_lo x i h0)]
  have e : ln x i = down x i % 16 := rfl
  rw [← e]
  have a := ln_lo x i
  have b := ln_hi x i
  unfold Go.RowKit.wrap64; omega
end Go.Proofs.YtcflomcankcggatDoor.Ln
