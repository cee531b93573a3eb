/-
  Plain facts on what four bits stand for under the three weightings.
-/
import Derived.Test.YtmeicjbeibmmganDoorLn
namespace Go.Proofs.YtmeicjbeibmmganDoor.Ln
/-- The weight of a lane's bit in place k from the high end, under the weighting m + 1. -/
def wt (m k : Nat) : Int := ((([[8, 4, 2, 1], [4, 2, 2, 1], [5, 2, 1, 1]] : List (List Int)).getD m []).getD k 0)
/-- What the k high bits of a lane stand for. -/
def part (m : Nat) (l : Int) : Nat → Int
  | 0 => 0
  | k + 1 => part m l k + (if l / 2 ^ (3 - k) % 2 = 1 then wt m k else 0)
/-- What a lane stands for. -/
def dig (m : Nat) (l : Int) : Int := part m l 4
theorem part_yes (m : Nat) (l : Int) (k : Nat) (h : l / 2 ^ (3 - k) % 2 = 1) : part m l k + wt m k = part m l (k + 1) := by
  show _ = part m l k + _; rw [if_pos h]
theorem part_no (m : Nat) (l : Int) (k : Nat) (h : ¬ l / 2 ^ (3 - k) % 2 = 1) : part m l k = part m l (k + 1) := by
  show _ = part m l k + _; rw [if_neg h, Int.add_zero]
theorem wt_bd (m k : Nat) : 0 ≤ wt m k ∧ wt m k ≤ 8 := by
  unfold wt
  match m, k with
  | 0, 0 | 0, 1 | 0, 2 | 0, 3 | 1, 0 | 1, 1 | 1, 2 | 1, 3 | 2, 0 | 2, 1 | 2, 2 | 2, 3 => decide
  | 0, k + 4 | 1, k + 4 | 2, k + 4 => simp
  | m + 3, k => simp
theorem part_bd (m : Nat) (l : Int) (k : Nat) : 0 ≤ part m l k ∧ part m l k ≤ 8 * k := by
  induction k with
  | zero => exact ⟨Int.le_refl _, Int.le_refl _⟩
  | succ k ih =>
    have := wt_bd m k
    show 0 ≤ part m l k + _ ∧ part m l k + _ ≤ _
    split <;> omega
theorem dig_bd (m : Nat) (l : Int) : 0 ≤ dig m l ∧ dig m l ≤ 32 := by
  have := part_bd m l 4; unfold dig; omega
theorem sh_bd (l : Int) (j : Nat) (h0 : 0 ≤ l) (h1 : l ≤ 15) : 0 ≤ l / 2 ^ j ∧ l / 2 ^ j ≤ 15 := by
  have a : 0 ≤ l / 2 ^ j := Int.ediv_nonneg h0 (Int.le_of_lt (Int.pow_pos (by decide)))
  have b := Int.ediv_le_self (2 ^ j) h0
  omega
theorem bit_and (l : Int) (j : Nat) (h0 : 0 ≤ l) (h1 : l ≤ 15) : bits .and .u64 (l / 2 ^ j) 1 = l / 2 ^ j % 2 := by
  obtain ⟨a, b⟩ := sh_bd l j h0 h1
  obtain ⟨n, hn⟩ := Int.eq_ofNat_of_zero_le a
  rw [hn] at b ⊢
  have := bits_and_u64_nat n 1 (by omega) (by decide)
  rw [show ((1 : Nat) : Int) = 1 from rfl] at this
  rw [this, Nat.and_one_is_mod]
  rfl
theorem bit_yes (l : Int) (j : Nat) (h0 : 0 ≤ l) (h1 : l ≤ 15) (h : l / 2 ^ j % 2 = 1) : (bits .and .u64 (l / 2 ^ j) 1 == 1) = true := by
  rw [bit_and l j h0 h1, h]; rfl
theorem bit_no (l : Int) (j : Nat) (h0 : 0 ≤ l) (h1 : l ≤ 15) (h : ¬ l / 2 ^ j % 2 = 1) : (bits .and .u64 (l / 2 ^ j) 1 == 1) = false := by
  rw [bit_and l j h0 h1]; simp [h]
theorem rem_yes (l : Int) (j : Nat) (h0 : 0 ≤ l) (h1 : l ≤ 15) (h : l / 2 ^ j % 2 = 1) : ((l / 2 ^ j).tmod 2 == 1) = true := by
  rw [Int.tmod_eq_emod_of_nonneg (sh_bd l j h0 h1).1, h]; rfl
theorem rem_no (l : Int) (j : Nat) (h0 : 0 ≤ l) (h1 : l ≤ 15) (h : ¬ l / 2 ^ j % 2 = 1) : ((l / 2 ^ j).tmod 2 == 1) = false := by
  rw [Int.tmod_eq_emod_of_nonneg (sh_bd l j h0 h1).1]; simp [h]
/-- Each of the sixteen lanes stands for at most 9 under the weighting m + 1. -/
def Ok (m : Nat) (x : Int) : Prop := ∀ i, i < 16 → dig m (ln x i) ≤ 9
def okB (m : Nat) (x : Int) : Bool := (List.range 16).all fun i => decide (dig m (ln x i) ≤ 9)
theorem okB_iff (m : Nat) (x : Int) : okB m x = true ↔ Ok m x := by
  unfold okB Ok; simp
theorem okB_no (m : Nat) (x : Int) (i : Nat) (hi : i < 16) (h : 9 < dig m (ln x i)) : okB m x = false := by
  cases e : okB m x with
  | false => rfl
  | true => exact absurd ((okB_iff m x).1 e i hi) (by omega)
end Go.Proofs.YtmeicjbeibmmganDoor.Ln
