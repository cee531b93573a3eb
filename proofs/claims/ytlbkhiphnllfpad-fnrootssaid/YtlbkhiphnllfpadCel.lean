/-
  The model's powers, parameters, range and bound of a table's cells, walked.
-/
import Derived.Test.YtlbkhiphnllfpadIn
namespace Go.Proofs.Ytlbkhiphnllfpad
open Go.RowKit
set_option linter.unusedVariables false
theorem ten_le (a b : Nat) (h : a ≤ b) : (10 : Int) ^ a ≤ 10 ^ b := by
  obtain ⟨c, rfl⟩ := Nat.exists_eq_add_of_le h
  rw [Int.pow_add]
  have h1 : (1 : Int) ≤ 10 ^ c := Int.le_of_lt_add_one (by have : (0 : Int) < 10 ^ c := Int.pow_pos (by decide); omega)
  have h2 : (0 : Int) ≤ 10 ^ a := Int.le_of_lt (Int.pow_pos (by decide))
  have := Int.mul_le_mul_of_nonneg_left h1 h2
  omega
theorem l6Power_any (k : Nat) (w : World) (hk : k ≤ 17) :
    Calls Try.prog 26 #[.int .i64 k] w fun e w' => e = .returned (.int .i64 (10 ^ k)) ∧ w' = w := by
  go_enter Try.func26, Try.ntmps26
  go_wp2
  go_loop [0, 3] (fun n p => ∃ j : Nat, j ≤ k ∧ n = .int .i64 ((k : Int) - (j : Int)) ∧ p = .int .i64 (10 ^ j)) (fun n _ => (intOf n).toNat)
  case atStart => exact ⟨0, Nat.zero_le _, Ln.val_int (by omega), Ln.val_int (by simp)⟩
  case round =>
    obtain ⟨j, hj, rfl, rfl⟩ := hrel
    have h0 : (0 : Int) < 10 ^ j := Int.pow_pos (by decide)
    have h1 : (10 : Int) ^ j ≤ 100000000000000000 := by have := ten_le j 17 (by omega); simpa using this
    by_cases hlt : j < k
    · have hlt' : (0 : Int) < (k : Int) - (j : Int) := by omega
      have Hend : Hid (∀ x y : Int, x = (k : Int) - (j : Int) - 1 → y = 10 * 10 ^ j → ∃ q : Nat, q ≤ k ∧ Value.int .i64 x = .int .i64 ((k : Int) - (q : Int)) ∧ Value.int .i64 y = .int .i64 (10 ^ q)) := fun x y hx hy => ⟨j + 1, by omega, Ln.val_int (by omega), Ln.val_int (by rw [hy, Int.pow_succ, Int.mul_comm])⟩
      generalize (10 : Int) ^ j = P at *
      go_wp2
      go_round
      case rel => exact Hend.out _ _ (by omega) (by omega)
      case measure => simp [intOf]; omega
    · obtain rfl : j = k := by omega
      obtain ⟨P, hP⟩ : ∃ P : Int, P = 10 ^ j := ⟨_, rfl⟩
      rw [← hP]
      have HP : Hid (P = 10 ^ j) := hP
      clear hP
      have hd : decide ((0 : Int) < (j : Int) - (j : Int)) = false := by simp
      go_wp2
      go_ret
      exact ⟨Ln.ret_int HP.out, rfl⟩
/-- The parameters that a table takes. -/
def prm (a u t : Int) : Bool := decide (5 ≤ a ∧ a ≤ 9) && (decide (1 ≤ u ∧ u ≤ 2) && decide (1 ≤ t ∧ t ≤ 2))
theorem prm_parts (a u t : Int) (h : prm a u t = true) : (5 ≤ a ∧ a ≤ 9) ∧ (1 ≤ u ∧ u ≤ 2) ∧ (1 ≤ t ∧ t ≤ 2) := by
  unfold prm at h; simpa using h
/-- The divisors of u digits. -/
def rgd (u d : Int) : Bool := decide (10 ^ (u - 1).toNat ≤ d ∧ d ≤ 10 ^ u.toNat - 1)
/-- The bound of a divisor's cells. -/
def bnd (a u t d : Int) : Int := if prm a u t = true ∧ rgd u d = true then (10 * a * 10 ^ t.toNat * (d + 1)) / (9 * 10 ^ u.toNat) else 0
end Go.Proofs.Ytlbkhiphnllfpad
