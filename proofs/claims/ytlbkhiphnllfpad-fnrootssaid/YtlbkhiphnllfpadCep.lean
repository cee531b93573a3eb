/-
  A sight of the program: whether its parameters are known, the powers of ten, what divisors it sees, its units and bounds, walked.
-/
import Derived.BigQuiet
import Derived.Deep.RegionWith
import Derived.Test.YtlbkhiphnllfpadCls
import Derived.Test.YtlbkhiphnllfpadCel2
namespace Go.Proofs.Ytlbkhiphnllfpad
open Go.RowKit
set_option linter.unusedVariables false
theorem tenPower_any (k : Nat) (w : World) (hk : k ≤ 17) :
    Calls Try.prog 24 #[.int .i64 k] w fun e w' => e = .returned (.int .i64 (10 ^ k)) ∧ w' = w := by
  go_enter Try.func24, Try.ntmps24
  go_wp2
  go_loop [3, 5] (fun p n => ∃ j : Nat, j ≤ k ∧ n = .int .i64 (j : Int) ∧ p = .int .i64 (10 ^ j)) (fun _ n => k - (intOf n).toNat)
  case atStart => exact ⟨0, Nat.zero_le _, Ln.val_int (by omega), Ln.val_int (by simp)⟩
  case round =>
    obtain ⟨j, hj, rfl, rfl⟩ := hrel
    have h0 : (0 : Int) < 10 ^ j := Int.pow_pos (by decide)
    have h1 : (10 : Int) ^ j ≤ 100000000000000000 := by have := ten_le j 17 (by omega); simpa using this
    by_cases hlt : j < k
    · have Hend : Hid (∀ x : Int, x = 10 ^ j * 10 → Value.int .i64 x = .int .i64 (10 ^ (j + 1))) := fun x hx => Ln.val_int (by rw [hx, Int.pow_succ])
      generalize (10 : Int) ^ j = P at *
      have hlt' : (j : Int) < (k : Int) := by omega
      go_wp2
      go_round
      case rel => exact ⟨j + 1, by omega, by go_num, Hend.out _ (by omega)⟩
      case measure => simp [intOf]; omega
    · obtain rfl : j = k := by omega
      obtain ⟨P, hP⟩ : ∃ P : Int, P = 10 ^ j := ⟨_, rfl⟩
      rw [← hP]
      have HP : Hid (P = 10 ^ j) := hP
      clear hP
      have hd : ¬ ((j : Int) < (j : Int)) := by omega
      go_wp2
      go_ret
      exact ⟨Ln.ret_int HP.out, rfl⟩
theorem tenPower_12 (x : Int) (hx : 1 ≤ x ∧ x ≤ 2) (W : World) : Calls Try.prog 24 #[.int .i64 x] W fun e w' => e = .returned (.int .i64 (10 ^ x.toNat)) ∧ w' = W := by
  rcases (show x = 1 ∨ x = 2 by omega) with rfl | rfl
  · exact tenPower_any 1 W (by decide)
  · exact tenPower_any 2 W (by decide)
theorem tenPower_01 (x : Int) (hx : 1 ≤ x ∧ x ≤ 2) (W : World) : Calls Try.prog 24 #[.int .i64 (x - 1)] W fun e w' => e = .returned (.int .i64 (10 ^ (x - 1).toNat)) ∧ w' = W := by
  rcases (show x = 1 ∨ x = 2 by omega) with rfl | rfl
  · exact tenPower_any 0 W (by decide)
  · exact tenPower_any 1 W (by decide)
end Go.Proofs.Ytlbkhiphnllfpad
