/-
  The laws' pick of a number off a code, walked; what the laws ask at points in quarters, as they spell it.
-/
import Derived.BigQuiet
import Derived.Test.YtlbkhiphnllfpacCelW
import Derived.Test.YtlbkhiphnllfpacDrawC
namespace Go.Proofs.Ytlbkhiphnllfpac
open Go.RowKit
set_option linter.unusedVariables false
set_option maxRecDepth 100000
theorem pick_any (a : Option Addr) (len cap B : Nat) (n : Int) (w : World) (hl : len ≤ 5000) (hb : Bytes B w a len) (hn : 1 ≤ n ∧ n ≤ 10000000) :
    Calls Try.prog 15 #[.slice a len cap, .int .i64 n] w fun e w' => ∃ r : Int, e = .returned (.int .i64 r) ∧ (0 ≤ r ∧ r < n) ∧ w' = w := by
  have hB : Hid (Bytes B w a len) := hb
  clear hb
  go_enter Try.func15, Try.ntmps15
  go_wp2
  go_loop [5, 6] (fun k i => ∃ (x : Int) (j : Nat), j ≤ len ∧ i = .int .i64 j ∧ k = .int .i64 x ∧ 0 ≤ x ∧ x < 1000003) (fun _ i => len - (intOf i).toNat)
  case atStart => exact ⟨(len : Int), 0, Nat.zero_le _, rfl, rfl, by omega, by omega⟩
  case round =>
    obtain ⟨x, j, hj, rfl, rfl, hx0, hx1⟩ := hrel
    by_cases hlt : j < len
    · rcases hB.out with h0 | ⟨b, off, rfl, hbB, hc⟩
      · omega
      · obtain ⟨z, hz, z0, z1⟩ := hc j hlt
        have hlt' : (j : Int) < (len : Int) := by omega
        have hm : Int.tmod (x * 47 + z) 1000003 = (x * 47 + z) % 1000003 := Int.tmod_eq_emod_of_nonneg (by omega)
        clear hc hB
        go_wp2
        go_round
        case rel => exact ⟨(x * 47 + z) % 1000003, j + 1, by omega, by go_num, Ln.val_int (by omega), by omega, by omega⟩
        case measure => simp [intOf]; omega
    · have hj2 : j = len := by omega
      subst hj2
      have hm : Int.tmod x n = x % n := Int.tmod_eq_emod_of_nonneg hx0
      have hr0 := Int.emod_nonneg x (show n ≠ 0 by omega)
      have hr1 := Int.emod_lt_of_pos x (show 0 < n by omega)
      have hn0 : ¬ n = 0 := by omega
      go_wp2
      go_ret
      exact ⟨_, rfl, ⟨by omega, by omega⟩, rfl⟩
theorem quarters2 (a U T k D Y x z s : Int) (ha : 0 < a) (hU : 0 < U) (hT : 0 < T) (hD : 0 < D) (h : hlds a U T k (cnE (9 * U) (10 * a * T) D Y 2) = true)
    (x0 : 4 * D ≤ x) (x1 : x ≤ 4 * D + 4) (z0 : 4 * Y ≤ z) (z1 : z ≤ 4 * Y + 8) (hs : s = abI z) (r : 9 * s * U ≤ 10 * a * x * T) :
    ¬ 9 * z * U < (9 * k - a) * x * T ∧ ¬ (9 * k + a) * x * T < 9 * z * U := by
  have e1 : ∀ y : Int, 9 * y * U = y * (9 * U) := fun y => by rw [Int.mul_comm 9 y, Int.mul_assoc]
  have e2 : ∀ c : Int, c * x * T = c * T * x := fun c => by rw [Int.mul_assoc, Int.mul_comm x T, Int.mul_assoc]
  rw [e1, e2, hs] at r
  have := quarters a U T k D Y x z ha hU hT hD h x0 x1 z0 z1 r
  rw [e1, e2, e2, Int.mul_comm z (9 * U)]
  omega
end Go.Proofs.Ytlbkhiphnllfpac
