/-
  What Lead answers, for the program and for its model alike, walked.
-/
import Derived.Test.YtlbkhiphnllfpaaAt
namespace Go.Proofs.Ytlbkhiphnllfpaa
open Go.RowKit
set_option linter.unusedVariables false

/-- The program's Lead. -/
theorem ilead_any (x : Int) (w : World) (h0 : 0 ≤ x) (h1 : x ≤ 18446744073709551615) :
    Calls Try.prog 9 #[.int .u64 x] w fun e w' => ∃ k : Nat, e = .returned (.int .i64 k) ∧ Ln.IsLead x k ∧ w' = w := by
  go_enter Try.func9, Try.ntmps9
  go_wp2
  go_loop [3] (fun i => ∃ k : Nat, k ≤ 16 ∧ (∀ j, j < k → Ln.ln x (15 - j) = 0) ∧ i = .int .i64 k) (fun i => 16 - (intOf i).toNat)
  case atStart => exact ⟨0, Nat.zero_le _, fun j hj => absurd hj (Nat.not_lt_zero j), rfl⟩
  case round =>
    obtain ⟨k, hk, hz0, rfl⟩ := hrel
    have hz : Hid (∀ j, j < k → Ln.ln x (15 - j) = 0) := hz0
    clear hz0
    by_cases hlt : k < 16
    · by_cases hc : Ln.ln x (15 - k) = 0
      · have hb : (Ln.ln x (15 - k) == 0) = true := by simp [hc]
        have HC : Hid (Ln.ln x (15 - k) = 0) := hc
        clear hc
        go_wp2_with (go_at_call 22; refine (laneAt_any _ _ (15 - k) _ (by omega) (by omega) h0 h1).mono ?_; rintro e w' ⟨rfl, rfl⟩)
        go_round
        case rel => exact ⟨k + 1, by omega, fun j hj => by rcases Nat.lt_or_ge j k with h | h; exact hz.out j h; rw [show j = k by omega]; exact HC.out, by go_num⟩
        case measure => simp [intOf]; omega
      · have hb : (Ln.ln x (15 - k) == 0) = false := by simp [hc]
        have HC : Hid (Ln.ln x (15 - k) ≠ 0) := hc
        clear hc
        go_wp2_with (go_at_call 22; refine (laneAt_any _ _ (15 - k) _ (by omega) (by omega) h0 h1).mono ?_; rintro e w' ⟨rfl, rfl⟩)
        go_ret
        exact ⟨k, rfl, ⟨hk, hz.out, fun _ => HC.out⟩, rfl⟩
    · have hd : decide ((k : Int) < 16) = false := by simp; omega
      go_wp2
      go_ret
      exact ⟨k, rfl, ⟨hk, hz.out, fun h => absurd h hlt⟩, rfl⟩
end Go.Proofs.Ytlbkhiphnllfpaa
