/-
  What LaneOk answers, for the program and for its model alike, walked.
-/
import Derived.Test.YtmjkpjmccdjkjadDoorVal
namespace Go.Proofs.YtmjkpjmccdjkjadDoor
open Go.RowKit
set_option linter.unusedVariables false
set_option maxRecDepth 100000

/-- The program's LaneOk at one of the three weightings. -/
theorem iok_yes (m : Nat) (x : Int) (w : World) (ht : Tab w) (hm : m < 3) (h0 : 0 ≤ x) (h1 : x ≤ 18446744073709551615) :
    Calls Tryd.prog 72 #[.int .i64 ((m : Int) + 1), .int .u64 x] w fun e w' => e = .returned (.bool (Ln.okB m x)) ∧ w' = w := by
  go_enter Tryd.func72, Tryd.ntmps72
  go_wp2_with fail
  refine (isWeighting_yes m _ hm).mono ?_
  rintro e w' ⟨rfl, rfl⟩
  go_wp2
  go_loop [9] (fun i => ∃ k : Nat, k ≤ 16 ∧ i = .int .i64 k ∧ Hid (∀ j, j < k → Ln.dig m (Ln.ln x j) ≤ 9)) (fun i => 16 - (intOf i).toNat)
  case atStart => exact ⟨0, Nat.zero_le _, rfl, fun j hj => absurd hj (Nat.not_lt_zero j)⟩
  case round =>
    obtain ⟨k, hk, rfl, hz⟩ := hrel
    by_cases hlt : k < 16
    · have hlo := Ln.ln_lo x k
      have hhi := Ln.ln_hi x k
      by_cases hd : 9 < Ln.dig m (Ln.ln x k)
      · go_wp2_with fail
        refine (laneAt_any _ _ k _ rfl (by omega) h0 h1).mono ?_
        rintro e w' ⟨rfl, rfl⟩
        go_wp2_with fail
        refine (laneValue_any m _ _ ht hm (by omega) (by omega)).mono ?_
        rintro e w' ⟨rfl, rfl⟩
        go_wp2
        go_ret
        exact ⟨Ln.ret_bool (Ln.okB_no m x k hlt hd).symm, rfl⟩
      · go_wp2_with fail
        refine (laneAt_any _ _ k _ rfl (by omega) h0 h1).mono ?_
        rintro e w' ⟨rfl, rfl⟩
        go_wp2_with fail
        refine (laneValue_any m _ _ ht hm (by omega) (by omega)).mono ?_
        rintro e w' ⟨rfl, rfl⟩
        go_wp2
        go_round
        case rel => exact ⟨k + 1, by omega, by go_num, fun j hj => by rcases Nat.lt_or_ge j k with h | h; exact hz.out j h; rw [show j = k by omega]; omega⟩
        case measure => simp [intOf]; omega
    · go_wp2
      go_ret
      exact ⟨Ln.ret_bool ((Ln.okB_iff m x).2 (fun i hi => hz.out i (by omega))).symm, rfl⟩
theorem iok_no (n x : Int) (w : World) (hn : n < 1 ∨ 3 < n) :
    Calls Tryd.prog 72 #[.int .i64 n, .int .u64 x] w fun e w' => e = .returned (.bool false) ∧ w' = w := by
  go_enter Tryd.func72, Tryd.ntmps72
  go_wp2_with fail
  refine (isWeighting_no n _ hn).mono ?_
  rintro e w' ⟨rfl, rfl⟩
  go_wp2
  go_ret
  exact ⟨rfl, rfl⟩
end Go.Proofs.YtmjkpjmccdjkjadDoor
