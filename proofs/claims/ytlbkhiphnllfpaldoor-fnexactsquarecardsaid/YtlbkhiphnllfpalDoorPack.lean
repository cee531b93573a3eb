/-
  What LanePack answers, for the program and for its model alike, walked.
-/
import Derived.Test.YtlbkhiphnllfpalDoorPackM
import Derived.Test.YtlbkhiphnllfpalDoorDigits
namespace Go.Proofs.YtlbkhiphnllfpalDoor
open Go.RowKit
set_option linter.unusedVariables false

/-- The model's l1FirstForm. -/
theorem l1FirstForm_any (m : Nat) (d : Int) (w : World) (hm : m < 3) (h0 : 0 ≤ d) (h9 : d ≤ 9) :
    Calls Tryd.prog 42 #[.int .i64 ((m : Int) + 1), .int .i64 d] w fun e w' => e = .returned (.int .i64 (Ln.ff m d)) ∧ Below w.heap.size w w' := by
  obtain ⟨l0, hl0, he0⟩ := Ln.ff_ex m d hm h0 h9
  have He : Hid (Ln.dig m (l0 : Int) = d) := he0
  clear he0
  go_enter Tryd.func42, Tryd.ntmps42
  go_wp2
  go_loopw [5] (fun i wr => ∃ k : Nat, k ≤ 16 ∧ i = .int .i64 k ∧ Hid (∀ j : Nat, j < k → Ln.dig m (j : Int) ≠ d) ∧ Below w.heap.size w wr) (fun i _ => 16 - (intOf i).toNat)
  case atStart => exact ⟨0, Nat.zero_le _, rfl, fun j hj => absurd hj (Nat.not_lt_zero j), Below.refl _ _⟩
  case round =>
    obtain ⟨k, hk, rfl, hz, hbel⟩ := hrel
    have hsz := hbel.size
    by_cases hlt : k < 16
    · by_cases hd : Ln.dig m (k : Int) = d
      · have hb : (Ln.dig m (k : Int) == d) = true := by simp [hd]
        have Hd : Hid (Ln.dig m (k : Int) = d) := hd
        clear hd
        go_wp2_with fail
        refine (l1Digit_any m _ _ hm (by omega) (by omega)).mono ?_
        rintro e w1 ⟨rfl, hb1⟩
        go_wp2
        go_ret
        exact ⟨Ln.ret_int (by rw [Ln.ff_of m d k (by omega) Hd.out hz.out]), hbel.trans (hb1.mono hsz)⟩
      · have hb : (Ln.dig m (k : Int) == d) = false := by simp [hd]
        have Hd : Hid (Ln.dig m (k : Int) ≠ d) := hd
        clear hd
        go_wp2_with fail
        refine (l1Digit_any m _ _ hm (by omega) (by omega)).mono ?_
        rintro e w1 ⟨rfl, hb1⟩
        go_wp2
        go_roundw
        case rel => exact ⟨k + 1, by omega, by go_num, fun j hj => by rcases Nat.lt_or_ge j k with h | h; exact hz.out j h; rw [show j = k by omega]; exact Hd.out, hbel.trans (hb1.mono hsz)⟩
        case measure => simp [intOf]; omega
    · exact absurd He.out (hz.out l0 (by omega))
end Go.Proofs.YtlbkhiphnllfpalDoor
