/-
  What laneValue of the program and l1Weights, l1Digit of its model answer, walked.
-/
import Derived.Test.YtmjkpjmccdjkjadDoorDig
namespace Go.Proofs.YtmjkpjmccdjkjadDoor
open Go.RowKit
set_option linter.unusedVariables false
set_option maxRecDepth 100000

/-- The program's table of weights lies in its variable. -/
def Tab (w : World) : Prop := ∀ m k : Nat, m < 3 → k < 4 → w.cell? ⟨1, m * 4 + k, none⟩ = some (.int .i64 (Ln.wt m k))

theorem isWeighting_yes (m : Nat) (w : World) (hm : m < 3) :
    Calls Tryd.prog 77 #[.int .i64 ((m : Int) + 1)] w fun e w' => e = .returned (.bool true) ∧ w' = w := by
  have a : (1 : Int) ≤ (m : Int) + 1 := by omega
  have b : (m : Int) + 1 ≤ 3 := by omega
  go_enter Tryd.func77, Tryd.ntmps77
  go_wp2
  go_ret
  exact ⟨rfl, rfl⟩
theorem isWeighting_no (n : Int) (w : World) (hn : n < 1 ∨ 3 < n) :
    Calls Tryd.prog 77 #[.int .i64 n] w fun e w' => e = .returned (.bool false) ∧ w' = w := by
  rcases hn with h | h
  · have h' : decide (1 ≤ n) = false := by simp; omega
    go_enter Tryd.func77, Tryd.ntmps77
    go_wp2
    go_ret
    exact ⟨rfl, rfl⟩
  · have h2 : (1 : Int) ≤ n := by omega
    have h' : decide (n ≤ 3) = false := by simp; omega
    go_enter Tryd.func77, Tryd.ntmps77
    go_wp2
    go_ret
    exact ⟨rfl, rfl⟩
theorem laneValue_any (m : Nat) (l : Int) (w : World) (ht : Tab w) (hm : m < 3) (h0 : 0 ≤ l) (h1 : l ≤ 15) :
    Calls Tryd.prog 73 #[.int .i64 ((m : Int) + 1), .int .u64 l] w fun e w' => e = .returned (.int .i64 (Ln.dig m l)) ∧ w' = w := by
  go_enter Tryd.func73, Tryd.ntmps73
  go_wp2
  go_loop [5, 7] (fun v i => ∃ k : Nat, k ≤ 4 ∧ i = .int .i64 k ∧ v = .int .i64 (Ln.part m l k)) (fun _ i => 4 - (intOf i).toNat)
  case atStart => exact ⟨0, Nat.zero_le _, rfl, rfl⟩
  case round =>
    obtain ⟨k, hk, rfl, rfl⟩ := hrel
    by_cases hlt : k < 4
    · have hc := ht m k hm hlt
      have hb := Ln.part_bd m l k
      have hw := Ln.wt_bd m k
      by_cases hbit : l / 2 ^ (3 - k) % 2 = 1
      · have hB := Ln.bit_yes l (3 - k) h0 h1 hbit
        have HB : Hid (l / 2 ^ (3 - k) % 2 = 1) := hbit
        clear hbit
        go_wp2
        go_round
        case rel => exact ⟨k + 1, by omega, by go_num, Ln.val_int (Ln.part_yes m l k HB.out)⟩
        case measure => simp [intOf]; omega
      · have hB := Ln.bit_no l (3 - k) h0 h1 hbit
        have HB : Hid (¬ l / 2 ^ (3 - k) % 2 = 1) := hbit
        clear hbit
        go_wp2
        go_round
        case rel => exact ⟨k + 1, by omega, by go_num, Ln.val_int (Ln.part_no m l k HB.out)⟩
        case measure => simp [intOf]; omega
    · go_wp2
      go_ret
      exact ⟨Ln.ret_int (by rw [show k = 4 by omega]; rfl), rfl⟩
/-- What was told of the table still holds where nothing old has turned. -/
theorem Tab.below {B : Nat} {w w' : World} (ht : Tab w) (hb : Below B w w') (h0 : 1 < B) : Tab w' := fun m k hm hk => by
  rw [hb.cell (p := ⟨1, m * 4 + k, none⟩) h0]; exact ht m k hm hk
end Go.Proofs.YtmjkpjmccdjkjadDoor
