/-
  What laneValue of the program and l1Weights, l1Digit of its model answer, walked.
-/
import Derived.Test.YtlbkhiphnllfpaiDoorAt
import Derived.Test.YtlbkhiphnllfpaiDoorDig
namespace Go.Proofs.YtlbkhiphnllfpaiDoor
open Go.RowKit
set_option linter.unusedVariables false

/-- The program's table of weights lies in its variable. -/
def Tab (w : World) : Prop := ∀ m k : Nat, m < 3 → k < 4 → w.cell? ⟨0, m * 4 + k, none⟩ = some (.int .i64 (Ln.wt m k))

theorem isWeighting_yes (m : Nat) (w : World) (hm : m < 3) :
    Calls Tryd.prog 21 #[.int .i64 ((m : Int) + 1)] w fun e w' => e = .returned (.bool true) ∧ w' = w := by
  have a : (1 : Int) ≤ (m : Int) + 1 := by omega
  have b : (m : Int) + 1 ≤ 3 := by omega
  go_enter Tryd.func21, Tryd.ntmps21
  go_wp2
  go_ret
  exact ⟨rfl, rfl⟩
theorem isWeighting_no (n : Int) (w : World) (hn : n < 1 ∨ 3 < n) :
    Calls Tryd.prog 21 #[.int .i64 n] w fun e w' => e = .returned (.bool false) ∧ w' = w := by
  rcases hn with h | h
  · have h' : decide (1 ≤ n) = false := by simp; omega
    go_enter Tryd.func21, Tryd.ntmps21
    go_wp2
    go_ret
    exact ⟨rfl, rfl⟩
  · have h2 : (1 : Int) ≤ n := by omega
    have h' : decide (n ≤ 3) = false := by simp; omega
    go_enter Tryd.func21, Tryd.ntmps21
    go_wp2
    go_ret
    exact ⟨rfl, rfl⟩
theorem laneValue_any (m : Nat) (l : Int) (w : World) (ht : Tab w) (hm : m < 3) (h0 : 0 ≤ l) (h1 : l ≤ 15) :
    Calls Tryd.prog 22 #[.int .i64 ((m : Int) + 1), .int .u64 l] w fun e w' => e = .returned (.int .i64 (Ln.dig m l)) ∧ w' = w := by
  go_enter Tryd.func22, Tryd.ntmps22
  go_wp2
  go_loop [5, 7] (fun v i => ∃ k : Nat, k ≤ 4 ∧ i = .int .i64 k ∧ v = .int .i64 (Ln.part m l k)) (fun _ i => 4 - (intOf i).toNat)
  case atStart => exact ⟨0, Nat.zero_le _, rfl, rfl⟩
  case round =>
    obtain ⟨k, hk, rfl, rfl⟩ := hrel
    by_cases hlt : k < 4
    · have hc := ht m k hm hlt
      have hb := Ln.part_bd m l k
      have hw := Ln.wt_bd m k
      by_cases hbit : l / 2 ^ (3 - k) % 2 = 1
      · have hB := Ln.bit_yes l (3 - k) h0 h1 hbit
        have HB : Hid (l / 2 ^ (3 - k) % 2 = 1) := hbit
        clear hbit
        go_wp2
        go_round
        case rel => exact ⟨k + 1, by omega, by go_num, Ln.val_int (Ln.part_yes m l k HB.out)⟩
        case measure => simp [intOf]; omega
      · have hB := Ln.bit_no l (3 - k) h0 h1 hbit
        have HB : Hid (¬ l / 2 ^ (3 - k) % 2 = 1) := hbit
        clear hbit
        go_wp2
        go_round
        case rel => exact ⟨k + 1, by omega, by go_num, Ln.val_int (Ln.part_no m l k HB.out)⟩
        case measure => simp [intOf]; omega
    · go_wp2
      go_ret
      exact ⟨Ln.ret_int (by rw [show k = 4 by omega]; rfl), rfl⟩
/-- The model's list of weights: four new cells. -/
theorem l1Weights_yes (m : Nat) (w : World) (hm : m < 3) :
    Calls Tryd.prog 24 #[.int .i64 ((m : Int) + 1)] w fun e w' => e = .returned (.slice (some ⟨w.heap.size, 0, none⟩) 4 4) ∧ ∃ T, w' = w.alloc (.cells #[.int .i64 (Ln.wt m 0), .int .i64 (Ln.wt m 1), .int .i64 (Ln.wt m 2), .int .i64 (Ln.wt m 3)] T) := by
  match m, hm with
  | 0, _ =>
    go_enter Tryd.func24, Tryd.ntmps24
    go_wp2
    go_ret
    exact ⟨rfl, _, rfl⟩
  | 1, _ =>
    go_enter Tryd.func24, Tryd.ntmps24
    go_wp2
    go_ret
    exact ⟨rfl, _, rfl⟩
  | 2, _ =>
    go_enter Tryd.func24, Tryd.ntmps24
    go_wp2
    go_ret
    exact ⟨rfl, _, rfl⟩
/-- It is empty where the weighting is none. -/
theorem l1Weights_no (n : Int) (w : World) (hn : n < 1 ∨ 3 < n) :
    Calls Tryd.prog 24 #[.int .i64 n] w fun e w' => (∃ a c, e = .returned (.slice a 0 c)) ∧ Below w.heap.size w w' := by
  have e1 : (n == 1) = false := by simp; omega
  have e2 : (n == 2) = false := by simp; omega
  have e3 : (n == 3) = false := by simp; omega
  go_enter Tryd.func24, Tryd.ntmps24
  go_wp2
  go_ret
  exact ⟨⟨_, _, rfl⟩, by repeat (first | exact Below.refl _ _ | apply Below.drew | (refine Below.alloc ?_ (Nat.le_refl _) _))⟩
set_option maxHeartbeats 400000 in
theorem l1Digit_any (m : Nat) (l : Int) (w : World) (hm : m < 3) (h0 : 0 ≤ l) (h1 : l ≤ 15) :
    Calls Tryd.prog 28 #[.int .i64 ((m : Int) + 1), .int .i64 l] w fun e w' => e = .returned (.int .i64 (Ln.dig m l)) ∧ Below w.heap.size w w' := by
  go_enter Tryd.func28, Tryd.ntmps28
  go_wp2_with fail
  refine (l1Weights_yes m _ hm).mono ?_
  rintro e w' ⟨rfl, T, rfl⟩
  go_wp2
  go_loop [6, 7] (fun v i => ∃ k : Nat, k ≤ 4 ∧ i = .int .i64 k ∧ v = .int .i64 (Ln.part m l k)) (fun _ i => 4 - (intOf i).toNat)
  case atStart => exact ⟨0, Nat.zero_le _, rfl, rfl⟩
  case round =>
    obtain ⟨k, hk, rfl, rfl⟩ := hrel
    by_cases hlt : k < 4
    · have hc : (w.alloc (.cells #[.int .i64 (Ln.wt m 0), .int .i64 (Ln.wt m 1), .int .i64 (Ln.wt m 2), .int .i64 (Ln.wt m 3)] T)).cell? ⟨w.heap.size, k, none⟩ = some (.int .i64 (Ln.wt m k)) := by
        match k, hlt with
        | 0, _ => simp
        | 1, _ => simp
        | 2, _ => simp
        | 3, _ => simp
      have hb := Ln.part_bd m l k
      have hw := Ln.wt_bd m k
      by_cases hbit : l / 2 ^ (3 - k) % 2 = 1
      · have hB := Ln.rem_yes l (3 - k) h0 h1 hbit
        have HB : Hid (l / 2 ^ (3 - k) % 2 = 1) := hbit
        clear hbit
        go_wp2
        go_round
        case rel => exact ⟨k + 1, by omega, by go_num, Ln.val_int (Ln.part_yes m l k HB.out)⟩
        case measure => simp [intOf]; omega
      · have hB := Ln.rem_no l (3 - k) h0 h1 hbit
        have HB : Hid (¬ l / 2 ^ (3 - k) % 2 = 1) := hbit
        clear hbit
        go_wp2
        go_round
        case rel => exact ⟨k + 1, by omega, by go_num, Ln.val_int (Ln.part_no m l k HB.out)⟩
        case measure => simp [intOf]; omega
    · go_wp2
      go_ret
      exact ⟨Ln.ret_int (by rw [show k = 4 by omega]; rfl), (Below.refl _ _).alloc (Nat.le_refl _) _⟩
end Go.Proofs.YtlbkhiphnllfpaiDoor
