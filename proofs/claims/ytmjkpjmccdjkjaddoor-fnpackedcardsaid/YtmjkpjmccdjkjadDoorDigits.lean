/-
  What LaneDigits answers, for the program and for its model alike, walked.
-/
import Derived.Test.YtmjkpjmccdjkjadDoorOk
import Derived.Test.YtmjkpjmccdjkjadDoorSl
namespace Go.Proofs.YtmjkpjmccdjkjadDoor
open Go.RowKit
set_option linter.unusedVariables false
set_option maxRecDepth 100000

/-- The digits of the j high lanes. -/
def highs (m : Nat) (x : Int) : Nat → List Int
  | 0 => []
  | j + 1 => highs m x j ++ [Ln.dig m (Ln.ln x (15 - j))]
theorem highs_length (m : Nat) (x : Int) (j : Nat) : (highs m x j).length = j := by
  induction j with
  | zero => rfl
  | succ j ih => simp [highs, ih]
def digits (m : Nat) (x : Int) : List Int := if Ln.okB m x then highs m x 16 else []
/-- Sixteen places, the k low lanes' digits in the last of them. -/
def lows (m : Nat) (x : Int) : Nat → List Int
  | 0 => [0, 0, 0, 0, 0, 0, 0, 0, 0, 0, 0, 0, 0, 0, 0, 0]
  | k + 1 => (lows m x k).set (15 - k) (Ln.dig m (Ln.ln x k))
theorem lows_length (m : Nat) (x : Int) (k : Nat) : (lows m x k).length = 16 := by
  induction k with
  | zero => rfl
  | succ k ih => simp [lows, ih]
def lowsF (f : Nat → Int) : Nat → List Int
  | 0 => [0, 0, 0, 0, 0, 0, 0, 0, 0, 0, 0, 0, 0, 0, 0, 0]
  | k + 1 => (lowsF f k).set (15 - k) (f k)
def highsF (f : Nat → Int) : Nat → List Int
  | 0 => []
  | j + 1 => highsF f j ++ [f (15 - j)]
theorem lowsF_all (f : Nat → Int) : lowsF f 16 = highsF f 16 := by simp [lowsF, highsF]
theorem lowsF_eq (m : Nat) (x : Int) (k : Nat) : lows m x k = lowsF (fun i => Ln.dig m (Ln.ln x i)) k := by
  induction k with
  | zero => rfl
  | succ k ih => simp only [lows, lowsF, ih]
theorem highsF_eq (m : Nat) (x : Int) (k : Nat) : highs m x k = highsF (fun i => Ln.dig m (Ln.ln x i)) k := by
  induction k with
  | zero => rfl
  | succ k ih => simp only [highs, highsF, ih]
theorem lows_all (m : Nat) (x : Int) : lows m x 16 = highs m x 16 := by
  rw [lowsF_eq, highsF_eq, lowsF_all]
def noughts : Array Value := #[.int .i64 0, .int .i64 0, .int .i64 0, .int .i64 0, .int .i64 0, .int .i64 0, .int .i64 0, .int .i64 0, .int .i64 0, .int .i64 0, .int .i64 0, .int .i64 0, .int .i64 0, .int .i64 0, .int .i64 0, .int .i64 0]
theorem noughts_own (m : Nat) (x : Int) (w : World) : (w.alloc (.cells noughts 2)).ownsRow w.heap.size 2 1 (.slice (some ⟨w.heap.size, 0, none⟩) 16 16) 16 ((lows m x 0).map (Value.int .i64)) :=
  World.ownsRow_lit (base := w.heap.size) (e := 2) (size := 1) w noughts 16 (Nat.le_refl _) (by decide) (by simp [noughts])
/-- The program's LaneDigits. -/
theorem idigits_yes (m : Nat) (x : Int) (w : World) (ht : Tab w) (hz : 1 < w.heap.size) (hm : m < 3) (h0 : 0 ≤ x) (h1 : x ≤ 18446744073709551615) (hk : Ln.okB m x = true) :
    Calls Tryd.prog 63 #[.int .i64 ((m : Int) + 1), .int .u64 x] w fun e w' => ∃ v, e = .returned v ∧ Has w' w.heap.size v (digits m x) ∧ Below w.heap.size w w' := by
  have hmk : ∀ w, (Instr.makeSlice 45 (.int .i64 16) (.int .i64 16)).run Tryd.prog w = .ok (.slice (some ⟨w.heap.size, 0, none⟩) 16 16) (w.alloc (.cells noughts 2)) := fun _ => by kernel_rfl
  have Hk : Hid (Ln.okB m x = true) := hk
  clear hk
  go_enter Tryd.func63, Tryd.ntmps63
  go_wp2_with fail
  refine (iok_yes m x _ ht hm h0 h1).mono ?_
  rintro e w1 ⟨rfl, rfl⟩
  rw [Hk.out]
  go_wp2
  go_loopw [13] (fun i wr => ∃ k : Nat, k ≤ 16 ∧ i = .int .i64 k ∧ Hid (wr.ownsRow w1.heap.size 2 1 (.slice (some ⟨w1.heap.size, 0, none⟩) 16 16) 16 ((lows m x k).map (Value.int .i64))) ∧ Below w1.heap.size w1 wr) (fun i _ => 16 - (intOf i).toNat)
  case atStart => exact ⟨0, Nat.zero_le _, rfl, noughts_own m x w1, (Below.refl _ _).alloc (Nat.le_refl _) _⟩
  case round =>
    obtain ⟨k, hk, rfl, hown, hbel⟩ := hrel
    by_cases hlt : k < 16
    · have hlo := Ln.ln_lo x k
      have hhi := Ln.ln_hi x k
      have htr := ht.below hbel hz
      have hf := World.ownsRow.frozenAt hown.out (15 - k)
      have hc : wr.cell? ⟨w1.heap.size, 15 - k, none⟩ = some (.int .i64 ((lows m x k).getD (15 - k) 0)) := by
        rw [World.ownsRow.cellAt hown.out (15 - k) (by omega)]
        simp only [List.getElem?_map, List.getD]
        rw [List.getElem?_eq_getElem (by rw [lows_length]; omega)]
        rfl
      have Hst : Hid (_ ∧ _) := World.ownsRow.stored hown.out (15 - k) (.int .i64 (Ln.dig m (Ln.ln x k)))
      go_wp2_with fail
      refine (laneAt_any _ _ k _ rfl (by omega) h0 h1).mono ?_
      rintro e w' ⟨rfl, rfl⟩
      go_wp2_with fail
      refine (laneValue_any m _ _ htr hm (by omega) (by omega)).mono ?_
      rintro e w' ⟨rfl, rfl⟩
      go_wp2
      go_roundw
      case rel =>
        refine ⟨k + 1, by omega, by go_num, ?_, hbel.setCell (Nat.le_refl _) _⟩
        have := Hst.out.1
        simpa [lows, Hid] using this
      case measure => simp [intOf]; omega
    · go_wp2
      go_ret
      refine ⟨_, rfl, ?_, hbel⟩
      have e16 : k = 16 := by omega
      subst e16
      unfold Has digits
      rw [Hk.out, if_pos rfl, highs_length, ← lows_all]
      exact hown.out
theorem idigits_bad (m : Nat) (x : Int) (w : World) (ht : Tab w) (hz : 1 < w.heap.size) (hm : m < 3) (h0 : 0 ≤ x) (h1 : x ≤ 18446744073709551615) (hk : Ln.okB m x = false) :
    Calls Tryd.prog 63 #[.int .i64 ((m : Int) + 1), .int .u64 x] w fun e w' => ∃ v, e = .returned v ∧ Has w' w.heap.size v (digits m x) ∧ Below w.heap.size w w' := by
  have Hk : Hid (Ln.okB m x = false) := hk
  clear hk
  go_enter Tryd.func63, Tryd.ntmps63
  go_wp2_with fail
  refine (iok_yes m x _ ht hm h0 h1).mono ?_
  rintro e w1 ⟨rfl, rfl⟩
  rw [Hk.out]
  go_wp2
  go_ret
  exact ⟨_, rfl, by unfold digits; rw [Hk.out]; exact none_own w1, (Below.refl _ _).alloc (Nat.le_refl _) _⟩
theorem idigits_no (n x : Int) (w : World) (hn : n < 1 ∨ 3 < n) :
    Calls Tryd.prog 63 #[.int .i64 n, .int .u64 x] w fun e w' => ∃ v, e = .returned v ∧ Has w' w.heap.size v [] ∧ Below w.heap.size w w' := by
  go_enter Tryd.func63, Tryd.ntmps63
  go_wp2_with fail
  refine (iok_no n x _ hn).mono ?_
  rintro e w1 ⟨rfl, rfl⟩
  go_wp2
  go_ret
  exact ⟨_, rfl, none_own w1, (Below.refl _ _).alloc (Nat.le_refl _) _⟩
theorem idigits_any (m : Nat) (x : Int) (w : World) (ht : Tab w) (hz : 1 < w.heap.size) (hm : m < 3) (h0 : 0 ≤ x) (h1 : x ≤ 18446744073709551615) :
    Calls Tryd.prog 63 #[.int .i64 ((m : Int) + 1), .int .u64 x] w fun e w' => ∃ v, e = .returned v ∧ Has w' w.heap.size v (digits m x) ∧ Below w.heap.size w w' := by
  cases h : Ln.okB m x with
  | true => exact idigits_yes m x w ht hz hm h0 h1 h
  | false => exact idigits_bad m x w ht hz hm h0 h1 h
theorem digits_length (m : Nat) (x : Int) : (digits m x).length ≤ 16 := by
  unfold digits; split
  · rw [highs_length]; omega
  · simp
end Go.Proofs.YtmjkpjmccdjkjadDoor
