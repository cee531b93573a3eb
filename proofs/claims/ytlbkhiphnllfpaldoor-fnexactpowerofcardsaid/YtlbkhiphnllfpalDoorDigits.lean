/-
  What LaneDigits answers, for the program and for its model alike, walked.
-/
import Derived.Test.YtlbkhiphnllfpalDoorOk
import Derived.Test.YtlbkhiphnllfpalDoorSl
namespace Go.Proofs.YtlbkhiphnllfpalDoor
open Go.RowKit
set_option linter.unusedVariables false

/-- The digits of the j high lanes. -/
def highs (m : Nat) (x : Int) : Nat → List Int
  | 0 => []
  | j + 1 => highs m x j ++ [Ln.dig m (Ln.ln x (15 - j))]
theorem highs_length (m : Nat) (x : Int) (j : Nat) : (highs m x j).length = j := by
  induction j with
  | zero => rfl
  | succ j ih => simp [highs, ih]
def digits (m : Nat) (x : Int) : List Int := if Ln.okB m x then highs m x 16 else []
/-- The model's LaneDigits. -/
theorem sdigits_yes (m : Nat) (x : Int) (w : World) (hm : m < 3) (h0 : 0 ≤ x) (h1 : x ≤ 18446744073709551615) (hk : Ln.okB m x = true) :
    Calls Tryd.prog 41 #[.int .i64 ((m : Int) + 1), .int .u64 x] w fun e w' => ∃ v, e = .returned v ∧ Has w' w.heap.size v (digits m x) ∧ Below w.heap.size w w' := by
  obtain ⟨i0, hi, hz0, hz1, hz2⟩ := info_parts info64
  have Hk : Hid (Ln.okB m x = true) := hk
  clear hk
  go_enter Tryd.func41, Tryd.ntmps41
  go_wp2
  go_loopw [5, 6] (fun v i w1 => ∃ j : Nat, j ≤ 16 ∧ i = .int .i64 (15 - (j : Int)) ∧ w1.ownsRow w.heap.size 2 1 v j ((highs m x j).map (Value.int .i64)) ∧ Below w.heap.size w w1) (fun _ i _ => ((intOf i) + 1).toNat)
  case atStart => exact ⟨0, Nat.zero_le _, Ln.val_int (by simp), World.ownsRow_made w #[] 0 (Nat.le_refl _) (Nat.zero_le _) rfl, (Below.refl _ _).alloc (Nat.le_refl _) _⟩
  case round =>
    obtain ⟨j, hj, rfl, hown, hbel⟩ := hrel
    have hsz := hbel.size
    by_cases hlt : j < 16
    · have hge : (0 : Int) ≤ 15 - (j : Int) := by omega
      have hlo := Ln.ln_lo x (15 - j)
      have hhi := Ln.ln_hi x (15 - j)
      go_wp2_with fail
      refine (sok_yes m x _ hm h0 h1).mono ?_
      rintro e w1 ⟨rfl, hb1⟩
      rw [Hk.out]
      have hsz1 := hb1.size
      have hown1 := own_below hown hb1 (Nat.le_refl _)
      go_wp2_with fail
      refine (l1Lane_any _ _ (15 - j) _ (by omega) (by omega) h0 h1).mono ?_
      rintro e w' ⟨rfl, rfl⟩
      go_wp2_with fail
      refine (l1Digit_any m _ _ hm (by omega) (by omega)).mono ?_
      rintro e w2 ⟨rfl, hb2⟩
      have hsz2 := hb2.size
      have hown2 := own_below hown1 hb2 (Nat.le_refl _)
      clear hown hown1
      go_wp2_with (first | (at_builtin; refine wpList_append_own _ rfl _ _ 47 rfl w.heap.size 2 i0 (.int .i64 0) 1 8 Tryd.underlying47 hi hz0 hz1 hz2 rfl (by decide) _ _ _ rfl (hown2.alloc _) ⟨w2.heap.size, 0, none⟩ 1 1 [.int .i64 (Ln.dig m (Ln.ln x (15 - j)))] rfl rfl ?c1 ?c2 ?c3 ?c4 ?c5 ?_) | go_in)
      case c1 =>
        intro i u hu
        match i, hu with
        | 0, hu => simp at hu; subst hu; simp [Addr.add]
      case c2 => intro u hu; simp at hu; subst hu; rfl
      case c3 => unfold maxLen; omega
      case c4 => omega
      case c5 => simp; omega
      · intro v' w3 hown3 hgrow _
        have hb3 : Below w.heap.size w w3 := Below.grown ((hbel.trans ((hb1.mono hsz).trans (hb2.mono (by omega)))).alloc (by omega) _) hgrow (by simp; omega) (fun k hk => (hown2.lt k hk).1)
        have H3 : Hid (w3.ownsRow w.heap.size 2 1 v' (j + 1) ((highs m x (j + 1)).map (Value.int .i64))) := by
          simpa [highs, Hid] using hown3
        clear hown3 hgrow hown2
        go_wp2
        go_roundw
        case rel => exact ⟨j + 1, by omega, Ln.val_int (by omega), H3.out, hb3⟩
        case measure => simp [intOf]; omega
    · have hd : decide ((0 : Int) ≤ 15 - (j : Int)) = false := by simp; omega
      go_wp2
      go_ret
      refine ⟨_, rfl, ?_, hbel⟩
      have e16 : j = 16 := by omega
      subst e16
      unfold Has digits
      rw [Hk.out, if_pos rfl, highs_length]
      exact hown
theorem sdigits_no (n x : Int) (w : World) (hn : n < 1 ∨ 3 < n) :
    Calls Tryd.prog 41 #[.int .i64 n, .int .u64 x] w fun e w' => ∃ v, e = .returned v ∧ Has w' w.heap.size v [] ∧ Below w.heap.size w w' := by
  go_enter Tryd.func41, Tryd.ntmps41
  go_wp2
  go_loopw [5, 6] (fun v i w1 => i = .int .i64 15 ∧ v = .slice (some ⟨w.heap.size, 0, none⟩) 0 0 ∧ w1 = w.alloc (.cells #[] 2)) (fun _ i _ => 0)
  case atStart => exact ⟨rfl, rfl, rfl⟩
  case round =>
    obtain ⟨rfl, rfl, rfl⟩ := hrel
    go_wp2_with fail
    refine (sok_no n x _ hn).mono ?_
    rintro e w1 ⟨rfl, hb1⟩
    have hown := own_below (World.ownsRow_made (e := 2) (size := 1) (base := w.heap.size) w #[] 0 (Nat.le_refl _) (Nat.zero_le _) rfl) hb1 (Nat.le_refl _)
    have hbel : Below w.heap.size w w1 := ((Below.refl _ _).alloc (Nat.le_refl _) _).trans (hb1.mono (by simp))
    go_wp2
    go_ret
    exact ⟨_, rfl, hown, hbel⟩
theorem sdigits_bad (m : Nat) (x : Int) (w : World) (hm : m < 3) (h0 : 0 ≤ x) (h1 : x ≤ 18446744073709551615) (hk : Ln.okB m x = false) :
    Calls Tryd.prog 41 #[.int .i64 ((m : Int) + 1), .int .u64 x] w fun e w' => ∃ v, e = .returned v ∧ Has w' w.heap.size v (digits m x) ∧ Below w.heap.size w w' := by
  have Hk : Hid (Ln.okB m x = false) := hk
  clear hk
  go_enter Tryd.func41, Tryd.ntmps41
  go_wp2
  go_loopw [5, 6] (fun v i w1 => i = .int .i64 15 ∧ v = .slice (some ⟨w.heap.size, 0, none⟩) 0 0 ∧ w1 = w.alloc (.cells #[] 2)) (fun _ i _ => 0)
  case atStart => exact ⟨rfl, rfl, rfl⟩
  case round =>
    obtain ⟨rfl, rfl, rfl⟩ := hrel
    go_wp2_with fail
    refine (sok_yes m x _ hm h0 h1).mono ?_
    rintro e w1 ⟨rfl, hb1⟩
    rw [Hk.out]
    have hown := own_below (World.ownsRow_made (e := 2) (size := 1) (base := w.heap.size) w #[] 0 (Nat.le_refl _) (Nat.zero_le _) rfl) hb1 (Nat.le_refl _)
    have hbel : Below w.heap.size w w1 := ((Below.refl _ _).alloc (Nat.le_refl _) _).trans (hb1.mono (by simp))
    go_wp2
    go_ret
    exact ⟨_, rfl, by unfold digits; rw [Hk.out]; exact hown, hbel⟩
theorem sdigits_any (m : Nat) (x : Int) (w : World) (hm : m < 3) (h0 : 0 ≤ x) (h1 : x ≤ 18446744073709551615) :
    Calls Tryd.prog 41 #[.int .i64 ((m : Int) + 1), .int .u64 x] w fun e w' => ∃ v, e = .returned v ∧ Has w' w.heap.size v (digits m x) ∧ Below w.heap.size w w' := by
  cases h : Ln.okB m x with
  | true => exact sdigits_yes m x w hm h0 h1 h
  | false => exact sdigits_bad m x w hm h0 h1 h
/-- Sixteen places, the k low lanes' digits in the last of them. -/
def lows (m : Nat) (x : Int) : Nat → List Int
  | 0 => [0, 0, 0, 0, 0, 0, 0, 0, 0, 0, 0, 0, 0, 0, 0, 0]
  | k + 1 => (lows m x k).set (15 - k) (Ln.dig m (Ln.ln x k))
theorem lows_length (m : Nat) (x : Int) (k : Nat) : (lows m x k).length = 16 := by
  induction k with
  | zero => rfl
  | succ k ih => simp [lows, ih]
def lowsF (f : Nat → Int) : Nat → List Int
  | 0 => [0, 0, 0, 0, 0, 0, 0, 0, 0, 0, 0, 0, 0, 0, 0, 0]
  | k + 1 => (lowsF f k).set (15 - k) (f k)
def highsF (f : Nat → Int) : Nat → List Int
  | 0 => []
  | j + 1 => highsF f j ++ [f (15 - j)]
theorem lowsF_all (f : Nat → Int) : lowsF f 16 = highsF f 16 := by simp [lowsF, highsF]
theorem lowsF_eq (m : Nat) (x : Int) (k : Nat) : lows m x k = lowsF (fun i => Ln.dig m (Ln.ln x i)) k := by
  induction k with
  | zero => rfl
  | succ k ih => simp only [lows, lowsF, ih]
theorem highsF_eq (m : Nat) (x : Int) (k : Nat) : highs m x k = highsF (fun i => Ln.dig m (Ln.ln x i)) k := by
  induction k with
  | zero => rfl
  | succ k ih => simp only [highs, highsF, ih]
theorem lows_all (m : Nat) (x : Int) : lows m x 16 = highs m x 16 := by
  rw [lowsF_eq, highsF_eq, lowsF_all]
def noughts : Array Value := #[.int .i64 0, .int .i64 0, .int .i64 0, .int .i64 0, .int .i64 0, .int .i64 0, .int .i64 0, .int .i64 0, .int .i64 0, .int .i64 0, .int .i64 0, .int .i64 0, .int .i64 0, .int .i64 0, .int .i64 0, .int .i64 0]
theorem noughts_own (m : Nat) (x : Int) (w : World) : (w.alloc (.cells noughts 2)).ownsRow w.heap.size 2 1 (.slice (some ⟨w.heap.size, 0, none⟩) 16 16) 16 ((lows m x 0).map (Value.int .i64)) :=
  World.ownsRow_lit (base := w.heap.size) (e := 2) (size := 1) w noughts 16 (Nat.le_refl _) (by decide) (by simp [noughts])
theorem digits_length (m : Nat) (x : Int) : (digits m x).length ≤ 16 := by
  unfold digits; split
  · rw [highs_length]; omega
  · simp
end Go.Proofs.YtlbkhiphnllfpalDoor
