/-
  The model's naturals as texts: NatAdd, NatShift, and the laws' digits, value and above, walked.
-/
import Derived.Test.YtmndemegiimagasDoorTxt2
import Derived.Test.YtmndemegiimagasDoorIn
namespace Go.Proofs.YtmndemegiimagasDoor
open Go.RowKit
set_option linter.unusedVariables false

/-- Noughts alone. -/
theorem l11Zeros_any (n : Nat) (w : World) (hp : 0 < n) (hn : n ≤ 200) :
    Calls Tryd.prog 32 #[.int .i64 n] w fun e w' => e = .returned (.string (tx (List.replicate n 0))) ∧ Below w.heap.size w w' := by
  obtain ⟨i0, hi, hz0, hz1, hz2⟩ := info_parts info8
  go_enter Tryd.func32, Tryd.ntmps32
  go_wp2
  go_loopw [0, 3] (fun i b wr => ∃ j : Nat, j ≤ n ∧ i = .int .i64 ((n : Int) - j) ∧ Hid (wr.ownsRow w.heap.size 5 1 b j ((((List.replicate j (0 : Int))).map (48 + ·)).map (Value.int .u8))) ∧ Below w.heap.size w wr) (fun i _ _ => (intOf i).toNat)
  case atStart => exact ⟨0, Nat.zero_le _, Ln.val_int (by simp), World.ownsRow_made w #[] 0 (Nat.le_refl _) (Nat.zero_le _) rfl, (Below.refl _ _).alloc (Nat.le_refl _) _⟩
  case round =>
    obtain ⟨j, hj, rfl, hown, hbel⟩ := hrel
    have hsz := hbel.size
    have hown0 := hown.out
    by_cases hlt : j < n
    · have hge : (0 : Int) < (n : Int) - j := by omega
      go_wp2_with (first | (at_builtin; refine wpList_append_own _ rfl _ _ 58 rfl w.heap.size 5 i0 (.int .u8 0) 1 1 Tryd.underlying58 hi hz0 hz1 hz2 rfl (by decide) _ _ _ rfl (hown0.alloc _) ⟨wr.heap.size, 0, none⟩ 1 1 [.int .u8 48] rfl rfl (one_new _ _ _) (one_cell _ _) (by unfold maxLen; omega) (by omega) (by simp; omega) ?_) | go_in)
      intro v' w3 hown3 hgrow _
      have hb3 : Below w.heap.size w w3 := Below.grown (hbel.alloc (by omega) _) hgrow (by simp; omega) (fun k hk => (hown0.lt k hk).1)
      have H3 : Hid (w3.ownsRow w.heap.size 5 1 v' (j + 1) (((List.replicate (j + 1) (0 : Int)).map (48 + ·)).map (Value.int .u8))) := by
        rw [List.replicate_succ']; simpa [Hid] using hown3
      clear hown3 hgrow hown0
      go_wp2
      go_roundw
      case rel => exact ⟨j + 1, by omega, Ln.val_int (by omega), H3, hb3⟩
      case measure => simp [intOf]; omega
    · have e : j = n := by omega
      subst e
      obtain ⟨g2, cap2, hv, hconv⟩ := text_of_row wr _ _ (List.replicate j (0 : Int)) (by rw [List.length_replicate]; exact hown0) (by rw [List.length_replicate]; exact hp)
      rw [List.length_replicate] at hv
      rw [hv] at hconv ⊢
      have hcv := hconv 9 Tryd.underlying9
      obtain ⟨R, hR⟩ : ∃ R, R = List.replicate j (0 : Int) := ⟨_, rfl⟩
      rw [← hR] at hcv
      have HR : Hid (R = List.replicate j (0 : Int)) := hR
      clear hconv hv hown hown0 hR
      go_wp2
      go_ret
      exact ⟨by rw [← HR.out]; rfl, hbel⟩
theorem l11Shift_any (a : List Int) (n : Nat) (w : World) (ha : Canon a) (la : a.length ≤ 200) (hp : 0 < n) (hn : n ≤ 200) :
    Calls Tryd.prog 25 #[.string (tx a), .int .i64 n] w fun e w' => ∃ R, e = .returned (.string (tx R)) ∧ Canon R ∧ vl R = vl a * 10 ^ n ∧ R.length ≤ a.length + n ∧ Below w.heap.size w w' := by
  have Ha : Hid (Canon a) := ha
  clear ha
  have s1 : ((tx a).size : Int) ≤ 8388608 := by rw [tx_size]; omega
  have s2 : ((tx (List.replicate n (0 : Int))).size : Int) ≤ 8388608 := by rw [tx_size, List.length_replicate]; omega
  by_cases hz : a = [0]
  · have hb : ((tx a).toList == [48]) = true := by rw [hz, tx_zero]; rfl
    have Hz : Hid (a = [0]) := hz
    clear hz s1 s2
    go_enter Tryd.func25, Tryd.ntmps25
    go_wp2
    go_ret
    refine ⟨a, rfl, Ha.out, ?_, by omega, Below.refl _ _⟩
    rw [Hz.out]
    show (0 : Int) = 0 * 10 ^ n
    omega
  · have hb := tx_is0 a Ha.out.1 hz
    have Hz : Hid (a ≠ [0]) := hz
    obtain ⟨R, hR⟩ : ∃ R, R = List.replicate n (0 : Int) := ⟨_, rfl⟩
    have hzr := fun w => l11Zeros_any n w hp hn
    rw [← hR] at s2 hzr
    have HR : Hid (R = List.replicate n (0 : Int)) := hR
    have Hzr : Hid (∀ w, Calls Tryd.prog 32 #[.int .i64 n] w fun e w' => e = .returned (.string (tx R)) ∧ Below w.heap.size w w') := hzr
    have hap : tx a ++ tx R = tx (a ++ R) := tx_append a R
    clear hz hR hzr
    go_enter Tryd.func25, Tryd.ntmps25
    go_wp2_with fail
    refine (Hzr.out _).mono ?_
    rintro e w1 ⟨rfl, hb1⟩
    go_wp2
    go_ret
    refine ⟨a ++ R, rfl, ?_, ?_, ?_, hb1⟩
    · rw [HR.out]; exact canon_noughts a n Ha.out Hz.out
    · rw [HR.out]; exact vl_noughts a n
    · rw [HR.out]; simp
/-- A byte of a digit, as a text. -/
theorem conv_one (d : Int) (W : World) : ∀ dst, Tryd.prog.underlying dst = some .string → (convert 58 dst (.slice (some ⟨W.heap.size, 0, none⟩) 1 1)).run Tryd.prog (W.alloc (.cells #[.int .u8 (48 + d)] 5)) = .ok (.string (tx [d])) (W.alloc (.cells #[.int .u8 (48 + d)] 5)) :=
  run_convert_bytes_arg (P := Tryd.prog) _ 58 5 Tryd.underlying58 Tryd.underlying5 W.heap.size 0 1 1 [48 + d] rfl (fun i hi => by
    match i, hi with
    | 0, _ => simp)
end Go.Proofs.YtmndemegiimagasDoor
