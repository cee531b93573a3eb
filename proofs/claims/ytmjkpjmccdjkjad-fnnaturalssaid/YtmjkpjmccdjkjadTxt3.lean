/-
  The model's naturals as texts: NatAdd, NatShift, and the laws' digits, value and above, walked.
-/
import Derived.Test.YtmjkpjmccdjkjadTxt2
import Derived.Test.YtmjkpjmccdjkjadIn
namespace Go.Proofs.Ytmjkpjmccdjkjad
open Go.RowKit
set_option linter.unusedVariables false

theorem NatAdd_any (a b : List Int) (w : World) (ha : Canon a) (hb : Canon b) (la : a.length ≤ 199) (lb : b.length ≤ 199) :
    Calls Try.prog 13 #[.string (tx a), .string (tx b)] w fun e w' => ∃ R, e = .returned (.string (tx R)) ∧ Canon R ∧ vl R = vl a + vl b ∧ R.length ≤ max a.length b.length + 1 ∧ Below w.heap.size w w' := by
  have Ha : Hid (Canon a) := ha
  have Hb : Hid (Canon b) := hb
  clear ha hb
  go_enter Try.func13, Try.ntmps13
  go_wp2_with fail
  refine (NatOk_any a _ Ha.out (by omega)).mono ?_
  rintro e w' ⟨rfl, rfl⟩
  go_wp2_with fail
  refine (NatOk_any b _ Hb.out (by omega)).mono ?_
  rintro e w' ⟨rfl, rfl⟩
  go_wp2_with fail
  refine (l11Add_any a b _ Ha.out Hb.out (by omega) (by omega)).mono ?_
  rintro e w1 ⟨R, rfl, hR, hv, hl, hb1⟩
  have HR : Hid (Canon R ∧ vl R = vl a + vl b) := ⟨hR, hv⟩
  clear hR hv
  go_wp2_with fail
  refine (l11Fit_any R _ (by omega)).mono ?_
  rintro e w' ⟨rfl, rfl⟩
  go_wp2
  go_ret
  exact ⟨R, rfl, HR.out.1, HR.out.2, hl, hb1⟩
/-- Noughts alone. -/
theorem l11Zeros_any (n : Nat) (w : World) (hp : 0 < n) (hn : n ≤ 200) :
    Calls Try.prog 58 #[.int .i64 n] w fun e w' => e = .returned (.string (tx (List.replicate n 0))) ∧ Below w.heap.size w w' := by
  obtain ⟨i0, hi, hz0, hz1, hz2⟩ := info_parts info8
  go_enter Try.func58, Try.ntmps58
  go_wp2
  go_loopw [0, 3] (fun i b wr => ∃ j : Nat, j ≤ n ∧ i = .int .i64 ((n : Int) - j) ∧ Hid (wr.ownsRow w.heap.size 5 1 b j ((((List.replicate j (0 : Int))).map (48 + ·)).map (Value.int .u8))) ∧ Below w.heap.size w wr) (fun i _ _ => (intOf i).toNat)
  case atStart => exact ⟨0, Nat.zero_le _, Ln.val_int (by simp), World.ownsRow_made w #[] 0 (Nat.le_refl _) (Nat.zero_le _) rfl, (Below.refl _ _).alloc (Nat.le_refl _) _⟩
  case round =>
    obtain ⟨j, hj, rfl, hown, hbel⟩ := hrel
    have hsz := hbel.size
    have hown0 := hown.out
    by_cases hlt : j < n
    · have hge : (0 : Int) < (n : Int) - j := by omega
      go_wp2_with (first | (at_builtin; refine wpList_append_own _ rfl _ _ 22 rfl w.heap.size 5 i0 (.int .u8 0) 1 1 Try.underlying22 hi hz0 hz1 hz2 rfl (by decide) _ _ _ rfl (hown0.alloc _) ⟨wr.heap.size, 0, none⟩ 1 1 [.int .u8 48] rfl rfl (one_new _ _ _) (one_cell _ _) (by unfold maxLen; omega) (by omega) (by simp; omega) ?_) | go_in)
      intro v' w3 hown3 hgrow _
      have hb3 : Below w.heap.size w w3 := Below.grown (hbel.alloc (by omega) _) hgrow (by simp; omega) (fun k hk => (hown0.lt k hk).1)
      have H3 : Hid (w3.ownsRow w.heap.size 5 1 v' (j + 1) (((List.replicate (j + 1) (0 : Int)).map (48 + ·)).map (Value.int .u8))) := by
        rw [List.replicate_succ']; simpa [Hid] using hown3
      clear hown3 hgrow hown0
      go_wp2
      go_roundw
      case rel => exact ⟨j + 1, by omega, Ln.val_int (by omega), H3, hb3⟩
      case measure => simp [intOf]; omega
    · have e : j = n := by omega
      subst e
      obtain ⟨g2, cap2, hv, hconv⟩ := text_of_row wr _ _ (List.replicate j (0 : Int)) (by rw [List.length_replicate]; exact hown0) (by rw [List.length_replicate]; exact hp)
      rw [List.length_replicate] at hv
      rw [hv] at hconv ⊢
      have hcv := hconv 9 Try.underlying9
      obtain ⟨R, hR⟩ : ∃ R, R = List.replicate j (0 : Int) := ⟨_, rfl⟩
      rw [← hR] at hcv
      have HR : Hid (R = List.replicate j (0 : Int)) := hR
      clear hconv hv hown hown0 hR
      go_wp2
      go_ret
      exact ⟨by rw [← HR.out]; rfl, hbel⟩
theorem l11Shift_any (a : List Int) (n : Nat) (w : World) (ha : Canon a) (la : a.length ≤ 200) (hp : 0 < n) (hn : n ≤ 200) :
    Calls Try.prog 42 #[.string (tx a), .int .i64 n] w fun e w' => ∃ R, e = .returned (.string (tx R)) ∧ Canon R ∧ vl R = vl a * 10 ^ n ∧ R.length ≤ a.length + n ∧ Below w.heap.size w w' := by
  have Ha : Hid (Canon a) := ha
  clear ha
  have s1 : ((tx a).size : Int) ≤ 8388608 := by rw [tx_size]; omega
  have s2 : ((tx (List.replicate n (0 : Int))).size : Int) ≤ 8388608 := by rw [tx_size, List.length_replicate]; omega
  by_cases hz : a = [0]
  · have hb : ((tx a).toList == [48]) = true := by rw [hz, tx_zero]; rfl
    have Hz : Hid (a = [0]) := hz
    clear hz s1 s2
    go_enter Try.func42, Try.ntmps42
    go_wp2
    go_ret
    refine ⟨a, rfl, Ha.out, ?_, by omega, Below.refl _ _⟩
    rw [Hz.out]
    show (0 : Int) = 0 * 10 ^ n
    omega
  · have hb := tx_is0 a Ha.out.1 hz
    have Hz : Hid (a ≠ [0]) := hz
    obtain ⟨R, hR⟩ : ∃ R, R = List.replicate n (0 : Int) := ⟨_, rfl⟩
    have hzr := fun w => l11Zeros_any n w hp hn
    rw [← hR] at s2 hzr
    have HR : Hid (R = List.replicate n (0 : Int)) := hR
    have Hzr : Hid (∀ w, Calls Try.prog 58 #[.int .i64 n] w fun e w' => e = .returned (.string (tx R)) ∧ Below w.heap.size w w') := hzr
    have hap : tx a ++ tx R = tx (a ++ R) := tx_append a R
    clear hz hR hzr
    go_enter Try.func42, Try.ntmps42
    go_wp2_with fail
    refine (Hzr.out _).mono ?_
    rintro e w1 ⟨rfl, hb1⟩
    go_wp2
    go_ret
    refine ⟨a ++ R, rfl, ?_, ?_, ?_, hb1⟩
    · rw [HR.out]; exact canon_noughts a n Ha.out Hz.out
    · rw [HR.out]; exact vl_noughts a n
    · rw [HR.out]; simp
theorem NatShift_any (a : List Int) (n : Nat) (w : World) (ha : Canon a) (hp : 0 < n) (hn : a.length + n ≤ 200) :
    Calls Try.prog 15 #[.string (tx a), .int .i64 n] w fun e w' => ∃ R, e = .returned (.string (tx R)) ∧ Canon R ∧ vl R = vl a * 10 ^ n ∧ R.length ≤ a.length + n ∧ Below w.heap.size w w' := by
  have Ha : Hid (Canon a) := ha
  clear ha
  go_enter Try.func15, Try.ntmps15
  go_wp2_with fail
  refine (NatOk_any a _ Ha.out (by omega)).mono ?_
  rintro e w' ⟨rfl, rfl⟩
  go_wp2_with fail
  refine (l1In_yes _ 0 200 _ (by omega) (by omega)).mono ?_
  rintro e w' ⟨rfl, rfl⟩
  go_wp2_with fail
  refine (l11Shift_any a n _ Ha.out (by omega) hp (by omega)).mono ?_
  rintro e w1 ⟨R, rfl, hR, hv, hl, hb1⟩
  have HR : Hid (Canon R ∧ vl R = vl a * 10 ^ n) := ⟨hR, hv⟩
  clear hR hv
  go_wp2_with fail
  refine (l11Fit_any R _ (by omega)).mono ?_
  rintro e w' ⟨rfl, rfl⟩
  go_wp2
  go_ret
  exact ⟨R, rfl, HR.out.1, HR.out.2, hl, hb1⟩
/-- A byte of a digit, as a text. -/
theorem conv_one (d : Int) (W : World) : ∀ dst, Try.prog.underlying dst = some .string → (convert 22 dst (.slice (some ⟨W.heap.size, 0, none⟩) 1 1)).run Try.prog (W.alloc (.cells #[.int .u8 (48 + d)] 5)) = .ok (.string (tx [d])) (W.alloc (.cells #[.int .u8 (48 + d)] 5)) :=
  run_convert_bytes_arg (P := Try.prog) _ 22 5 Try.underlying22 Try.underlying5 W.heap.size 0 1 1 [48 + d] rfl (fun i hi => by
    match i, hi with
    | 0, _ => simp)
/-- The laws' text of a number. -/
theorem digits_any (n : Int) (w : World) (h0 : 0 ≤ n) (h1 : n < 1000000000000000000) :
    Calls Try.prog 12 #[.int .i64 n] w fun e w' => ∃ R, e = .returned (.string (tx R)) ∧ Canon R ∧ vl R = n ∧ R.length ≤ 20 ∧ Below w.heap.size w w' := by
  have tz : Hid ((tx ([] : List Int)) = { data := #[] }) := by rw [Hid]; apply ByteArray.ext; rw [tx_data]; rfl
  go_enter Try.func12, Try.ntmps12
  go_wp2
  go_loopw [0, 3] (fun i s wr => ∃ (L : List Int) (r : Int), i = .int .i64 r ∧ s = .string (tx L) ∧ 0 ≤ r ∧ r < 1000000000000000000 ∧ L.length ≤ 20 ∧ Hid (Dec L ∧ vl L + 10 ^ L.length * r = n ∧ (L = [] ∨ (r = 0 → Canon L))) ∧ Below w.heap.size w wr) (fun i s _ => 2 * (intOf i).toNat + (1 - strSz s))
  case atStart => exact ⟨[], n, rfl, by rw [tz.out], h0, h1, by simp, ⟨(fun d hd => by cases hd), by simp [vl, lv], .inl rfl⟩, Below.refl _ _⟩
  case round =>
    obtain ⟨L, r, rfl, rfl, r0, r1, hL, hI, hbel⟩ := hrel
    have hsz := hbel.size
    have sL : ((tx L).size : Int) ≤ 8388608 := by rw [tx_size]; omega
    have sd : ((tx [r % 10]).size : Int) ≤ 8388608 := by rw [tx_size]; simp
    have hap : tx [r % 10] ++ tx L = tx (r % 10 :: L) := tx_append [r % 10] L
    have hcv := conv_one (r % 10) wr 9 Try.underlying9
    by_cases hgo : L = [] ∨ 0 < r
    · have HS : Hid (_ ∧ _ ∧ _ ∧ _) := dig_step L r n hI.out.1 hI.out.2.1 r0 h1 hgo
      have hm : Hid (2 * (r / 10).toNat + (1 - strSz (.string (tx (r % 10 :: L)))) < 2 * r.toNat + (1 - strSz (.string (tx L)))) := by
        have e1 : strSz (.string (tx (r % 10 :: L))) = L.length + 1 := by
          show (tx (r % 10 :: L)).size = _
          rw [tx_size]; simp
        have e2 : strSz (.string (tx L)) = L.length := tx_size L
        rw [Hid, e1, e2]
        rcases hgo with e | e
        · rw [e]; simp; omega
        · omega
      have q0 : 0 ≤ r / 10 := by omega
      have q1 : r / 10 < 1000000000000000000 := by omega
      have m0 : 0 ≤ r % 10 := by omega
      have m9 : r % 10 ≤ 9 := by omega
      by_cases hLe : L = []
      · have hE := tx_empty L hLe
        clear hLe hgo
        go_wp2
        go_roundw
        case rel => exact ⟨_, _, rfl, rfl, q0, q1, HS.out.2.2.2, ⟨HS.out.1, HS.out.2.1, .inr HS.out.2.2.1⟩, hbel.alloc (by omega) _⟩
        case measure => exact hm.out
      · have hE := tx_some L hLe
        have hr : 0 < r := by rcases hgo with e | e; exact absurd e hLe; exact e
        clear hLe hgo
        go_wp2
        go_roundw
        case rel => exact ⟨_, _, rfl, rfl, q0, q1, HS.out.2.2.2, ⟨HS.out.1, HS.out.2.1, .inr HS.out.2.2.1⟩, hbel.alloc (by omega) _⟩
        case measure => exact hm.out
    · have hLe : L ≠ [] := fun e => hgo (.inl e)
      have hE := tx_some L hLe
      have hr : r = 0 := by
        rcases Int.lt_or_le 0 r with c | c
        · exact absurd (.inr c) hgo
        · omega
      have HF : Hid (Canon L ∧ vl L = n) := by
        refine ⟨?_, ?_⟩
        · rcases hI.out.2.2 with e | e
          · exact absurd e hLe
          · exact e hr
        · have := hI.out.2.1; rw [hr] at this; omega
      have hr' : decide (0 < r) = false := by simp; omega
      clear hLe hgo hr
      go_wp2
      go_ret
      exact ⟨L, rfl, HF.out.1, HF.out.2, hL, hbel⟩
end Go.Proofs.Ytmjkpjmccdjkjad
