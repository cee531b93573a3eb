/-
  A word cut into its fields, in one of the formats, by the program, walked.
-/
import Derived.Test.YtmjkpjmccdjkjadDoorCuw
namespace Go.Proofs.YtmjkpjmccdjkjadDoor
open Go.RowKit
set_option linter.unusedVariables false
set_option maxRecDepth 100000
set_option linter.unusedSimpArgs false
theorem cmk_64 (w : World) : (Instr.makeSlice 45 (.int .i64 5) (.int .i64 5)).run Tryd.prog w = .ok (.slice (some ⟨w.heap.size, 0, none⟩) 5 5) (w.alloc (.cells #[.int .i64 0, .int .i64 0, .int .i64 0, .int .i64 0, .int .i64 0] 2)) := by kernel_rfl
set_option maxRecDepth 100000 in
set_option maxHeartbeats 4000000 in
theorem cutFields_64 (W H L : Int) (w : World) (hW : IsW W H L) :
    Calls Tryd.prog 33 #[.iface 42 (.agg #[]), wpV H L] w fun x w' => ∃ gb, x = .returned (flV (decide (W / 2 ^ 63 % 2 = 1)) (W / 2 ^ 58 % 32) (W / 2 ^ 50 % 256) (.slice (some ⟨gb, 0, none⟩) 5 5)) ∧ gb < w'.heap.size ∧ (∀ i, i < 5 → w'.cell? ⟨gb, i, none⟩ = some (.int .i64 (W / 2 ^ (10 * (5 - 1 - i)) % 1024))) ∧ Below w.heap.size w w' := by
  have hmk := cmk_64
  have HL : Hid (∀ j X H' L', IsW (W / 2 ^ (10 * j)) H' L' → Calls Tryd.prog 45 #[wpV H' L', .int .i64 10] X fun e w' => e = .returned (.int .u16 (W / 2 ^ (10 * j) % 1024)) ∧ Below X.heap.size X w') := fun j X H' L' h => low_isW _ H' L' 10 X h (by unfold Wn; omega)
  have HD : Hid (∀ j X H' L', IsW (W / 2 ^ (10 * j)) H' L' → Calls Tryd.prog 46 #[wpV H' L', .int .i64 10] X fun e w' => ∃ H2 L2, e = .returned (wpV H2 L2) ∧ Hid (IsW (W / 2 ^ (10 * (j + 1))) H2 L2) ∧ Below X.heap.size X w') := fun j X H' L' h => by
    have := drop_isW _ H' L' 10 X h (by unfold Wn; omega)
    rw [div_more, show 10 * j + 10 = 10 * (j + 1) by omega] at this
    exact this
  have HLf : Hid (∀ X H' L', IsW (W / 2 ^ 50) H' L' → Calls Tryd.prog 45 #[wpV H' L', .int .i64 8] X fun e w' => e = .returned (.int .u16 (W / 2 ^ 50 % 256)) ∧ Below X.heap.size X w') := fun X H' L' h => low_isW _ H' L' 8 X h (by unfold Wn; omega)
  have HDr : Hid (∀ X H' L', IsW (W / 2 ^ 50) H' L' → Calls Tryd.prog 46 #[wpV H' L', .int .i64 8] X fun e w' => ∃ H2 L2, e = .returned (wpV H2 L2) ∧ Hid (IsW (W / 2 ^ 58) H2 L2) ∧ Below X.heap.size X w') := fun X H' L' h => by
    have := drop_isW _ H' L' 8 X h (by unfold Wn; omega)
    rw [div_more] at this
    exact this
  have HL5 : Hid (∀ X H' L', IsW (W / 2 ^ 58) H' L' → Calls Tryd.prog 45 #[wpV H' L', .int .i64 5] X fun e w' => e = .returned (.int .u16 (W / 2 ^ 58 % 32)) ∧ Below X.heap.size X w') := fun X H' L' h => low_isW _ H' L' 5 X h (by unfold Wn; omega)
  have HD5 : Hid (∀ X H' L', IsW (W / 2 ^ 58) H' L' → Calls Tryd.prog 46 #[wpV H' L', .int .i64 5] X fun e w' => ∃ H2 L2, e = .returned (wpV H2 L2) ∧ Hid (IsW (W / 2 ^ 63) H2 L2) ∧ Below X.heap.size X w') := fun X H' L' h => by
    have := drop_isW _ H' L' 5 X h (by unfold Wn; omega)
    rw [div_more] at this
    exact this
  have HL1 : Hid (∀ X H' L', IsW (W / 2 ^ 63) H' L' → Calls Tryd.prog 45 #[wpV H' L', .int .i64 1] X fun e w' => e = .returned (.int .u16 (W / 2 ^ 63 % 2)) ∧ Below X.heap.size X w') := fun X H' L' h => low_isW _ H' L' 1 X h (by unfold Wn; omega)
  have HW0 : Hid (IsW (W / 2 ^ (10 * 0)) H L) := by show IsW _ _ _; rw [Nat.mul_zero, Int.pow_zero, Int.ediv_one]; exact hW
  have HC : Hid (∀ i, i < 5 → (cdl W 5 5).getD i 0 = W / 2 ^ (10 * (5 - 1 - i)) % 1024) := fun i hi => cdl_at W 5 5 i (Nat.le_refl _) (by omega) hi
  have HLen : Hid (∀ j, (cdl W 5 j).length = 5) := cdl_len W 5
  have HSt : Hid (∀ j, cdl W 5 (j + 1) = (cdl W 5 j).set (5 - 1 - j) (W / 2 ^ (10 * j) % 1024)) := fun j => rfl
  have HDb : Hid (∀ j, 0 ≤ W / 2 ^ (10 * j) % 1024 ∧ W / 2 ^ (10 * j) % 1024 ≤ 1023) := fun j => by omega
  have hR : 0 ≤ W / 2 ^ 50 % 256 ∧ W / 2 ^ 50 % 256 ≤ 255 := by omega
  have hC5 : 0 ≤ W / 2 ^ 58 % 32 ∧ W / 2 ^ 58 % 32 ≤ 31 := by omega
  have hS1 : 0 ≤ W / 2 ^ 63 % 2 ∧ W / 2 ^ 63 % 2 ≤ 1 := by omega
  generalize W / 2 ^ 50 % 256 = RS at *
  generalize W / 2 ^ 58 % 32 = LD at *
  generalize W / 2 ^ 63 % 2 = SB at *
  generalize W / 2 ^ 58 = Q1 at *
  generalize W / 2 ^ 63 = Q2 at *
  have hLD : IntKind.u8.wrap LD = LD := by rw [IntKind.wrap_u8]; omega
  clear hW
  go_enter Tryd.func33, Tryd.ntmps33
  go_wp2_with fail
  refine (decletsIn_64 _).mono ?_
  rintro r w1 ⟨rfl, hb1⟩
  have HU1 : Hid (CU w 5 (w1.alloc (.cells #[.int .i64 0, .int .i64 0, .int .i64 0, .int .i64 0, .int .i64 0] 2)) w1.heap.size H L (cdl W 5 0)) := CU.start 5 #[.int .i64 0, .int .i64 0, .int .i64 0, .int .i64 0, .int .i64 0] (by decide) rfl rfl hb1
  clear hb1
  go_wp2
  clear hmk
  generalize w1.alloc (.cells #[.int .i64 0, .int .i64 0, .int .i64 0, .int .i64 0, .int .i64 0] 2) = w2 at *
  generalize w1.heap.size = gb at *
  clear w1
  go_loopw [6] (fun i wr => ∃ j : Nat, j ≤ 5 ∧ i = .int .i64 (4 - (j : Int)) ∧ ∃ H2 L2, Hid (IsW (W / 2 ^ (10 * j)) H2 L2) ∧ Hid (CU w 5 wr gb H2 L2 (cdl W 5 j))) (fun i _ => ((intOf i) + 1).toNat)
  case atStart => exact ⟨0, Nat.zero_le _, Ln.val_int (by simp), H, L, HW0, HU1⟩
  case round =>
    clear HW0 HU1
    obtain ⟨j, hj, rfl, H2, L2, hW2, HU2⟩ := hrel
    by_cases hlt : j < 5
    · have hge : (0 : Int) ≤ 4 - (j : Int) := by omega
      have HLj : Hid (∀ X, Calls Tryd.prog 45 #[wpV H2 L2, .int .i64 10] X fun e w' => e = .returned (.int .u16 (W / 2 ^ (10 * j) % 1024)) ∧ Below X.heap.size X w') := fun X => HL.out j X H2 L2 hW2.out
      have HDj : Hid (∀ X, Calls Tryd.prog 46 #[wpV H2 L2, .int .i64 10] X fun e w' => ∃ H3 L3, e = .returned (wpV H3 L3) ∧ Hid (IsW (W / 2 ^ (10 * (j + 1))) H3 L3) ∧ Below X.heap.size X w') := fun X => HD.out j X H2 L2 hW2.out
      have hdb := HDb.out j
      have HSj : Hid (cdl W 5 (j + 1) = (cdl W 5 j).set (5 - 1 - j) (W / 2 ^ (10 * j) % 1024)) := HSt.out j
      have hln := HLen.out j
      generalize W / 2 ^ (10 * j) % 1024 = d at *
      generalize cdl W 5 j = X at *
      obtain ⟨-, b0, b1, bf, -, -⟩ := HU2.out
      obtain ⟨q, hq⟩ : ∃ q : Nat, 5 - 1 - j = q := ⟨_, rfl⟩
      rw [hq] at HSj
      have hqi : (4 : Int) - (j : Int) = (q : Int) := by omega
      have hq5 : q < 5 := by omega
      have hqi5 : (q : Int) < 5 := by omega
      rw [hqi] at hge ⊢
      have HQ : Hid ((4 : Int) - (j : Int) = (q : Int)) := hqi
      clear hqi hq
      go_wp2_with fail
      refine (HLj.out _).mono ?_
      rintro r w3 ⟨rfl, hb3⟩
      have HU3 : Hid (CU w 5 w3 gb H2 L2 X) := HU2.out.next hb3
      clear hb3 HU2 b0 b1 bf
      obtain ⟨hR3, hc3, hf3⟩ := HU3.out.row hln q hq5 d
      have HU4 : Hid (CU w 5 (w3.setCell ⟨gb, q, none⟩ (.int .i64 d)) gb H2 L2 (X.set q d)) := hR3
      clear hR3
      generalize X.getD q 0 = old at *
      obtain ⟨-, b0, b1, bf, -, -⟩ := HU4.out
      go_wp2_with fail
      refine (HDj.out _).mono ?_
      rintro r w5 ⟨H5, L5, rfl, hW5, hb5⟩
      have HU5 : Hid (CU w 5 w5 gb H2 L2 (X.set q d)) := HU4.out.next hb5
      clear hb5 HU4 HU3 b0 b1 bf hc3 hf3 hW2
      obtain ⟨-, b0, b1, bf, -, -⟩ := HU5.out
      have HU6 : Hid (CU w 5 ((w5.setCell ⟨w.heap.size, 0, none⟩ (.int .u64 H5)).setCell ⟨w.heap.size, 1, none⟩ (.int .u64 L5)) gb H5 L5 (X.set q d)) := HU5.out.word H5 L5
      clear HU5
      go_wp2
      go_roundw
      case rel => exact ⟨j + 1, by omega, Ln.val_int (by have := HQ.out; omega), H5, L5, hW5, by rw [HSj.out]; exact HU6⟩
      case measure => simp [intOf] <;> omega
    · obtain rfl : j = 5 := by omega
      have hd : decide ((0 : Int) ≤ 4 - ((5 : Nat) : Int)) = false := by decide
      have HLr : Hid (∀ X, Calls Tryd.prog 45 #[wpV H2 L2, .int .i64 8] X fun e w' => e = .returned (.int .u16 RS) ∧ Below X.heap.size X w') := fun X => HLf.out X H2 L2 hW2.out
      have HDq : Hid (∀ X, Calls Tryd.prog 46 #[wpV H2 L2, .int .i64 8] X fun e w' => ∃ H3 L3, e = .returned (wpV H3 L3) ∧ Hid (IsW Q1 H3 L3) ∧ Below X.heap.size X w') := fun X => HDr.out X H2 L2 hW2.out
      clear HLf HDr HL HD HSt HDb hW2
      have hln := HLen.out 5
      have HXc : Hid (∀ i, i < 5 → (cdl W 5 5).getD i 0 = W / 2 ^ (10 * (5 - 1 - i)) % 1024) := HC
      clear HC HLen
      generalize cdl W 5 5 = X at *
      obtain ⟨-, b0, b1, bf, -, -⟩ := HU2.out
      have HX2 : Hid (Below wr.heap.size wr wr.drew) := (Below.refl _ _).drew
      go_upto_region 7 with fail
      refine wp_region_class (C := fun Wd => Below wr.heap.size wr Wd) (by kernel_rfl) (by kernel_rfl) HX2.out ?_
      repeat (refine wpQuiet_step (fun K hK => ?_); go_simp; first | (refine hK _ ?_; clear hK K) | (apply Exists.intro; refine ⟨fun wx hC => ?_, hK _ ?_⟩; (first | exact rfl | exact Calls.class_of (HLr.out wx) (fun w' hb => bel1 hC hb) | (simp only [md_restWidth_64]; go_simp; first | exact Calls.class_of (restWidth_64 wx) (fun w' hb => bel1 hC hb)) | (have q0 := cell_of hC b0; have q1 := cell_of hC b1; go_simp; exact rfl)); clear hK K))
      refine wpQuiet_nil ?_
      intro w3 hb3
      have HU3 : Hid (CU w 5 w3 gb H2 L2 X) := HU2.out.next hb3
      clear hb3 HU2 HX2 b0 b1 bf HLr
      obtain ⟨-, b0, b1, bf, -, -⟩ := HU3.out
      go_upto_region 8 with fail
      go_cut [7] (fun s wx => s = .int .u16 RS ∧ ∃ H3 L3, Hid (IsW Q1 H3 L3) ∧ Hid (CU w 5 wx gb H3 L3 X))
      case first =>
        go_region_with (first
          | (go_at_call 105; refine (restWidth_64 _).mono ?_; rintro r w4 ⟨rfl, hb4⟩; have HU4 : Hid (CU w 5 w4 gb H2 L2 X) := HU3.out.drew.next hb4; obtain ⟨-, d0, d1, df, -, -⟩ := HU4.out)
          | (go_at_call 46; refine (HDq.out _).mono ?_; rintro r w5 ⟨H5, L5, rfl, hW5, hb5⟩; have HU5 : Hid (CU w 5 w5 gb H2 L2 X) := HU4.out.next hb5; obtain ⟨-, e0, e1, ef, -, -⟩ := HU5.out))
        all_goals
          go_wp2
          go_meet
          case rel => exact ⟨rfl, H5, L5, hW5, HU5.out.word H5 L5⟩
      case rest =>
        obtain ⟨rfl, H6, L6, hW6, HU6⟩ := hcut
        clear HU3 b0 b1 bf HDq
        obtain ⟨-, b0, b1, bf, -, -⟩ := HU6.out
        go_wp2_with fail
        refine (HL5.out _ _ _ hW6.out).mono ?_
        rintro r w7 ⟨rfl, hb7⟩
        have HU7 : Hid (CU w 5 w7 gb H6 L6 X) := HU6.out.next hb7
        clear hb7 HU6 b0 b1 bf
        obtain ⟨-, b0, b1, bf, -, -⟩ := HU7.out
        go_wp2_with fail
        refine (HD5.out _ _ _ hW6.out).mono ?_
        rintro r w8 ⟨H8, L8, rfl, hW8, hb8⟩
        have HU8 : Hid (CU w 5 w8 gb H6 L6 X) := HU7.out.next hb8
        clear hb8 HU7 b0 b1 bf hW6
        obtain ⟨-, b0, b1, bf, -, -⟩ := HU8.out
        have HU9 : Hid (CU w 5 ((w8.setCell ⟨w.heap.size, 0, none⟩ (.int .u64 H8)).setCell ⟨w.heap.size, 1, none⟩ (.int .u64 L8)) gb H8 L8 X) := HU8.out.word H8 L8
        obtain ⟨-, f0, f1, ff, -, -⟩ := HU9.out
        go_wp2_with fail
        refine (HL1.out _ _ _ hW8.out).mono ?_
        rintro r w10 ⟨rfl, hb10⟩
        have HU10 : Hid (CU w 5 w10 gb H8 L8 X) := HU9.out.next hb10
        clear hb10 HU9 HU8 b0 b1 bf f0 f1 ff hW8
        obtain ⟨k0, k1, k2, k3, kf⟩ := HU10.out.2.2.2.2.1
        have HF : Hid (_ ∧ _) := HU10.out.fin hln (by decide) (.bool (SB == 1)) (.int .u8 LD) (.int .u16 RS) (.slice (some ⟨gb, 0, none⟩) 5 5)
        have HBd : Hid ((SB == 1) = decide (SB = 1)) := by show _ = _; by_cases h : SB = 1 <;> simp [h]
        clear HU10
        go_wp2
        refine bodyPost_ret (results_fl rfl _ _ rfl HF.out.1.1 HF.out.1.2.1 HF.out.1.2.2.1 HF.out.1.2.2.2.1) rfl ?_
        refine ⟨gb, by rw [HBd.out], HF.out.2.1, fun i hi => ?_, HF.out.2.2.2⟩
        rw [← HXc.out i hi]
        exact HF.out.2.2.1 i hi
end Go.Proofs.YtmjkpjmccdjkjadDoor
