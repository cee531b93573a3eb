/-
  The fields of a finite number, in one of the formats, by the program, walked.
-/
import Derived.Test.YtmjkpjmccdjkjadDoorFwd
namespace Go.Proofs.YtmjkpjmccdjkjadDoor
open Go.RowKit
set_option linter.unusedVariables false
set_option maxRecDepth 100000
set_option linter.unusedSimpArgs false
set_option maxRecDepth 100000 in
set_option maxHeartbeats 4000000 in
theorem finiteFields_64 (b : Bool) (E : Int) (ds : List Int) (w : World) (ht : Tabs w) (hc : Canon ds) (hl : ds.length ≤ 16) (e0 : 0 ≤ E + 398) (e1 : E + 398 < 768) :
    Calls Tryd.prog 28 #[.iface 42 (.agg #[]), numV 1 b E (tx ds)] w fun x w' => ∃ gb cap, x = .returned (flV b (fv ((E + 398) / 256) ((npad 16 ds).getD 0 0)) ((E + 398) % 256) (.slice (some ⟨gb, 0, none⟩) 5 cap)) ∧ gb < w'.heap.size ∧ (∀ i, i < 5 → w'.cell? ⟨gb, i, none⟩ = some (.int .i64 ((ds3 ((npad 16 ds).drop 1) 5).getD i 0))) ∧ Below w.heap.size w w' := by
  have hS : (npad 16 ds).length = 3 * 5 + 1 := npad_len 16 ds hl
  have hSd : Dec (npad 16 ds) := npad_dec 16 ds hc.1
  obtain ⟨hd1, hd2⟩ := dso_drop (npad 16 ds) 5 hSd hS (by decide)
  have hF := dec_at (npad 16 ds) hSd 0
  have HPD : Hid (∀ X, Calls Tryd.prog 41 #[.string (tx ds), .int .i64 16] X fun e w' => ∃ v, e = .returned v ∧ HasN w' X.heap.size v (npad 16 ds) ∧ Below X.heap.size X w') := fun X => paddedDigits_any ds 16 X hc.1 hl (by decide) (by decide)
  have HDC : Hid (∀ X gq ca, Below w.heap.size w X → (∀ i, i < 16 → X.cell? ⟨gq, i, none⟩ = some (.int .i64 ((npad 16 ds).getD i 0))) → gq < X.heap.size → 15 ≤ ca → ca ≤ 9223372036854775807 → Calls Tryd.prog 42 #[.slice (some ⟨gq, 1, none⟩) 15 ca] X fun e w' => ∃ u, e = .returned (.tuple #[u, .bool true]) ∧ HasN w' X.heap.size u (ds3 ((npad 16 ds).drop 1) 5) ∧ Below X.heap.size X w') := fun X gq ca hb hcell hg h1 h2 => by
    have hL : Lies X gq 1 ((npad 16 ds).drop 1) := fun i hi => by
      rw [drop_at]
      exact hcell (1 + i) (by rw [hd2] at hi; omega)
    have := iDeclets_yes gq 1 ca ((npad 16 ds).drop 1) X (ht.below hb (Nat.le_refl _)) hL hg (by rw [hd2]; omega) h2 hd1
    rw [hd2] at this
    exact this
  have hDl : (ds3 ((npad 16 ds).drop 1) 5).length = 5 := ds3_len _ _
  have hV : IntKind.i64.wrap (E + 398) = E + 398 := by rw [IntKind.wrap_i64]; omega
  obtain ⟨V, hVe⟩ : ∃ V, E + 398 = V := ⟨_, rfl⟩
  rw [hVe] at e0 e1 ⊢
  have hV' : IntKind.i64.wrap (E + 398) = V := by rw [hV, hVe]
  clear hV
  have hE : IntKind.u16.wrap V = V := by rw [IntKind.wrap_u16]; omega
  have hH : 0 ≤ V / 256 ∧ V / 256 ≤ 2 := by omega
  have hH8 : IntKind.u8.wrap (V / 256) = V / 256 := by rw [IntKind.wrap_u8]; omega
  have hM : bits .and .u16 V 255 = V % 256 := by
    have := Bm.mask_u16 V 8 e0 (by omega) (by decide)
    rw [show (2 : Int) ^ 8 - 1 = 255 by decide, show (2 : Int) ^ 8 = 256 by decide] at this
    exact this
  have hw1 : IntKind.u16.wrap 256 = 256 := by decide
  have hw2 : IntKind.u16.wrap 255 = 255 := by decide
  have HX0 : Hid (Below (w.heap.size + 2) (gbx w 1 b E (tx ds)) (gbx w 1 b E (tx ds))) := Below.refl _ _
  obtain ⟨c0, c1, c2, c3, -, -, -, -, -⟩ := gbx_cells HX0.out
  have HVe : Hid (E + 398 = V) := hVe
  clear hVe hd1 hd2 hc hl ht hSd
  generalize npad 16 ds = S at *
  generalize ds3 (S.drop 1) 5 = D at *
  generalize tx ds = T at *
  obtain ⟨F, hFe⟩ : ∃ F, S.getD 0 0 = F := ⟨_, rfl⟩
  rw [hFe] at hF ⊢
  have HFe : Hid (S.getD 0 0 = F) := hFe
  clear hFe
  have hF8 : IntKind.u8.wrap F = F := by rw [IntKind.wrap_u8]; omega
  go_enter Tryd.func28, Tryd.ntmps28
  go_upto_region 1 with fail
  go_cut [5] (fun q wx => ∃ gq cap, q = .slice (some ⟨gq, 0, none⟩) 16 cap ∧ Hid (Below (w.heap.size + 2) (gbx w 1 b E T) wx ∧ gq < wx.heap.size ∧ 16 ≤ cap ∧ cap ≤ 9223372036854775807 ∧ ∀ i, i < 16 → wx.cell? ⟨gq, i, none⟩ = some (.int .i64 (S.getD i 0))))
  case first =>
    go_region_with (first
      | (go_at_call 102; refine (digitCount_64 _).mono ?_; rintro r w4 ⟨rfl, hb4⟩; have HX4 := sp_arm0 hb4; obtain ⟨d0, d1, d2, d3, -, -, -, -, -⟩ := gbx_cells HX4)
      | (go_at_call 41; refine (HPD.out _).mono ?_; rintro r w5 ⟨v5, rfl, hv5, hb5⟩; have HX5 := gbx_next HX4 hb5))
    all_goals
      obtain ⟨gq, cap, rfl, -, hg1, hg2, hg3, hg4⟩ := hasN_full hv5
      rw [hS] at hg2 hg4 ⊢
      go_wp2
      go_meet
      case rel => exact ⟨gq, cap, rfl, HX5, hg1, hg2, hg3, hg4⟩
  case rest =>
    obtain ⟨gq, cap, rfl, HQ⟩ := hcut
    clear c0 c1 c2 c3 HX0 HPD
    have k1 : 16 ≤ cap := HQ.out.2.2.1
    have k2 : ¬ (cap : Int) < 16 := by omega
    have k3 : ¬ cap = 1 := by omega
    have k4 : ¬ (cap : Int) = 1 := by omega
    have k5 : cap ≤ 9223372036854775807 := HQ.out.2.2.2.1
    have HD1 : Hid (Calls Tryd.prog 42 #[.slice (some ⟨gq, 1, none⟩) 15 (cap - 1)] wc fun e w' => ∃ u, e = .returned (.tuple #[u, .bool true]) ∧ HasN w' wc.heap.size u D ∧ Below wc.heap.size wc w') := HDC.out wc gq (cap - 1) (gbx_out HQ.out.1) HQ.out.2.2.2.2 HQ.out.2.1 (by omega) (by omega)
    go_wp2_with fail
    refine HD1.out.mono ?_
    rintro r w7 ⟨u, rfl, hu, hb7⟩
    obtain ⟨gb, cap2, rfl, hg0, hg1, -, -, hg4⟩ := hasN_full hu
    rw [hDl] at hg4 ⊢
    have HW7 : Hid (FW w b E T 5 F D w7 gq gb) := ⟨gbx_next HQ.out.1 hb7, by rw [← HFe.out]; exact cell_of hb7 (HQ.out.2.2.2.2 0 (by decide)), by have := gbx_room HQ.out.1; omega, hg1, hg4⟩
    clear HQ HD1 HDC k1 k2 k3 k4 k5 hu hb7 hg0 hg1 hg4 hDl hS HFe
    obtain ⟨d0, d1, d2, d3, -, -, -, -, -⟩ := gbx_cells HW7.out.1
    have HX7 : Hid (Below w7.heap.size w7 w7.drew) := (Below.refl _ _).drew
    go_upto_region 3 with fail
    refine wp_region_class (C := fun W => Below w7.heap.size w7 W) (by kernel_rfl) (by kernel_rfl) HX7.out ?_
    repeat (refine wpQuiet_step (fun K hK => ?_); go_simp; first | (refine hK _ ?_; clear hK K) | (apply Exists.intro; refine ⟨fun wx hC => ?_, hK _ ?_⟩; (first | exact rfl | (simp only [md_bias_64]; go_simp; first | exact Calls.class_of (bias_64 wx) (fun w' hb => bel1 hC hb)) | (have q2 := cell_of hC d2; go_simp; exact rfl)); clear hK K))
    refine wpQuiet_nil ?_
    intro w8 hb8
    have HW8 : Hid (FW w b E T 5 F D w8 gq gb) := HW7.out.next hb8
    clear hb8 HW7 HX7 d0 d1 d2 d3 hV'
    go_wp2_with fail
    refine (restWidth_64 _).mono ?_
    rintro r w9 ⟨rfl, hb9⟩
    have HW9 : Hid (FW w b E T 5 F D w9 gq gb) := HW8.out.next hb9
    clear hb9 HW8
    obtain ⟨d0, d1, d2, d3, -, -, -, -, -⟩ := gbx_cells HW9.out.1
    have dq := HW9.out.2.1
    go_upto_region 5 with fail
    go_region_with (first
      | (go_at_call 105; refine (restWidth_64 _).mono ?_; rintro r w10 ⟨rfl, hb10⟩; have HW10 : Hid (FW w b E T 5 F D w10 gq gb) := HW9.out.drew.next hb10; obtain ⟨-, f1, -, -, f4, f5, f6, f7, f8⟩ := gbx_cells HW10.out.1; have fq := HW10.out.2.1; have HF : Hid (_ ∧ _) := HW10.out.fin (.bool b) (.int .u8 (fv (V / 256) F)) (.int .u16 (V % 256)) (.slice (some ⟨gb, 0, none⟩) 5 cap2))
      | (go_at_call 43; refine (leadOf_any (V / 256) F _ hH.1 hH.2 hF.1 hF.2).mono ?_; rintro r _ ⟨rfl, rfl⟩))
    all_goals
      go_wp2
      refine bodyPost_ret (results_fl rfl _ _ rfl HF.out.1.1 HF.out.1.2.1 HF.out.1.2.2.1 HF.out.1.2.2.2.1) rfl ?_
      exact ⟨gb, cap2, rfl, HF.out.2⟩
end Go.Proofs.YtmjkpjmccdjkjadDoor
