/-
  A number read from a word, in one of the formats, by the program, walked.
-/
import Derived.Test.YtmjkpjmccdjkjadDoorUpw
namespace Go.Proofs.YtmjkpjmccdjkjadDoor
open Go.RowKit
set_option linter.unusedVariables false
set_option maxRecDepth 100000
set_option linter.unusedSimpArgs false
set_option maxRecDepth 100000 in
set_option maxHeartbeats 4000000 in
theorem unpackNum_64 (W H L : Int) (w : World) (ht : Tabs w) (hW : IsW W H L) :
    Calls Tryd.prog 20 #[.iface 42 (.agg #[]), wpV H L] w fun x w' => x = .returned (numV (uK 8 5 W) (uB 8 5 W) (uX 8 5 398 W) (tx (uL 8 5 W))) ∧ Below w.heap.size w w' := by
  have HT : Hid (Tabs w) := ht
  have HCut : Hid (∀ X, Calls Tryd.prog 33 #[.iface 42 (.agg #[]), wpV H L] X fun x w' => ∃ gb, x = .returned (flV (decide (W / 2 ^ 63 % 2 = 1)) (W / 2 ^ 58 % 32) (W / 2 ^ 50 % 256) (.slice (some ⟨gb, 0, none⟩) 5 5)) ∧ gb < w'.heap.size ∧ (∀ i, i < 5 → w'.cell? ⟨gb, i, none⟩ = some (.int .i64 (W / 2 ^ (10 * (5 - 1 - i)) % 1024))) ∧ Below X.heap.size X w') := fun X => cutFields_64 W H L X hW
  have eC : uC 8 5 W = W / 2 ^ 58 % 32 := rfl
  have hcb := uC_bd 8 5 W
  have hR : 0 ≤ W / 2 ^ 50 % 256 ∧ W / 2 ^ 50 % 256 ≤ 255 := by omega
  have hN : W / 2 ^ 50 % 256 / 128 = W / 2 ^ 57 % 2 := by
    rw [show (2 : Int) ^ 57 = 2 ^ (50 + 7) by rfl, ← div_more, show (2 : Int) ^ 7 = 128 by decide]
    generalize W / 2 ^ 50 = z
    omega
  have HX0 : Hid (Below (w.heap.size + 2) (qbx w H L) (qbx w H L)) := Below.refl _ _
  clear ht hW
  by_cases h30 : uC 8 5 W = 30
  · obtain ⟨e1, e2, e3, e4⟩ := u_inf 8 5 398 W h30
    rw [e1, e2, e3, e4, txn, show (2 : Int) ^ (8 + 10 * 5 + 5) = 2 ^ 63 by rfl]
    rw [← eC, h30] at HCut
    clear e1 e2 e3 e4 h30 eC hcb hN HT
    generalize decide (W / 2 ^ 63 % 2 = 1) = sB at *
    generalize W / 2 ^ 50 % 256 = RS at *
    go_enter Tryd.func20, Tryd.ntmps20
    go_wp2_with fail
    refine (HCut.out _).mono ?_
    rintro r w1 ⟨gb, rfl, hg1, hc1, hb1⟩
    have HU : Hid (UW w H L 5 sB 30 RS (fun i => W / 2 ^ (10 * (5 - 1 - i)) % 1024) (w1.alloc (.cells #[.bool sB, .int .u8 30, .int .u16 RS, .slice (some ⟨gb, 0, none⟩) 5 5] 65)) w1.heap.size gb) := UW.new (qbx_next HX0.out hb1) hg1 hc1
    obtain ⟨k0, k1, k2, k3, kf⟩ := qbx_at HU.out.1
    have HF : Hid (_ ∧ _) := HU.out.fin (.int .i64 2) (.bool sB) (.int .i64 0) (.string { data := #[] })
    clear hb1 hc1 HX0 HU
    go_wp2
    refine bodyPost_ret (results_num rfl _ _ rfl HF.out.1.1 HF.out.1.2.1 HF.out.1.2.2.1 HF.out.1.2.2.2.1) rfl ?_
    exact ⟨rfl, HF.out.2⟩
  by_cases h31 : uC 8 5 W = 31
  · obtain ⟨e1, e2, e3, e4⟩ := u_nan 8 5 398 W h31
    rw [e1, e2, e3, e4, txn, show (2 : Int) ^ (8 + 10 * 5 - 1) = 2 ^ 57 by rfl, ← hN]
    rw [← eC, h31] at HCut
    clear e1 e2 e3 e4 h30 h31 eC hcb hN HT
    generalize decide (W / 2 ^ 63 % 2 = 1) = sB at *
    generalize W / 2 ^ 50 % 256 = RS at *
    have hQ : 0 ≤ RS / 128 ∧ RS / 128 ≤ 1 := by omega
    generalize hQe : RS / 128 = Q at *
    have hw7 : IntKind.i64.wrap 7 = 7 := by decide
    have hw8 : IntKind.i64.wrap (8 - 1) = 7 := by decide
    have HCs : Hid ((Q = 1 ∧ (Q == 1) = true) ∨ (¬ Q = 1 ∧ (Q == 1) = false)) := by
      by_cases h : Q = 1
      · exact .inl ⟨h, by simp [h]⟩
      · exact .inr ⟨h, beq_eq_false_iff_ne.2 h⟩
    go_enter Tryd.func20, Tryd.ntmps20
    go_wp2_with fail
    refine (HCut.out _).mono ?_
    rintro r w1 ⟨gb, rfl, hg1, hc1, hb1⟩
    have HU : Hid (UW w H L 5 sB 31 RS (fun i => W / 2 ^ (10 * (5 - 1 - i)) % 1024) (w1.alloc (.cells #[.bool sB, .int .u8 31, .int .u16 RS, .slice (some ⟨gb, 0, none⟩) 5 5] 65)) w1.heap.size gb) := UW.new (qbx_next HX0.out hb1) hg1 hc1
    clear hb1 hc1 HX0
    go_upto_region 4 with fail
    generalize w1.alloc (.cells #[.bool sB, .int .u8 31, .int .u16 RS, .slice (some ⟨gb, 0, none⟩) 5 5] 65) = w2 at *
    generalize w1.heap.size = p at *
    clear hg1 w1
    have h4 := HU.out.2.1
    have HX2 : Hid (Below w2.heap.size w2 w2.drew) := (Below.refl _ _).drew
    refine wp_region_class (C := fun Wd => Below w2.heap.size w2 Wd) (by kernel_rfl) (by kernel_rfl) HX2.out ?_
    repeat (refine wpQuiet_step (fun K hK => ?_); go_simp; first | (refine hK _ ?_; clear hK K) | (apply Exists.intro; refine ⟨fun wx hC => ?_, hK _ ?_⟩; (first | exact rfl | (simp only [md_restWidth_64]; go_simp; first | exact Calls.class_of (restWidth_64 wx) (fun w' hb => bel1 hC hb)) | (obtain ⟨q0, q1, q2, q3, -⟩ := At4.same h4 hC; go_simp; exact rfl)); clear hK K))
    refine wpQuiet_nil ?_
    intro w3 hb3
    have HU3 : Hid (UW w H L 5 sB 31 RS (fun i => W / 2 ^ (10 * (5 - 1 - i)) % 1024) w3 p gb) := HU.out.next hb3
    clear hb3 HU HX2 h4
    obtain ⟨q0, q1, q2, q3, -⟩ := HU3.out.2.1
    obtain ⟨k0, k1, k2, k3, kf⟩ := qbx_at HU3.out.1
    rcases HCs.out with ⟨rfl, hqb⟩ | ⟨hq1, hqb⟩
    · have HF : Hid (_ ∧ _) := HU3.out.fin (.int .i64 4) (.bool false) (.int .i64 0) (.string { data := #[] })
      clear HU3 HCs hqb
      go_wp2
      refine bodyPost_ret (results_num rfl _ _ rfl HF.out.1.1 HF.out.1.2.1 HF.out.1.2.2.1 HF.out.1.2.2.2.1) rfl ?_
      exact ⟨rfl, HF.out.2⟩
    · have HF : Hid (_ ∧ _) := HU3.out.fin (.int .i64 3) (.bool false) (.int .i64 0) (.string { data := #[] })
      have Hq1 : Hid (¬ Q = 1) := hq1
      clear HU3 HCs hq1
      go_wp2
      refine bodyPost_ret (results_num rfl _ _ rfl HF.out.1.1 HF.out.1.2.1 HF.out.1.2.2.1 HF.out.1.2.2.2.1) rfl ?_
      exact ⟨by first | rfl | rw [if_neg Hq1.out], HF.out.2⟩
  · obtain ⟨e1, e2, e3, e4⟩ := u_fin 8 5 398 W (by omega)
    have hE := uE_bd 8 5 W (by omega)
    have hF := uF_bd (uC 8 5 W) hcb.1 hcb.2
    have hHb : 0 ≤ uH (uC 8 5 W) ∧ uH (uC 8 5 W) ≤ 3 := by unfold uH; split <;> omega
    have hEe : bits .or .u16 (uH (uC 8 5 W) * 256) (W / 2 ^ 50 % 256) = uE 8 5 W := by
      have := Bm.join_u16 (uH (uC 8 5 W)) (W / 2 ^ 50 % 256) 8 hHb.1 (by omega) hR.1 (by omega) (by decide)
      rw [show (2 : Int) ^ 8 = 256 by decide] at this
      rw [this]
      rfl
    rw [e1, e2, e3, e4, show (2 : Int) ^ (8 + 10 * 5 + 5) = 2 ^ 63 by rfl]
    have hSL : uS 8 5 W = uF (uC 8 5 W) :: uD 5 W 5 := rfl
    rw [hSL]
    have HDT : Hid (∀ X gb, Below w.heap.size w X → gb < X.heap.size → (∀ i, i < 5 → X.cell? ⟨gb, i, none⟩ = some (.int .i64 (W / 2 ^ (10 * (5 - 1 - i)) % 1024))) → Calls Tryd.prog 35 #[.int .u8 (uF (uC 8 5 W)), .slice (some ⟨gb, 0, none⟩) 5 5] X fun e w' => e = .returned (.string (tx (strip (uF (uC 8 5 W) :: uD 5 W 5)))) ∧ Below X.heap.size X w') := fun X gb hb hg hc => digitsText_any (uF (uC 8 5 W)) W 5 gb 5 X (HT.out.below hb (Nat.le_refl _)) hF.1 hF.2 (by decide) (by decide) hg hc
    have HSp : Hid (∀ X, Calls Tryd.prog 34 #[.int .u8 (uC 8 5 W)] X fun e w' => e = .returned (.tuple #[.int .u8 (uH (uC 8 5 W)), .int .u8 (uF (uC 8 5 W))]) ∧ w' = X) := fun X => splitLead_any (uC 8 5 W) X hcb.1 hcb.2
    rw [← eC] at HCut
    have c30 : (uC 8 5 W == 30) = false := beq_eq_false_iff_ne.2 h30
    have c31 : (uC 8 5 W == 31) = false := beq_eq_false_iff_ne.2 h31
    clear e1 e2 e3 e4 h30 h31 eC hN HT hSL
    generalize decide (W / 2 ^ 63 % 2 = 1) = sB at *
    generalize W / 2 ^ 50 % 256 = RS at *
    generalize tx (strip (uF (uC 8 5 W) :: uD 5 W 5)) = TT at *
    generalize uE 8 5 W = E at *
    generalize uF (uC 8 5 W) = F at *
    generalize uH (uC 8 5 W) = Hh at *
    generalize uC 8 5 W = LD at *
    rw [show (3 : Int) * 2 ^ 8 = 768 by decide] at hE
    have hw1 : IntKind.u16.wrap Hh = Hh := by rw [IntKind.wrap_u16]; omega
    have hw2 : IntKind.u16.wrap (Hh * 256) = Hh * 256 := by rw [IntKind.wrap_u16]; omega
    have hw3 : IntKind.i64.wrap E = E := by rw [IntKind.wrap_i64]; omega
    have hw4 : IntKind.i64.wrap (E - 398) = E - 398 := by rw [IntKind.wrap_i64]; omega
    go_enter Tryd.func20, Tryd.ntmps20
    go_wp2_with fail
    refine (HCut.out _).mono ?_
    rintro r w1 ⟨gb, rfl, hg1, hc1, hb1⟩
    have HU : Hid (UW w H L 5 sB LD RS (fun i => W / 2 ^ (10 * (5 - 1 - i)) % 1024) (w1.alloc (.cells #[.bool sB, .int .u8 LD, .int .u16 RS, .slice (some ⟨gb, 0, none⟩) 5 5] 65)) w1.heap.size gb) := UW.new (qbx_next HX0.out hb1) hg1 hc1
    clear hb1 hc1 HX0 HCut
    go_upto_region 4 with fail
    generalize w1.alloc (.cells #[.bool sB, .int .u8 LD, .int .u16 RS, .slice (some ⟨gb, 0, none⟩) 5 5] 65) = w2 at *
    generalize w1.heap.size = p at *
    clear hg1 w1
    have h4 := HU.out.2.1
    have HX2 : Hid (Below w2.heap.size w2 w2.drew) := (Below.refl _ _).drew
    refine wp_region_class (C := fun Wd => Below w2.heap.size w2 Wd) (by kernel_rfl) (by kernel_rfl) HX2.out ?_
    repeat (refine wpQuiet_step (fun K hK => ?_); go_simp; first | (refine hK _ ?_; clear hK K) | (apply Exists.intro; refine ⟨fun wx hC => ?_, hK _ ?_⟩; (first | exact rfl | (simp only [md_restWidth_64]; go_simp; first | exact Calls.class_of (restWidth_64 wx) (fun w' hb => bel1 hC hb)) | (obtain ⟨q0, q1, q2, q3, -⟩ := At4.same h4 hC; go_simp; exact rfl)); clear hK K))
    refine wpQuiet_nil ?_
    intro w3 hb3
    have HU3 : Hid (UW w H L 5 sB LD RS (fun i => W / 2 ^ (10 * (5 - 1 - i)) % 1024) w3 p gb) := HU.out.next hb3
    clear hb3 HU HX2 h4
    obtain ⟨q0, q1, q2, q3, -⟩ := HU3.out.2.1
    go_wp2_with fail
    refine (HSp.out _).mono ?_
    rintro r w4 ⟨rfl, hw⟩
    obtain rfl := hw
    clear q0 q1 q2 q3
    have h4 := HU3.out.2.1
    go_upto_region 9 with fail
    have HX4 : Hid (Below w4.heap.size w4 w4.drew) := (Below.refl _ _).drew
    refine wp_region_class (C := fun Wd => Below w4.heap.size w4 Wd) (by kernel_rfl) (by kernel_rfl) HX4.out ?_
    repeat (refine wpQuiet_step (fun K hK => ?_); go_simp; first | (refine hK _ ?_; clear hK K) | (apply Exists.intro; refine ⟨fun wx hC => ?_, hK _ ?_⟩; (first | exact rfl | (simp only [md_restWidth_64]; go_simp; first | exact Calls.class_of (restWidth_64 wx) (fun w' hb => bel1 hC hb)) | (obtain ⟨q0, q1, q2, q3, -⟩ := At4.same h4 hC; go_simp; exact rfl)); clear hK K))
    refine wpQuiet_nil ?_
    intro w5 hb5
    have HU5 : Hid (UW w H L 5 sB LD RS (fun i => W / 2 ^ (10 * (5 - 1 - i)) % 1024) w5 p gb) := HU3.out.next hb5
    clear hb5 HU3 HX4 h4 hw1 hw2 hEe c30 c31
    obtain ⟨q0, q1, q2, q3, -⟩ := HU5.out.2.1
    have HDq : Hid (∀ X, Below w5.heap.size w5 X → Calls Tryd.prog 35 #[.int .u8 F, .slice (some ⟨gb, 0, none⟩) 5 5] X fun e w' => e = .returned (.string TT) ∧ Below X.heap.size X w') := fun X hb => HDT.out X gb (qbx_out (qbx_next HU5.out.1 hb)) (HU5.out.next hb).2.2.1 (HU5.out.next hb).2.2.2
    clear HDT
    go_upto_region 10 with fail
    go_region_with (first
      | (go_at_call 101; refine (bias_64 _).mono ?_; rintro r w6 ⟨rfl, hb6⟩; first | (have HA6 := bel1 hb7a hb6; obtain ⟨s0, s1, s2, s3, -⟩ := At4.same HU5.out.2.1 HA6; obtain ⟨m0, m1, m2, m3, mf⟩ := qbx_at (qbx_next HU5.out.1 HA6); have HF : Hid (_ ∧ _) := (HU5.out.next HA6).fin (.int .i64 1) (.bool sB) (.int .i64 (E - 398)) (.string TT)) | (have hb6a : Below w5.heap.size w5 w6 := up_drew hb6; obtain ⟨s0, s1, s2, s3, -⟩ := At4.same HU5.out.2.1 hb6a))
      | (go_at_call 35; refine (HDq.out _ (by first | exact (Below.refl _ _).drew | exact hb6a)).mono ?_; rintro r w7 ⟨rfl, hb7⟩; first | (have HA7 := bel1 hb6a hb7; obtain ⟨t0, t1, t2, t3, -⟩ := At4.same HU5.out.2.1 HA7; obtain ⟨m0, m1, m2, m3, mf⟩ := qbx_at (qbx_next HU5.out.1 HA7); have HF : Hid (_ ∧ _) := (HU5.out.next HA7).fin (.int .i64 1) (.bool sB) (.int .i64 (E - 398)) (.string TT)) | (have hb7a : Below w5.heap.size w5 w7 := up_drew hb7; obtain ⟨t0, t1, t2, t3, -⟩ := At4.same HU5.out.2.1 hb7a)))
    all_goals
      go_wp2
      refine bodyPost_ret (results_num rfl _ _ rfl HF.out.1.1 HF.out.1.2.1 HF.out.1.2.2.1 HF.out.1.2.2.2.1) rfl ?_
      exact ⟨rfl, HF.out.2⟩
end Go.Proofs.YtmjkpjmccdjkjadDoor
