/-
  Quantize of the program in one word, walked.
-/
import Derived.Test.YtcflomcankcggafGreatDoorExi
namespace Go.Proofs.YtcflomcankcggafGreatDoor
open Go.RowKit
set_option linter.unusedVariables false
set_option maxRecDepth 100000
set_option maxRecDepth 100000 in
set_option maxHeartbeats 2000000 in
theorem quantize1_any (p : Nat) (f mode : Int) (ka : Int) (na : Bool) (ea : Int) (sa : ByteArray) (kb : Int) (nb : Bool) (eb : Int) (sb : ByteArray) (X : World) (hm : 1 ≤ mode ∧ mode ≤ 5) (hr : Rgn f ka ea sa) (hrb : Rgn f kb eb sb) (hC : Cp2 X p f mode ka na ea sa kb nb eb sb) :
    Calls Tryz.prog 91 #[.pointer (some ⟨p + 2, 0, none⟩), .pointer (some ⟨p + 3, 0, none⟩), .pointer (some ⟨p, 0, none⟩), .pointer (some ⟨p + 1, 0, none⟩)] X fun x w' => (x = .returned (rsD (qzX f mode ka na ea sa kb eb).1 (qzX f mode ka na ea sa kb eb).2) ∨ x = thrown (rsD (qzX f mode ka na ea sa kb eb).1 (qzX f mode ka na ea sa kb eb).2)) ∧ Below X.heap.size X w' := by
  have hb0 : Below X.heap.size X (X.alloc (.cells #[.int .i64 0, .bool false, .int .i64 0, .string { data := #[] }, .int .i64 0] 29)) := (Below.refl _ _).alloc (Nat.le_refl _) _
  have HZ : Hid (At5 (X.alloc (.cells #[.int .i64 0, .bool false, .int .i64 0, .string { data := #[] }, .int .i64 0] 29)) X.heap.size (.int .i64 0) (.bool false) (.int .i64 0) (.string { data := #[] }) (.int .i64 0) ∧ Below X.heap.size X (X.alloc (.cells #[.int .i64 0, .bool false, .int .i64 0, .string { data := #[] }, .int .i64 0] 29)) ∧ Cp2 (X.alloc (.cells #[.int .i64 0, .bool false, .int .i64 0, .string { data := #[] }, .int .i64 0] 29)) p f mode ka na ea sa kb nb eb sb) := ⟨at5_new X _ _ _ _ _, hb0, hC.next hb0⟩
  obtain ⟨R, hR⟩ : ∃ R, qzX f mode ka na ea sa kb eb = R := ⟨_, rfl⟩
  rw [hR]
  unfold qzX at hR
  obtain ⟨q0, q1, qa, qb⟩ := HZ.out.2.2
  obtain ⟨a0, a1, a2, a3, a4⟩ := qa.cells
  obtain ⟨c0, c1, c2, c3, c4⟩ := qb.cells
  clear qa qb hb0 hC
  have HRm : Hid (∀ Y, Calls Tryz.prog 72 #[.int .i64 f] Y fun x w' => ∃ b, x = .returned (RmV b) ∧ w'.cell? ⟨b, 0, none⟩ = some (.int .i64 (limP f)) ∧ Y.heap.size ≤ b ∧ b < w'.heap.size ∧ Below Y.heap.size Y w') := fun Y => roomIn_any f Y
  by_cases hA : ka = 2
  · subst hA
    obtain ⟨e0, s0⟩ := hr.2.2.2.2 rfl
    subst e0 s0
    by_cases hB : kb = 2
    · subst hB
      rw [if_pos ⟨rfl, rfl⟩] at hR
      subst hR
      have hbr := build_res0 2 na 0 { data := #[] }
      clear hr hrb hm HRm
      have HZ1 : Hid (At5 (X.alloc (.cells #[.int .i64 0, .bool false, .int .i64 0, .string { data := #[] }, .int .i64 0] 29)) X.heap.size (.int .i64 0) (.bool false) (.int .i64 0) (.string { data := #[] }) (.int .i64 0) ∧ Below X.heap.size X (X.alloc (.cells #[.int .i64 0, .bool false, .int .i64 0, .string { data := #[] }, .int .i64 0] 29))) := ⟨HZ.out.1, HZ.out.2.1⟩
      clear HZ
      go_enter Tryz.func91, Tryz.ntmps91
      go_wp2_with (refine wpList_store_row rfl 29 (.tmp 4) (.tmp 17) rfl X.heap.size #[.int .i64 2, .bool na, .int .i64 0, .string { data := #[] }, .int .i64 0] rfl rfl _ _ HZ1.out.1 (by kernel_rfl) rfl (one5 _ _ _ _ _) ?_)
      have hP := (HZ1.out.1.row (.int .i64 2) (.bool na) (.int .i64 0) (.string { data := #[] }) (.int .i64 0)).cells
      refine bodyPost_ret (results_res rfl _ _ rfl hP.1 hP.2.1 hP.2.2.1 hP.2.2.2.1 hP.2.2.2.2.1) rfl ?_
      exact ⟨.inl rfl, bel_row HZ1.out.2 (Nat.le_refl _) _⟩
    · rw [if_neg (fun c => hB c.2), if_pos (.inl rfl)] at hR
      subst hR
      have hkb : (kb == 2) = false := beq_eq_false_iff_ne.2 hB
      clear hr hrb hm hB
      go_enter Tryz.func91, Tryz.ntmps91
      go_wp2_with fail
      refine (HRm.out _).mono ?_
      rintro x w1 ⟨b, rfl, hb, hle, hlt, hb1⟩
      have HZ1 : Hid (Below X.heap.size X w1 ∧ Cp2 w1 p f mode 2 na 0 { data := #[] } kb nb eb sb) := ⟨HZ.out.2.1.trans (hb1.mono HZ.out.2.1.size), HZ.out.2.2.next hb1⟩
      clear hb hle hlt hb1 HZ HRm q0 q1 a0 a1 a2 a3 a4 c0 c1 c2 c3 c4
      obtain ⟨q0, q1, qa, qb⟩ := HZ1.out.2
      obtain ⟨a0, a1, a2, a3, a4⟩ := qa.cells
      obtain ⟨c0, c1, c2, c3, c4⟩ := qb.cells
      clear qa qb
      go_upto_region 4 with fail
      go_quiet (fail)
      have HB2 : Hid (Below X.heap.size X (w1.drewN nq)) := below_drewN HZ1.out.1 nq
      generalize w1.drewN nq = w2 at *
      clear HZ1 q0 q1 a0 a1 a2 a3 a4 c0 c1 c2 c3 c4
      go_wp2_with fail
      refine (iInvalid_any _).mono ?_
      rintro x w4 ⟨rfl, hb4⟩
      go_wp2
      exact ⟨rfl, .inr rfl, HB2.out.trans (hb4.mono HB2.out.size)⟩
  · have hk1 : ka = 1 := hr.2.2.1.resolve_right hA
    subst hk1
    rw [if_neg (fun c => hA c.1)] at hR
    by_cases hB : kb = 2
    · rw [if_pos (.inr hB)] at hR
      subst hR hB
      clear hr hrb hm hA
      go_enter Tryz.func91, Tryz.ntmps91
      go_wp2_with fail
      refine (HRm.out _).mono ?_
      rintro x w1 ⟨b, rfl, hb, hle, hlt, hb1⟩
      have HZ1 : Hid (Below X.heap.size X w1 ∧ Cp2 w1 p f mode 1 na ea sa 2 nb eb sb) := ⟨HZ.out.2.1.trans (hb1.mono HZ.out.2.1.size), HZ.out.2.2.next hb1⟩
      clear hb hle hlt hb1 HZ HRm q0 q1 a0 a1 a2 a3 a4 c0 c1 c2 c3 c4
      obtain ⟨q0, q1, qa, qb⟩ := HZ1.out.2
      obtain ⟨a0, a1, a2, a3, a4⟩ := qa.cells
      obtain ⟨c0, c1, c2, c3, c4⟩ := qb.cells
      clear qa qb
      go_upto_region 4 with fail
      go_quiet (fail)
      have HB2 : Hid (Below X.heap.size X (w1.drewN nq)) := below_drewN HZ1.out.1 nq
      generalize w1.drewN nq = w2 at *
      clear HZ1 q0 q1 a0 a1 a2 a3 a4 c0 c1 c2 c3 c4
      go_wp2_with fail
      refine (iInvalid_any _).mono ?_
      rintro x w4 ⟨rfl, hb4⟩
      go_wp2
      exact ⟨rfl, .inr rfl, HB2.out.trans (hb4.mono HB2.out.size)⟩
    · have hkb1 : kb = 1 := hrb.2.2.1.resolve_right hB
      subst hkb1
      rw [if_neg (fun c => c.elim hA hB)] at hR
      clear hA hB
      obtain ⟨hs, nk, v0, -, l34, l1, hz, he⟩ := hr.tn rfl
      obtain ⟨-, -, -, -, -, -, -, heb⟩ := hrb.tn rfl
      obtain ⟨hc, hlp, -, -⟩ := hr.2.2.2.1 rfl
      have hL := lims f hr.1
      have hbd := vl_bd (dl sa) hc.1
      have hP : 0 ≤ limP f ∧ limP f ≤ 34 := by omega
      have HNo : Hid (∀ Y, Calls Tryz.prog 82 #[numV 1 na ea sa] Y fun x w' => x = .returned (.bool (decide (vl (dl sa) = 0))) ∧ Below Y.heap.size Y w') := fun Y => isNought_rgn hr na Y
      have hwe : IntKind.i64.wrap (ea - eb) = ea - eb := by rw [IntKind.wrap_i64]; omega
      by_cases hbig : vl (dl sa) ≠ 0 ∧ limP f < (dl sa).length + (ea - eb)
      · rw [if_pos hbig] at hR
        subst hR
        rw [decide_eq_false hbig.1] at HNo
        have hgt : limP f - (sa.size : Int) < ea - eb := by have := hbig.2; omega
        have HR1 : Hid (∀ (b : Nat) Y, Y.cell? ⟨b, 0, none⟩ = some (.int .i64 (limP f)) → Calls Tryz.prog 112 #[.string sa, .pointer (some ⟨b, 0, none⟩)] Y fun x w' => x = .returned (.int .i64 (limP f - sa.size)) ∧ w' = Y) := fun b Y h => room1_any b (limP f) sa Y h hP hr.small
        have HE : Hid (∀ args w, (callFunc 112 args).run Tryz.prog w = .ok (.enter 112 args) w) := enters_of Tryz.func112 (by kernel_rfl) rfl
        clear hr hrb hm hs nk v0 l34 l1 hz he heb hc hlp hL hbd hP hbig
        generalize limP f = P at *
        generalize P - (sa.size : Int) = room at *
        go_enter Tryz.func91, Tryz.ntmps91
        go_wp2_with fail
        refine (HRm.out _).mono ?_
        rintro x w1 ⟨b, rfl, hb, hle, hlt, hb1⟩
        have HZ1 : Hid (Below X.heap.size X w1 ∧ Cp2 w1 p f mode 1 na ea sa 1 nb eb sb ∧ w1.cell? ⟨b, 0, none⟩ = some (.int .i64 P) ∧ b < w1.heap.size) := ⟨HZ.out.2.1.trans (hb1.mono HZ.out.2.1.size), HZ.out.2.2.next hb1, hb, hlt⟩
        clear hb hle hlt hb1 HZ HRm q0 q1 a0 a1 a2 a3 a4 c0 c1 c2 c3 c4
        unfold RmV
        go_upto_region 4 with fail
        have HX0 : Hid (Below w1.heap.size w1 w1.drew) := (Below.refl _ _).drew
        have hE := HE.out
        refine wp_region_class (C := fun W => Below w1.heap.size w1 W) (by kernel_rfl) (by kernel_rfl) HX0.out ?_
        repeat (refine wpQuiet_step (fun K hK => ?_); go_simp; first | (refine hK _ ?_; clear hK K) | (apply Exists.intro; refine ⟨fun wx hC => ?_, hK _ ?_⟩; (first | exact rfl | ((with_reducible refine Calls.class_of (HNo.out wx) ?_); exact fun w' hb => bel1 hC hb) | ((with_reducible refine (HR1.out b wx ((hC.cell (p := ⟨b, 0, none⟩) HZ1.out.2.2.2).trans HZ1.out.2.2.1)).mono ?_); rintro x w' ⟨rfl, rfl⟩; exact ⟨rfl, hC⟩) | (obtain ⟨a0, a1, a2, a3, a4⟩ := (HZ1.out.2.1.next hC).2.2.1.cells; go_simp; exact rfl) | (obtain ⟨a0, a1, a2, a3, a4⟩ := (HZ1.out.2.1.next hC).2.2.2.cells; go_simp; exact rfl)); clear hK K))
        refine wpQuiet_nil ?_
        intro w2 hb2
        have HB2 : Hid (Below X.heap.size X w2) := HZ1.out.1.trans (hb2.mono HZ1.out.1.size)
        clear hb2 HZ1 HX0 HNo HR1
        go_wp2_with fail
        refine (iInvalid_any _).mono ?_
        rintro x w4 ⟨rfl, hb4⟩
        go_wp2
        exact ⟨rfl, .inr rfl, HB2.out.trans (hb4.mono HB2.out.size)⟩
      · rw [if_neg hbig] at hR
        have hroom : vl (dl sa) ≠ 0 → (dl sa).length + (ea - eb) ≤ 34 := fun h => by
          have : ¬ limP f < (dl sa).length + (ea - eb) := fun c => hbig ⟨h, c⟩
          omega
        obtain ⟨nk2, w1', w2'⟩ := wx_told mode na (vl (dl sa)) ea eb (dl sa).length v0 hbd.2 l34 hroom
        have hWx := fun Y => withExp_any mode hm na ea (vl (dl sa)) eb Y he heb nk nk2
        obtain ⟨T3, hT3⟩ : ∃ T, tx (nt (rndV mode na (vl (dl sa) * 10 ^ (plc (ea - eb)).toNat) (plc (eb - ea)).toNat false)) = T := ⟨_, rfl⟩
        obtain ⟨lo, hlo⟩ : ∃ l, rndL (vl (dl sa) * 10 ^ (plc (ea - eb)).toNat) (plc (eb - ea)).toNat false = l := ⟨_, rfl⟩
        rw [hT3, hlo] at hWx
        have HWx : Hid (∀ Y, Calls Tryz.prog 92 #[.int .i64 mode, numV 1 na ea sa, .int .i64 eb] Y fun x w' => x = .returned (.tuple #[numV 1 na eb (T3), .bool lo]) ∧ Below Y.heap.size Y w') := fun Y => by
          have := hWx Y
          rw [← hs] at this
          exact this
        have ER : Hid (R = (na, (1, eb, T3, if lo then 16 else 0))) := by
          show _ = _
          rw [← hR]
          by_cases c : eb ≤ ea
          · rw [if_pos c, ← hT3, ← hlo, (w1' c).1, (w1' c).2]; rfl
          · rw [if_neg c, ← hT3, ← hlo, (w2' c).1, (w2' c).2]
        have HR1 : Hid (∀ (b : Nat) Y, Y.cell? ⟨b, 0, none⟩ = some (.int .i64 (limP f)) → Calls Tryz.prog 112 #[.string sa, .pointer (some ⟨b, 0, none⟩)] Y fun x w' => x = .returned (.int .i64 (limP f - sa.size)) ∧ w' = Y) := fun b Y h => room1_any b (limP f) sa Y h hP hr.small
        have HE : Hid (∀ args w, (callFunc 112 args).run Tryz.prog w = .ok (.enter 112 args) w) := enters_of Tryz.func112 (by kernel_rfl) rfl
        have hgt : vl (dl sa) ≠ 0 → ¬ (limP f - (sa.size : Int) < ea - eb) := fun h c => hbig ⟨h, by omega⟩
        clear hr hrb hm hs nk v0 l34 l1 hz he heb hc hlp hL hbd hP hbig hroom nk2 w1' w2' hWx hT3 hlo hR
        generalize limP f = P at *
        generalize P - (sa.size : Int) = room at *
        by_cases hv : vl (dl sa) = 0
        · rw [decide_eq_true hv] at HNo
          clear hgt hv HR1
          go_enter Tryz.func91, Tryz.ntmps91
          go_wp2_with fail
          refine (HRm.out _).mono ?_
          rintro x w1 ⟨b, rfl, hb, hle, hlt, hb1⟩
          have HZ1 : Hid (At5 w1 X.heap.size (.int .i64 0) (.bool false) (.int .i64 0) (.string { data := #[] }) (.int .i64 0) ∧ Below X.heap.size X w1 ∧ Cp2 w1 p f mode 1 na ea sa 1 nb eb sb ∧ w1.cell? ⟨b, 0, none⟩ = some (.int .i64 P) ∧ b < w1.heap.size) := ⟨HZ.out.1.below hb1 HZ.out.1.lt, HZ.out.2.1.trans (hb1.mono HZ.out.2.1.size), HZ.out.2.2.next hb1, hb, hlt⟩
          clear hb hle hlt hb1 HZ HRm q0 q1 a0 a1 a2 a3 a4 c0 c1 c2 c3 c4
          unfold RmV
          go_upto_region 4 with fail
          have HX0 : Hid (Below w1.heap.size w1 w1.drew) := (Below.refl _ _).drew
          refine wp_region_class (C := fun W => Below w1.heap.size w1 W) (by kernel_rfl) (by kernel_rfl) HX0.out ?_
          repeat (first | go_big_quiet_skip | (refine wpQuiet_step ?_; intro K hK; go_simp; first | go_big_quiet_on | (apply Exists.intro; refine ⟨fun wx hC => ?_, ?_⟩; (first | exact rfl | ((with_reducible refine Calls.class_of (HNo.out wx) ?_); exact fun w' hb => bel1 hC hb) | (obtain ⟨a0, a1, a2, a3, a4⟩ := (HZ1.out.2.2.1.next hC).2.2.1.cells; go_simp; exact rfl) | (obtain ⟨a0, a1, a2, a3, a4⟩ := (HZ1.out.2.2.1.next hC).2.2.2.cells; go_simp; exact rfl)); go_big_quiet_on)))
          refine wpQuiet_nil ?_
          intro w2 hb2
          have HZ2 : Hid (At5 w2 X.heap.size (.int .i64 0) (.bool false) (.int .i64 0) (.string { data := #[] }) (.int .i64 0) ∧ Below X.heap.size X w2 ∧ Cp2 w2 p f mode 1 na ea sa 1 nb eb sb) := ⟨HZ1.out.1.below hb2 HZ1.out.1.lt, HZ1.out.2.1.trans (hb2.mono HZ1.out.2.1.size), HZ1.out.2.2.1.next hb2⟩
          clear hb2 HZ1 HX0 HNo
          obtain ⟨q0, q1, qa, qb⟩ := HZ2.out.2.2
          obtain ⟨a0, a1, a2, a3, a4⟩ := qa.cells
          obtain ⟨c0, c1, c2, c3, c4⟩ := qb.cells
          clear qa qb
          go_wp2_with fail
          refine (HWx.out _).mono ?_
          rintro x w3 ⟨rfl, hb3⟩
          have hb4 : Below w3.heap.size w3 (w3.alloc (.cells #[.int .i64 1, .bool na, .int .i64 eb, .string T3] 25)) := (Below.refl _ _).alloc (Nat.le_refl _) _
          have HZ0 : At5 w3 X.heap.size (.int .i64 0) (.bool false) (.int .i64 0) (.string { data := #[] }) (.int .i64 0) ∧ Below X.heap.size X w3 := ⟨HZ2.out.1.below hb3 HZ2.out.1.lt, HZ2.out.2.1.trans (hb3.mono HZ2.out.2.1.size)⟩
          have HZ4 : Hid (At5 (w3.alloc (.cells #[.int .i64 1, .bool na, .int .i64 eb, .string T3] 25)) X.heap.size (.int .i64 0) (.bool false) (.int .i64 0) (.string { data := #[] }) (.int .i64 0) ∧ Below X.heap.size X (w3.alloc (.cells #[.int .i64 1, .bool na, .int .i64 eb, .string T3] 25))) := ⟨HZ0.1.below hb4 HZ0.1.lt, HZ0.2.trans (hb4.mono HZ0.2.size)⟩
          clear hb3 hb4 HZ2 HZ0 HWx q0 q1 a0 a1 a2 a3 a4 c0 c1 c2 c3 c4
          cases lo with
          | true =>
            have hbr := build_res 1 na eb T3 16
            go_wp2_with (refine wpList_store_row rfl 29 (.tmp 4) (.tmp 57) rfl X.heap.size #[.int .i64 1, .bool na, .int .i64 eb, .string T3, .int .i64 16] rfl rfl _ _ HZ4.out.1 (by kernel_rfl) rfl (one5 _ _ _ _ _) ?_)
            have hP := (HZ4.out.1.row (.int .i64 1) (.bool na) (.int .i64 eb) (.string T3) (.int .i64 16)).cells
            refine bodyPost_ret (results_res rfl _ _ rfl hP.1 hP.2.1 hP.2.2.1 hP.2.2.2.1 hP.2.2.2.2.1) rfl ?_
            exact ⟨.inl (by rw [ER.out]; rfl), bel_row HZ4.out.2 (Nat.le_refl _) _⟩
          | false =>
            have hbr := build_res0 1 na eb T3
            go_wp2_with (refine wpList_store_row rfl 29 (.tmp 4) (.tmp 59) rfl X.heap.size #[.int .i64 1, .bool na, .int .i64 eb, .string T3, .int .i64 0] rfl rfl _ _ HZ4.out.1 (by kernel_rfl) rfl (one5 _ _ _ _ _) ?_)
            have hP := (HZ4.out.1.row (.int .i64 1) (.bool na) (.int .i64 eb) (.string T3) (.int .i64 0)).cells
            refine bodyPost_ret (results_res rfl _ _ rfl hP.1 hP.2.1 hP.2.2.1 hP.2.2.2.1 hP.2.2.2.2.1) rfl ?_
            exact ⟨.inl (by rw [ER.out]; rfl), bel_row HZ4.out.2 (Nat.le_refl _) _⟩
        · rw [decide_eq_false hv] at HNo
          have hgt2 := hgt hv
          clear hgt hv
          go_enter Tryz.func91, Tryz.ntmps91
          go_wp2_with fail
          refine (HRm.out _).mono ?_
          rintro x w1 ⟨b, rfl, hb, hle, hlt, hb1⟩
          have HZ1 : Hid (At5 w1 X.heap.size (.int .i64 0) (.bool false) (.int .i64 0) (.string { data := #[] }) (.int .i64 0) ∧ Below X.heap.size X w1 ∧ Cp2 w1 p f mode 1 na ea sa 1 nb eb sb ∧ w1.cell? ⟨b, 0, none⟩ = some (.int .i64 P) ∧ b < w1.heap.size) := ⟨HZ.out.1.below hb1 HZ.out.1.lt, HZ.out.2.1.trans (hb1.mono HZ.out.2.1.size), HZ.out.2.2.next hb1, hb, hlt⟩
          clear hb hle hlt hb1 HZ HRm q0 q1 a0 a1 a2 a3 a4 c0 c1 c2 c3 c4
          unfold RmV
          go_upto_region 4 with fail
          have HX0 : Hid (Below w1.heap.size w1 w1.drew) := (Below.refl _ _).drew
          have hE := HE.out
          refine wp_region_class (C := fun W => Below w1.heap.size w1 W) (by kernel_rfl) (by kernel_rfl) HX0.out ?_
          repeat (refine wpQuiet_step (fun K hK => ?_); go_simp; first | (refine hK _ ?_; clear hK K) | (apply Exists.intro; refine ⟨fun wx hC => ?_, hK _ ?_⟩; (first | exact rfl | ((with_reducible refine Calls.class_of (HNo.out wx) ?_); exact fun w' hb => bel1 hC hb) | ((with_reducible refine (HR1.out b wx ((hC.cell (p := ⟨b, 0, none⟩) HZ1.out.2.2.2.2).trans HZ1.out.2.2.2.1)).mono ?_); rintro x w' ⟨rfl, rfl⟩; exact ⟨rfl, hC⟩) | (obtain ⟨a0, a1, a2, a3, a4⟩ := (HZ1.out.2.2.1.next hC).2.2.1.cells; go_simp; exact rfl) | (obtain ⟨a0, a1, a2, a3, a4⟩ := (HZ1.out.2.2.1.next hC).2.2.2.cells; go_simp; exact rfl)); clear hK K))
          refine wpQuiet_nil ?_
          intro w2 hb2
          have HZ2 : Hid (At5 w2 X.heap.size (.int .i64 0) (.bool false) (.int .i64 0) (.string { data := #[] }) (.int .i64 0) ∧ Below X.heap.size X w2 ∧ Cp2 w2 p f mode 1 na ea sa 1 nb eb sb) := ⟨HZ1.out.1.below hb2 HZ1.out.1.lt, HZ1.out.2.1.trans (hb2.mono HZ1.out.2.1.size), HZ1.out.2.2.1.next hb2⟩
          clear hb2 HZ1 HX0 HNo
          obtain ⟨q0, q1, qa, qb⟩ := HZ2.out.2.2
          obtain ⟨a0, a1, a2, a3, a4⟩ := qa.cells
          obtain ⟨c0, c1, c2, c3, c4⟩ := qb.cells
          clear qa qb
          go_wp2_with fail
          refine (HWx.out _).mono ?_
          rintro x w3 ⟨rfl, hb3⟩
          have hb4 : Below w3.heap.size w3 (w3.alloc (.cells #[.int .i64 1, .bool na, .int .i64 eb, .string T3] 25)) := (Below.refl _ _).alloc (Nat.le_refl _) _
          have HZ0 : At5 w3 X.heap.size (.int .i64 0) (.bool false) (.int .i64 0) (.string { data := #[] }) (.int .i64 0) ∧ Below X.heap.size X w3 := ⟨HZ2.out.1.below hb3 HZ2.out.1.lt, HZ2.out.2.1.trans (hb3.mono HZ2.out.2.1.size)⟩
          have HZ4 : Hid (At5 (w3.alloc (.cells #[.int .i64 1, .bool na, .int .i64 eb, .string T3] 25)) X.heap.size (.int .i64 0) (.bool false) (.int .i64 0) (.string { data := #[] }) (.int .i64 0) ∧ Below X.heap.size X (w3.alloc (.cells #[.int .i64 1, .bool na, .int .i64 eb, .string T3] 25))) := ⟨HZ0.1.below hb4 HZ0.1.lt, HZ0.2.trans (hb4.mono HZ0.2.size)⟩
          clear hb3 hb4 HZ2 HZ0 HWx q0 q1 a0 a1 a2 a3 a4 c0 c1 c2 c3 c4
          cases lo with
          | true =>
            have hbr := build_res 1 na eb T3 16
            go_wp2_with (refine wpList_store_row rfl 29 (.tmp 4) (.tmp 57) rfl X.heap.size #[.int .i64 1, .bool na, .int .i64 eb, .string T3, .int .i64 16] rfl rfl _ _ HZ4.out.1 (by kernel_rfl) rfl (one5 _ _ _ _ _) ?_)
            have hP := (HZ4.out.1.row (.int .i64 1) (.bool na) (.int .i64 eb) (.string T3) (.int .i64 16)).cells
            refine bodyPost_ret (results_res rfl _ _ rfl hP.1 hP.2.1 hP.2.2.1 hP.2.2.2.1 hP.2.2.2.2.1) rfl ?_
            exact ⟨.inl (by rw [ER.out]; rfl), bel_row HZ4.out.2 (Nat.le_refl _) _⟩
          | false =>
            have hbr := build_res0 1 na eb T3
            go_wp2_with (refine wpList_store_row rfl 29 (.tmp 4) (.tmp 59) rfl X.heap.size #[.int .i64 1, .bool na, .int .i64 eb, .string T3, .int .i64 0] rfl rfl _ _ HZ4.out.1 (by kernel_rfl) rfl (one5 _ _ _ _ _) ?_)
            have hP := (HZ4.out.1.row (.int .i64 1) (.bool na) (.int .i64 eb) (.string T3) (.int .i64 0)).cells
            refine bodyPost_ret (results_res rfl _ _ rfl hP.1 hP.2.1 hP.2.2.1 hP.2.2.2.1 hP.2.2.2.2.1) rfl ?_
            exact ⟨.inl (by rw [ER.out]; rfl), bel_row HZ4.out.2 (Nat.le_refl _) _⟩
end Go.Proofs.YtcflomcankcggafGreatDoor
namespace Go.Proofs.YtcflomcankcggafGreatDoor
open Go.RowKit
set_option linter.unusedVariables false
set_option maxRecDepth 100000
set_option maxRecDepth 100000 in
set_option maxHeartbeats 1000000 in
theorem iQuantize_any (f mode : Int) (ka : Int) (na : Bool) (ea : Int) (sa : ByteArray) (kb : Int) (nb : Bool) (eb : Int) (sb : ByteArray) (w : World) (hsa : sa.size ≤ 4611686018427387904) (hsb : sb.size ≤ 4611686018427387904) :
    Calls Tryz.prog 32 #[.int .i64 f, .int .i64 mode, numV ka na ea sa, numV kb nb eb sb] w fun x w' => x = .returned (rsD (qzR f mode ka na ea sa kb nb eb sb).1 (qzR f mode ka na ea sa kb nb eb sb).2) ∧ Below w.heap.size w w' := by
  have hmf : ∀ (fn : Fn) (first cap : Array Value) (w : World), (Instr.makeFunc fn first cap).run Tryz.prog w = .ok (.func fn first cap) w := fun _ _ _ _ => rfl
  have HE : Hid (∀ args w, (callFunc 91 args).run Tryz.prog w = .ok (.enter 91 args) w) := enters_of Tryz.func91 (by kernel_rfl) rfl
  obtain ⟨W, hW⟩ : ∃ W, cp2W w f mode ka na ea sa kb nb eb sb = W := ⟨_, rfl⟩
  have hN := cp2_new w f mode ka na ea sa kb nb eb sb
  rw [hW] at hN
  have hb5 : Below W.heap.size W (W.alloc (.cells #[.int .i64 ka, .bool na, .int .i64 ea, .string sa, .int .i64 kb, .bool nb, .int .i64 eb, .string sb] 25)) := (Below.refl _ _).alloc (Nat.le_refl _) _
  obtain ⟨hrw, hlt⟩ := row2_new W ka na ea sa kb nb eb sb
  have HO : Hid (Calls Tryz.prog 69 #[.int .i64 f, .int .i64 mode, .func (.func 91) #[] #[.pointer (some ⟨w.heap.size + 2, 0, none⟩), .pointer (some ⟨w.heap.size + 3, 0, none⟩), .pointer (some ⟨w.heap.size, 0, none⟩), .pointer (some ⟨w.heap.size + 1, 0, none⟩)], .slice (some ⟨W.heap.size, 0, none⟩) 2 2] (W.alloc (.cells #[.int .i64 ka, .bool na, .int .i64 ea, .string sa, .int .i64 kb, .bool nb, .int .i64 eb, .string sb] 25)) fun x w' => x = .returned (rsD (qzR f mode ka na ea sa kb nb eb sb).1 (qzR f mode ka na ea sa kb nb eb sb).2) ∧ Below (W.alloc (.cells #[.int .i64 ka, .bool na, .int .i64 ea, .string sa, .int .i64 kb, .bool nb, .int .i64 eb, .string sb] 25)).heap.size (W.alloc (.cells #[.int .i64 ka, .bool na, .int .i64 ea, .string sa, .int .i64 kb, .bool nb, .int .i64 eb, .string sb] 25)) w') :=
    ofNumbers_any f mode 91 _ HE.out 2 W.heap.size (tw2 ka kb) (tw2 na nb) (tw2 ea eb) (tw2 sa sb) (qzX f mode ka na ea sa kb eb) _ (by decide) (by decide) hlt hrw (fun i hi => by match i, hi with
      | 0, _ => exact hsa
      | 1, _ => exact hsb) (fun h1 h2 Y hY => by
      obtain ⟨hm, hr, hrb⟩ := rgn_two h1 h2
      exact quantize1_any w.heap.size f mode ka na ea sa kb nb eb sb Y hm hr hrb ((hN.1.next hb5).next hY))
  have HZ : Hid (At5 (W.alloc (.cells #[.int .i64 ka, .bool na, .int .i64 ea, .string sa, .int .i64 kb, .bool nb, .int .i64 eb, .string sb] 25)) (w.heap.size + 4) (.int .i64 0) (.bool false) (.int .i64 0) (.string { data := #[] }) (.int .i64 0) ∧ Below w.heap.size w (W.alloc (.cells #[.int .i64 ka, .bool na, .int .i64 ea, .string sa, .int .i64 kb, .bool nb, .int .i64 eb, .string sb] 25))) := ⟨hN.2.1.below hb5 hN.2.1.lt, hN.2.2.1.trans (hb5.mono hN.2.2.1.size)⟩
  rw [hN.2.2.2] at HO
  obtain ⟨q0, q1, qa, qb⟩ := hN.1
  obtain ⟨a0, a1, a2, a3, -⟩ := qa.cells
  obtain ⟨c0, c1, c2, c3, -⟩ := qb.cells
  rw [← hW] at HO HZ q0 q1 a0 a1 a2 a3 c0 c1 c2 c3
  clear hW hN hb5 hrw hlt hsa hsb HE qa qb
  generalize qzR f mode ka na ea sa kb nb eb sb = R at *
  obtain ⟨R0, F1, F2, F3, F4⟩ := R
  go_enter Tryz.func32, Tryz.ntmps32
  go_wp2_with fail
  refine HO.out.mono ?_
  rintro x w1 ⟨rfl, hb1⟩
  have HZ1 : Hid (At5 w1 (w.heap.size + 4) (.int .i64 0) (.bool false) (.int .i64 0) (.string { data := #[] }) (.int .i64 0) ∧ Below w.heap.size w w1) := ⟨HZ.out.1.below hb1 HZ.out.1.lt, HZ.out.2.trans (hb1.mono HZ.out.2.size)⟩
  clear hb1 HZ HO q0 q1 a0 a1 a2 a3 c0 c1 c2 c3
  go_wp2_with (refine wpList_store_row rfl 29 (.tmp 8) (.tmp 15) rfl (w.heap.size + 4) #[.int .i64 F1, .bool R0, .int .i64 F2, .string F3, .int .i64 F4] rfl rfl _ _ HZ1.out.1 (by kernel_rfl) rfl (one5 _ _ _ _ _) ?_)
  have hP := (HZ1.out.1.row (.int .i64 F1) (.bool R0) (.int .i64 F2) (.string F3) (.int .i64 F4)).cells
  refine bodyPost_ret (results_res rfl _ _ rfl hP.1 hP.2.1 hP.2.2.1 hP.2.2.2.1 hP.2.2.2.2.1) rfl ?_
  exact ⟨rfl, bel_row HZ1.out.2 (by omega) _⟩
end Go.Proofs.YtcflomcankcggafGreatDoor
