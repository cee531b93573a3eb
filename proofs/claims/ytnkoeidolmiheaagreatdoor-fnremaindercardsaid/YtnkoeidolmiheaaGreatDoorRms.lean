/-
  Remainder of the model, walked.
-/
import Derived.Test.YtnkoeidolmiheaaGreatDoorDvs
import Derived.Test.YtnkoeidolmiheaaGreatDoorRmp
import Derived.Test.YtnkoeidolmiheaaGreatDoorMuPs
namespace Go.Proofs.YtnkoeidolmiheaaGreatDoor
open Go.RowKit
set_option linter.unusedVariables false
set_option maxRecDepth 100000
theorem l1Abs_is (d : Int) (w : World) (h0 : -100000 ≤ d) (h1 : d ≤ 100000) : Calls Tryz.prog 82 #[.int .i64 d] w fun e w' => e = .returned (.int .i64 (if d < 0 then -d else d)) ∧ w' = w := by
  have hw : IntKind.i64.wrap (-d) = -d := by rw [IntKind.wrap_i64]; omega
  by_cases h : d < 0
  · rw [if_pos h]
    clear h0 h1
    go_enter Tryz.func82, Tryz.ntmps82
    go_wp2
    go_ret
    exact ⟨rfl, rfl⟩
  · rw [if_neg h]
    clear h0 h1
    go_enter Tryz.func82, Tryz.ntmps82
    go_wp2
    go_ret
    exact ⟨rfl, rfl⟩
set_option maxRecDepth 100000 in
set_option maxHeartbeats 4000000 in
theorem sRemainder_any (f : Int) (ka : Int) (na : Bool) (ea : Int) (sa : ByteArray) (kb : Int) (nb : Bool) (eb : Int) (sb : ByteArray) (w : World) (hsa : sa.size ≤ 4611686018427387904) (hsb : sb.size ≤ 4611686018427387904) :
    Calls Tryz.prog 18 #[.int .i64 f, numV ka na ea sa, numV kb nb eb sb] w fun x w' => x = .returned (rsD (rmR f ka na ea sa kb nb eb sb).1 (rmR f ka na ea sa kb nb eb sb).2) ∧ Below w.heap.size w w' := by
  have HS : Hid (SU w (suW w ka na ea sa kb nb eb sb) ka na ea sa kb nb eb sb) := su_new w ka na ea sa kb nb eb sb
  have HOk : Hid (∀ (g : Nat) X, g < X.heap.size → NRw X g 2 (tw2 ka kb) (tw2 na nb) (tw2 ea eb) (tw2 sa sb) → Calls Tryz.prog 57 #[.int .i64 f, .int .i64 1, .slice (some ⟨g, 0, none⟩) 2 2] X fun x w' => x = .returned (.bool (rightB f 1 2 (tw2 ka kb) (tw2 na nb) (tw2 ea eb) (tw2 sa sb))) ∧ Below X.heap.size X w') := fun g X hg hr =>
    l13Ok_any f 1 2 g (tw2 ka kb) (tw2 na nb) (tw2 ea eb) (tw2 sa sb) X (by decide) hg hr (fun i hi => by match i, hi with
      | 0, _ => exact hsa
      | 1, _ => exact hsb)
  have HSp : Hid (∀ (g : Nat) X, g < X.heap.size → NRw X g 2 (tw2 ka kb) (tw2 na nb) (tw2 ea eb) (tw2 sa sb) → Calls Tryz.prog 58 #[.slice (some ⟨g, 0, none⟩) 2 2] X fun x w' => x = .returned (.tuple #[rsV 3 false 0 { data := #[] } (spF 2 (tw2 ka kb)), .bool (spB 2 (tw2 ka kb))]) ∧ Below X.heap.size X w') := fun g X hg hr => l13Special_any 2 g _ _ _ _ X (by decide) hg hr
  obtain ⟨R, hR⟩ : ∃ R, rmR f ka na ea sa kb nb eb sb = R := ⟨_, rfl⟩
  have HR : Hid (rmR f ka na ea sa kb nb eb sb = R) := hR
  rw [hR]
  clear hR hsa hsb
  have hb0 := build_res00
  go_enter Tryz.func18, Tryz.ntmps18
  have hsz : (suW w ka na ea sa kb nb eb sb).heap.size = w.heap.size + 1 + 1 + 1 := by simp
  have hg0 := heap_at (suW w ka na ea sa kb nb eb sb) (.cells #[.int .i64 ka, .bool na, .int .i64 ea, .string sa, .int .i64 kb, .bool nb, .int .i64 eb, .string sb] 25)
  rw [hsz] at hg0
  have hsz4 : ((suW w ka na ea sa kb nb eb sb).alloc (.cells #[.int .i64 ka, .bool na, .int .i64 ea, .string sa, .int .i64 kb, .bool nb, .int .i64 eb, .string sb] 25)).heap.size = w.heap.size + 1 + 1 + 1 + 1 := by simp
  have HL : Hid (NRw ((suW w ka na ea sa kb nb eb sb).alloc (.cells #[.int .i64 ka, .bool na, .int .i64 ea, .string sa, .int .i64 kb, .bool nb, .int .i64 eb, .string sb] 25)) (w.heap.size + 1 + 1 + 1) 2 (tw2 ka kb) (tw2 na nb) (tw2 ea eb) (tw2 sa sb) ∧ w.heap.size + 1 + 1 + 1 < ((suW w ka na ea sa kb nb eb sb).alloc (.cells #[.int .i64 ka, .bool na, .int .i64 ea, .string sa, .int .i64 kb, .bool nb, .int .i64 eb, .string sb] 25)).heap.size) := ⟨nrw2 hg0, by rw [hsz4]; omega⟩
  clear hsz hg0 hsz4
  go_wp2_with fail
  refine (HOk.out (w.heap.size + 1 + 1 + 1) _ HL.out.2 HL.out.1).mono ?_
  rintro e w1 ⟨rfl, hb1⟩
  have HS1 : Hid (SU w w1 ka na ea sa kb nb eb sb) := (HS.out.alloc _).next hb1
  have HL1 : Hid (NRw w1 (w.heap.size + 1 + 1 + 1) 2 (tw2 ka kb) (tw2 na nb) (tw2 ea eb) (tw2 sa sb) ∧ w.heap.size + 1 + 1 + 1 < w1.heap.size) := ⟨HL.out.1.below hb1 HL.out.2, Nat.lt_of_lt_of_le HL.out.2 hb1.size⟩
  clear hb1 HL HS HOk
  cases hO : rightB f 1 2 (tw2 ka kb) (tw2 na nb) (tw2 ea eb) (tw2 sa sb) with
  | false =>
    have ER : Hid (R = (false, (0, 0, { data := #[] }, 0))) := by show _ = _; rw [← HR.out]; unfold rmR ofR; rw [hO]; rfl
    have HZ3 : Hid (At5 w1 (w.heap.size + 2) (.int .i64 0) (.bool false) (.int .i64 0) (.string { data := #[] }) (.int .i64 0) ∧ Below w.heap.size w w1) := ⟨HS1.out.2.2.1, HS1.out.2.2.2.1⟩
    clear hO HSp HS1 HL1 HR
    go_wp2_with (refine wpList_store_row rfl 29 (.tmp 6) (.tmp 24) rfl (w.heap.size + 2) #[.int .i64 0, .bool false, .int .i64 0, .string { data := #[] }, .int .i64 0] rfl rfl _ _ HZ3.out.1 (by kernel_rfl) rfl (one5 _ _ _ _ _) ?_)
    have hP := (HZ3.out.1.row (.int .i64 0) (.bool false) (.int .i64 0) (.string { data := #[] }) (.int .i64 0)).cells
    refine bodyPost_ret (results_res rfl _ _ rfl hP.1 hP.2.1 hP.2.2.1 hP.2.2.2.1 hP.2.2.2.2.1) rfl ?_
    exact ⟨by rw [ER.out], bel_row HZ3.out.2 (by omega) _⟩
  | true =>
    go_wp2_with fail
    refine (HSp.out (w.heap.size + 1 + 1 + 1) _ HL1.out.2 HL1.out.1).mono ?_
    rintro e w2 ⟨rfl, hb2⟩
    have HS2 : Hid (SU w w2 ka na ea sa kb nb eb sb) := HS1.out.next hb2
    clear hb2 HL1 HS1 HSp hb0
    cases hB : spB 2 (tw2 ka kb) with
    | true =>
      have ER : Hid (R = (false, (3, 0, { data := #[] }, spF 2 (tw2 ka kb)))) := by show _ = _; rw [← HR.out]; unfold rmR ofR; rw [hO, hB]; rfl
      clear hO hB HR
      generalize spF 2 (tw2 ka kb) = FL at *
      have HZ3 : Hid (At5 (w2.alloc (.cells #[.int .i64 3, .bool false, .int .i64 0, .string { data := #[] }, .int .i64 FL] 29)) (w.heap.size + 2) (.int .i64 0) (.bool false) (.int .i64 0) (.string { data := #[] }) (.int .i64 0) ∧ Below w.heap.size w (w2.alloc (.cells #[.int .i64 3, .bool false, .int .i64 0, .string { data := #[] }, .int .i64 FL] 29))) := ⟨(HS2.out.alloc _).2.2.1, (HS2.out.alloc _).2.2.2.1⟩
      go_wp2_with (refine wpList_store_row rfl 29 (.tmp 6) (.tmp 31) rfl (w.heap.size + 2) #[.int .i64 3, .bool false, .int .i64 0, .string { data := #[] }, .int .i64 FL] rfl rfl _ _ HZ3.out.1 (by kernel_rfl) rfl (one5 _ _ _ _ _) ?_)
      have hP := (HZ3.out.1.row (.int .i64 3) (.bool false) (.int .i64 0) (.string { data := #[] }) (.int .i64 FL)).cells
      refine bodyPost_ret (results_res rfl _ _ rfl hP.1 hP.2.1 hP.2.2.1 hP.2.2.2.1 hP.2.2.2.2.1) rfl ?_
      exact ⟨by rw [ER.out], bel_row HZ3.out.2 (by omega) _⟩
    | false =>
      have ER : R = rmX ka na ea sa kb eb sb := by rw [← HR.out]; unfold rmR ofR; rw [hO, hB]; rfl
      have hrg := rgn_two hO hB
      have HSx : Hid (SU w (w2.alloc (.cells #[.int .i64 3, .bool false, .int .i64 0, .string { data := #[] }, .int .i64 (spF 2 (tw2 ka kb))] 29)) ka na ea sa kb nb eb sb) := HS2.out.alloc _
      generalize spF 2 (tw2 ka kb) = FL at *
      clear hO hB HR HS2
      obtain ⟨-, hr, hrb⟩ := hrg
      obtain ⟨a0, a1, a2, a3, a4⟩ := HSx.out.a4.cells
      obtain ⟨c0, c1, c2, c3, c4⟩ := HSx.out.b4.cells
      unfold rmX at ER
      by_cases hA : ka = 2
      · subst hA
        rw [if_pos (.inl rfl)] at ER
        have EX : Hid (R = (false, (3, 0, { data := #[] }, 1))) := ER
        clear hr hrb ER
        go_wp2_with fail
        refine (l13Invalid_any _).mono ?_
        rintro e w4 ⟨rfl, hb4⟩
        have HZ3 : Hid (At5 w4 (w.heap.size + 2) (.int .i64 0) (.bool false) (.int .i64 0) (.string { data := #[] }) (.int .i64 0) ∧ Below w.heap.size w w4) := HSx.out.end hb4
        clear hb4 HSx a0 a1 a2 a3 a4 c0 c1 c2 c3 c4
        go_wp2_with (refine wpList_store_row rfl 29 (.tmp 6) (.tmp 46) rfl (w.heap.size + 2) #[.int .i64 3, .bool false, .int .i64 0, .string { data := #[] }, .int .i64 1] rfl rfl _ _ HZ3.out.1 (by kernel_rfl) rfl (one5 _ _ _ _ _) ?_)
        have hP := (HZ3.out.1.row (.int .i64 3) (.bool false) (.int .i64 0) (.string { data := #[] }) (.int .i64 1)).cells
        refine bodyPost_ret (results_res rfl _ _ rfl hP.1 hP.2.1 hP.2.2.1 hP.2.2.2.1 hP.2.2.2.2.1) rfl ?_
        exact ⟨by rw [EX.out], bel_row HZ3.out.2 (by omega) _⟩
      · have hk1 : ka = 1 := hr.2.2.1.resolve_right hA
        subst hk1
        by_cases hB : kb = 2
        · subst hB
          have hzb : zB 2 sb = false := rfl
          rw [if_neg (fun c => c.elim hA (fun q => by rw [hzb] at q; cases q)), if_pos rfl] at ER
          have EX : Hid (R = (na, (1, ea, sa, 0))) := ER
          have hbr := build_res0 1 na ea sa
          have HZ3 : Hid (At5 (w2.alloc (.cells #[.int .i64 3, .bool false, .int .i64 0, .string { data := #[] }, .int .i64 FL] 29)) (w.heap.size + 2) (.int .i64 0) (.bool false) (.int .i64 0) (.string { data := #[] }) (.int .i64 0) ∧ Below w.heap.size w (w2.alloc (.cells #[.int .i64 3, .bool false, .int .i64 0, .string { data := #[] }, .int .i64 FL] 29))) := ⟨HSx.out.2.2.1, HSx.out.2.2.2.1⟩
          clear hr hrb ER hzb hA
          go_wp2_with (refine wpList_store_row rfl 29 (.tmp 6) (.tmp 52) rfl (w.heap.size + 2) #[.int .i64 1, .bool na, .int .i64 ea, .string sa, .int .i64 0] rfl rfl _ _ HZ3.out.1 (by kernel_rfl) rfl (one5 _ _ _ _ _) ?_)
          have hP := (HZ3.out.1.row (.int .i64 1) (.bool na) (.int .i64 ea) (.string sa) (.int .i64 0)).cells
          refine bodyPost_ret (results_res rfl _ _ rfl hP.1 hP.2.1 hP.2.2.1 hP.2.2.2.1 hP.2.2.2.2.1) rfl ?_
          exact ⟨by rw [EX.out], bel_row HZ3.out.2 (by omega) _⟩
        · have hkb1 : kb = 1 := hrb.2.2.1.resolve_right hB
          subst hkb1
          have hz2 := hrb.z48
          obtain ⟨zb, hzb⟩ : ∃ z, zB 1 sb = z := ⟨_, rfl⟩
          rw [hzb] at hz2 ER
          cases zb with
          | true =>
            rw [if_pos (.inr rfl)] at ER
            have EX : Hid (R = (false, (3, 0, { data := #[] }, 1))) := ER
            clear hr hrb ER hzb hA hB
            go_wp2_with fail
            refine (l13Invalid_any _).mono ?_
            rintro e w4 ⟨rfl, hb4⟩
            have HZ3 : Hid (At5 w4 (w.heap.size + 2) (.int .i64 0) (.bool false) (.int .i64 0) (.string { data := #[] }) (.int .i64 0) ∧ Below w.heap.size w w4) := HSx.out.end hb4
            clear hb4 HSx a0 a1 a2 a3 a4 c0 c1 c2 c3 c4
            go_wp2_with (refine wpList_store_row rfl 29 (.tmp 6) (.tmp 46) rfl (w.heap.size + 2) #[.int .i64 3, .bool false, .int .i64 0, .string { data := #[] }, .int .i64 1] rfl rfl _ _ HZ3.out.1 (by kernel_rfl) rfl (one5 _ _ _ _ _) ?_)
            have hP := (HZ3.out.1.row (.int .i64 3) (.bool false) (.int .i64 0) (.string { data := #[] }) (.int .i64 1)).cells
            refine bodyPost_ret (results_res rfl _ _ rfl hP.1 hP.2.1 hP.2.2.1 hP.2.2.2.1 hP.2.2.2.2.1) rfl ?_
            exact ⟨by rw [EX.out], bel_row HZ3.out.2 (by omega) _⟩
          | false =>
            rw [if_neg (fun c => c.elim hA (fun q => by cases q)), if_neg hB] at ER
            have hvb : vl (dl sb) ≠ 0 := by
              unfold zB at hzb
              simpa using hzb
            obtain ⟨hsa, nka, v0a, -, l34a, l1a, hszA, hea⟩ := hr.tn rfl
            obtain ⟨hsb, nkb, v0b, -, l34b, l1b, hszB, heb⟩ := hrb.tn rfl
            obtain ⟨ca, lpa, xlo, xhi⟩ := hr.2.2.2.1 rfl
            obtain ⟨cb, lpb, ylo, yhi⟩ := hrb.2.2.2.1 rfl
            have hsta := hr.2.1
            have hstb := hrb.2.1
            have hP : 1 ≤ limP f ∧ limP f ≤ 34 := by rcases hr.1 with rfl | rfl <;> decide
            have hw1 : IntKind.i64.wrap (ea - eb) = ea - eb := by rw [IntKind.wrap_i64]; omega
            have HAb : Hid (∀ X, Calls Tryz.prog 82 #[.int .i64 (ea - eb)] X fun e w' => e = .returned (.int .i64 (max ea eb - min ea eb)) ∧ w' = X) := fun X => by
              have := l1Abs_is (ea - eb) X (by omega) (by omega)
              rwa [show (if ea - eb < 0 then -(ea - eb) else ea - eb) = max ea eb - min ea eb by split <;> omega] at this
            by_cases hd : 160 < max ea eb - min ea eb
            · rw [if_pos hd] at ER
              have EX : Hid (R = (false, (3, 0, { data := #[] }, 1))) := ER
              clear hr hrb ER hzb hA hB hvb hsa nka v0a l34a l1a hszA hea hsb nkb v0b l34b l1b hszB heb ca lpa xlo xhi cb lpb ylo yhi hsta hstb hP
              generalize max ea eb - min ea eb = DD at *
              go_wp2_with fail
              refine (HAb.out _).mono ?_
              rintro e wx ⟨rfl, rfl⟩
              clear HAb
              go_wp2_with fail
              refine (l13Invalid_any _).mono ?_
              rintro e w4 ⟨rfl, hb4⟩
              have HZ3 : Hid (At5 w4 (w.heap.size + 2) (.int .i64 0) (.bool false) (.int .i64 0) (.string { data := #[] }) (.int .i64 0) ∧ Below w.heap.size w w4) := HSx.out.end hb4
              clear hb4 HSx a0 a1 a2 a3 a4 c0 c1 c2 c3 c4
              go_wp2_with (refine wpList_store_row rfl 29 (.tmp 6) (.tmp 61) rfl (w.heap.size + 2) #[.int .i64 3, .bool false, .int .i64 0, .string { data := #[] }, .int .i64 1] rfl rfl _ _ HZ3.out.1 (by kernel_rfl) rfl (one5 _ _ _ _ _) ?_)
              have hP := (HZ3.out.1.row (.int .i64 3) (.bool false) (.int .i64 0) (.string { data := #[] }) (.int .i64 1)).cells
              refine bodyPost_ret (results_res rfl _ _ rfl hP.1 hP.2.1 hP.2.2.1 hP.2.2.2.1 hP.2.2.2.2.1) rfl ?_
              exact ⟨by rw [EX.out], bel_row HZ3.out.2 (by omega) _⟩
            · rw [if_neg hd] at ER
              obtain ⟨nX, nY, yp, nq, nr, n2, hrP, hr0, hr1, hup⟩ := rm_size f hr.1 (dl sa) (dl sb) ca cb lpa lpb hvb ea eb hd
              obtain ⟨mn, hmn⟩ : ∃ m, min ea eb = m := ⟨_, rfl⟩
              have HMn : Hid (∀ X, Calls Tryz.prog 83 #[.int .i64 ea, .int .i64 eb] X fun e w' => e = .returned (.int .i64 mn) ∧ w' = X) := fun X => by
                have := l1Min_is ea eb X
                rwa [hmn] at this
              have HSa : Hid (∀ X, Calls Tryz.prog 64 #[.string sa, .int .i64 (ea - mn)] X fun e w' => e = .returned (.string (tn (rmV (vl (dl sa)) ea eb))) ∧ Below X.heap.size X w') := fun X => by
                have := l11Shift_is (dl sa) (ea - mn) X ca (by omega) (by omega) (.inr (by omega))
                rw [← hsta] at this
                unfold rmV
                rw [hmn]
                exact this
              have HSc : Hid (∀ X, Calls Tryz.prog 64 #[.string sb, .int .i64 (eb - mn)] X fun e w' => e = .returned (.string (tn (rmV (vl (dl sb)) eb ea))) ∧ Below X.heap.size X w') := fun X => by
                have := l11Shift_is (dl sb) (eb - mn) X cb (by omega) (by omega) (.inr (by omega))
                rw [← hstb] at this
                unfold rmV
                rw [min_turn, hmn]
                exact this
              obtain ⟨XX, hXX⟩ : ∃ x, rmV (vl (dl sa)) ea eb = x := ⟨_, rfl⟩
              obtain ⟨YY, hYY⟩ : ∃ y, rmV (vl (dl sb)) eb ea = y := ⟨_, rfl⟩
              simp only [hXX, hYY] at nX nY yp nq nr n2 hrP hr0 hr1 hup ER
              rw [hXX] at HSa
              rw [hYY] at HSc
              have HDv : Hid (∀ X, Calls Tryz.prog 84 #[.string (tn XX), .string (tn YY)] X fun e w' => e = .returned (.tuple #[.string (tn (XX / YY)), .string (tn (XX % YY))]) ∧ Below X.heap.size X w') := fun X => by
                have := l11Div_is (nt XX) (nt YY) X (nok_spec nX).1 (nok_spec nY).1 (nok_len nX) (nok_len nY) (by rw [(nok_spec nY).2]; omega)
                rw [(nok_spec nX).2, (nok_spec nY).2] at this
                exact this
              have HAd : Hid (∀ X, Calls Tryz.prog 73 #[.string (tn (XX % YY)), .string (tn (XX % YY))] X fun e w' => e = .returned (.string (tn (XX % YY + XX % YY))) ∧ Below X.heap.size X w') := fun X => by
                refine (l11Add_any (nt (XX % YY)) (nt (XX % YY)) X (nok_spec nr).1 (nok_spec nr).1 (by have := nok_len nr; omega) (by have := nok_len nr; omega)).mono ?_
                rintro e w' ⟨Q, rfl, hc, hv, hl, hb⟩
                rw [(nok_spec nr).2] at hv
                exact ⟨by rw [nt_of Q _ hc hv (by have := nok_len nr; omega)]; rfl, hb⟩
              have HCm : Hid (∀ X, Calls Tryz.prog 85 #[.string (tn (XX % YY + XX % YY)), .string (tn YY)] X fun e w' => e = .returned (.int .i64 (cmpI (XX % YY + XX % YY) YY)) ∧ Below X.heap.size X w') := fun X => by
                have := l11Cmp_any (nt (XX % YY + XX % YY)) (nt YY) X (nok_spec n2).1 (nok_spec nY).1 (by have := nok_len n2; omega) (by have := nok_len nY; omega)
                rw [(nok_spec n2).2, (nok_spec nY).2] at this
                exact this
              have HSb : Hid (∀ X, Calls Tryz.prog 74 #[.string (tn YY), .string (tn (XX % YY))] X fun e w' => e = .returned (.string (tn (YY - XX % YY))) ∧ Below X.heap.size X w') := fun X => by
                refine (l11Sub_any (nt YY) (nt (XX % YY)) X (nok_spec nY).1 (nok_spec nr).1 (by have := nok_len nY; omega) (by rw [(nok_spec nY).2, (nok_spec nr).2]; omega)).mono ?_
                rintro e w' ⟨Q, rfl, hc, hv, hl, hb⟩
                rw [(nok_spec nY).2, (nok_spec nr).2] at hv
                exact ⟨by rw [nt_of Q _ hc hv (by have := nok_len nY; omega)]; rfl, hb⟩
              have hfs : ∀ (ng : Bool) (z : Int), Nok z → z < 10 ^ (limP f).toNat → ∀ X, Calls Tryz.prog 62 #[.int .i64 f, .int .i64 1, .bool ng, .string (tn z), .int .i64 mn, .bool false, .int .i64 mn] X fun x w' => x = .returned (rsD ng (1, mn, tn z, 0)) ∧ Below X.heap.size X w' := fun ng z nz hz X => by
                have hl := canon_le (nt z) (nok_spec nz).1 (limP f).toNat (by omega) (by rw [(nok_spec nz).2]; exact hz)
                have := fin_ok f 1 hr.1 ng (nt z) mn false mn X (nok_spec nz).1 (nok_len nz) (by omega) (by omega)
                rw [finD_self f hr.1 1 ng (nt z) mn (nok_spec nz).1 (by omega) (by omega) (by omega)] at this
                exact this
              have HFi : Hid (∀ X, Calls Tryz.prog 62 #[.int .i64 f, .int .i64 1, .bool (if rmUp XX YY then !na else na), .string (if rmUp XX YY then tn (YY - XX % YY) else tn (XX % YY)), .int .i64 mn, .bool false, .int .i64 mn] X fun x w' => x = .returned (rsD R.1 R.2) ∧ Below X.heap.size X w') := fun X => by
                rw [ER, hmn]
                by_cases c : rmUp XX YY = true
                · rw [if_pos c, if_pos c, if_pos c]
                  have h1 := hup c
                  exact hfs (!na) (YY - XX % YY) ⟨by omega, Int.lt_of_le_of_lt h1 nr.2⟩ (by omega) X
                · rw [if_neg c, if_neg c, if_neg c]
                  exact hfs na (XX % YY) nr hrP X
              have hwa : IntKind.i64.wrap (ea - mn) = ea - mn := by rw [IntKind.wrap_i64]; omega
              have hwb : IntKind.i64.wrap (eb - mn) = eb - mn := by rw [IntKind.wrap_i64]; omega
              have hcm : (cmpI (XX % YY + XX % YY) YY = 1 ∧ rmUp XX YY = true) ∨ (cmpI (XX % YY + XX % YY) YY = -1 ∧ rmUp XX YY = false) ∨ (cmpI (XX % YY + XX % YY) YY = 0 ∧ rmUp XX YY = decide (XX / YY % 2 = 1)) := by
                unfold cmpI rmUp
                by_cases c1 : XX % YY + XX % YY < YY
                · refine .inr (.inl ⟨by rw [if_pos c1], ?_⟩)
                  rw [decide_eq_false (show ¬ YY < XX % YY + XX % YY by omega), decide_eq_false (show ¬ XX % YY + XX % YY = YY by omega)]; rfl
                · by_cases c2 : YY < XX % YY + XX % YY
                  · refine .inl ⟨by rw [if_neg c1, if_pos c2], ?_⟩
                    rw [decide_eq_true c2]; rfl
                  · refine .inr (.inr ⟨by rw [if_neg c1, if_neg c2], ?_⟩)
                    rw [decide_eq_false c2, decide_eq_true (show XX % YY + XX % YY = YY by omega)]; rfl
              -- the last digit of the quotient
              obtain ⟨QL, hQL⟩ : ∃ L, nt (XX / YY) = L := ⟨_, rfl⟩
              have hqc := (nok_spec nq).1
              have hqv := (nok_spec nq).2
              have hSl := nok_len nq
              have ett : tn (XX / YY) = tx (nt (XX / YY)) := rfl
              rw [ett] at HDv
              rw [hQL] at hqc hqv hSl HDv
              have hSz := tx_size QL
              have hSp : 0 < QL.length := hqc.2.1
              have hs1 : QL.length - 1 < (tx QL).size := by omega
              have za := tx_at QL hqc.1 (QL.length - 1) hs1
              have zd := dec_at QL hqc.1 (QL.length - 1)
              have zm := vl_mod2 QL hqc.1 hSp
              rw [hqv] at zm
              have hodd : ((QL.getD (QL.length - 1) 0 % 2 : Int) == 1) = decide (XX / YY % 2 = 1) := by
                rw [← zm]; rfl
              generalize QL.getD (QL.length - 1) 0 = dd at *
              have b0 : IntKind.u8.wrap ((((tx QL)[QL.length - 1]'hs1).toNat : Int) - 48) = dd := by rw [IntKind.wrap_u8, za]; omega
              have b1 : Int.tmod dd 2 = dd % 2 := Int.tmod_eq_emod_of_nonneg zd.1
              have b2 : IntKind.u8.wrap (dd % 2) = dd % 2 := by rw [IntKind.wrap_u8]; omega
              have b3 : IntKind.i64.wrap ((QL.length : Int) - 1) = (QL.length : Int) - 1 := by rw [IntKind.wrap_i64]; omega
              have b4 : (0 : Int) ≤ (QL.length : Int) - 1 := by omega
              have b5 : (QL.length : Int) - 1 < (QL.length : Int) := by omega
              have b6 : ((QL.length : Int) - 1).toNat = QL.length - 1 := by omega
              generalize cmpI (XX % YY + XX % YY) YY = cc at *
              generalize rmUp XX YY = up at *
              generalize decide (XX / YY % 2 = 1) = od at *
              clear hr hrb ER hzb hA hB hvb hsa nka v0a l34a l1a hszA hea hsb nkb v0b l34b l1b hszB heb ca lpa xlo xhi cb lpb ylo yhi hsta hstb hP nX nY yp nq nr n2 hrP hr0 hr1 hup hmn hXX hYY hfs hqc hqv hQL hSp hSl za zd zm ett
              generalize tn (YY - XX % YY) = TS at *
              generalize tn (XX % YY + XX % YY) = TD at *
              generalize tn (XX % YY) = TR at *
              generalize tn XX = TX at *
              generalize tn YY = TY at *
              generalize max ea eb - min ea eb = DD at *
              obtain ⟨R0, F1, F2, F3, F4⟩ := R
              go_wp2_with fail
              refine (HAb.out _).mono ?_
              rintro e wx ⟨rfl, rfl⟩
              clear HAb
              go_wp2_with fail
              refine (HMn.out _).mono ?_
              rintro e wx ⟨rfl, rfl⟩
              clear HMn
              go_wp2_with fail
              refine (HSa.out _).mono ?_
              rintro e w10 ⟨rfl, hb10⟩
              have HS10 : Hid (SU w w10 1 na ea sa 1 nb eb sb) := HSx.out.next hb10
              clear hb10 HSx HSa a0 a1 a2 a3 a4 c0 c1 c2 c3 c4
              obtain ⟨a0, a1, a2, a3, a4⟩ := HS10.out.a4.cells
              obtain ⟨c0, c1, c2, c3, c4⟩ := HS10.out.b4.cells
              go_wp2_with fail
              refine (HSc.out _).mono ?_
              rintro e w11 ⟨rfl, hb11⟩
              have HS11 : Hid (SU w w11 1 na ea sa 1 nb eb sb) := HS10.out.next hb11
              clear hb11 HS10 HSc a0 a1 a2 a3 a4 c0 c1 c2 c3 c4
              obtain ⟨a0, a1, a2, a3, a4⟩ := HS11.out.a4.cells
              obtain ⟨c0, c1, c2, c3, c4⟩ := HS11.out.b4.cells
              go_wp2_with fail
              refine (HDv.out _).mono ?_
              rintro e w12 ⟨rfl, hb12⟩
              have HS12 : Hid (SU w w12 1 na ea sa 1 nb eb sb) := HS11.out.next hb12
              clear hb12 HS11 HDv a0 a1 a2 a3 a4 c0 c1 c2 c3 c4
              obtain ⟨a0, a1, a2, a3, a4⟩ := HS12.out.a4.cells
              obtain ⟨c0, c1, c2, c3, c4⟩ := HS12.out.b4.cells
              go_wp2_with fail
              refine (HAd.out _).mono ?_
              rintro e w13 ⟨rfl, hb13⟩
              have HS13 : Hid (SU w w13 1 na ea sa 1 nb eb sb) := HS12.out.next hb13
              clear hb13 HS12 HAd a0 a1 a2 a3 a4 c0 c1 c2 c3 c4
              obtain ⟨a0, a1, a2, a3, a4⟩ := HS13.out.a4.cells
              obtain ⟨c0, c1, c2, c3, c4⟩ := HS13.out.b4.cells
              go_wp2_with fail
              refine (HCm.out _).mono ?_
              rintro e w14 ⟨rfl, hb14⟩
              have HS14 : Hid (SU w w14 1 na ea sa 1 nb eb sb) := HS13.out.next hb14
              clear hb14 HS13 HCm a0 a1 a2 a3 a4 c0 c1 c2 c3 c4
              obtain ⟨a0, a1, a2, a3, a4⟩ := HS14.out.a4.cells
              obtain ⟨c0, c1, c2, c3, c4⟩ := HS14.out.b4.cells
              rcases hcm with ⟨rfl, rfl⟩ | ⟨rfl, rfl⟩ | ⟨rfl, rfl⟩
              · simp only [if_true] at HFi
                clear b0 b1 b2 b3 b4 b5 b6 hodd
                go_wp2_with fail
                refine (HSb.out _).mono ?_
                rintro e w15 ⟨rfl, hb15⟩
                have HS15 : Hid (SU w w15 1 na ea sa 1 nb eb sb) := HS14.out.next hb15
                clear hb15 HS14 HSb a0 a1 a2 a3 a4 c0 c1 c2 c3 c4
                obtain ⟨a0, a1, a2, a3, a4⟩ := HS15.out.a4.cells
                obtain ⟨c0, c1, c2, c3, c4⟩ := HS15.out.b4.cells
                go_wp2_with fail
                refine (HFi.out _).mono ?_
                rintro e w4 ⟨rfl, hb4⟩
                have HZ3 : Hid (At5 w4 (w.heap.size + 2) (.int .i64 0) (.bool false) (.int .i64 0) (.string { data := #[] }) (.int .i64 0) ∧ Below w.heap.size w w4) := HS15.out.end hb4
                clear hb4 HS15 a0 a1 a2 a3 a4 c0 c1 c2 c3 c4
                go_wp2_with (refine wpList_store_row rfl 29 (.tmp 6) (.tmp 120) rfl (w.heap.size + 2) #[.int .i64 F1, .bool R0, .int .i64 F2, .string F3, .int .i64 F4] rfl rfl _ _ HZ3.out.1 (by kernel_rfl) rfl (one5 _ _ _ _ _) ?_)
                have hP := (HZ3.out.1.row (.int .i64 F1) (.bool R0) (.int .i64 F2) (.string F3) (.int .i64 F4)).cells
                refine bodyPost_ret (results_res rfl _ _ rfl hP.1 hP.2.1 hP.2.2.1 hP.2.2.2.1 hP.2.2.2.2.1) rfl ?_
                exact ⟨rfl, bel_row HZ3.out.2 (by omega) _⟩
              · simp only [Bool.false_eq_true, if_false] at HFi
                clear b0 b1 b2 b3 b4 b5 b6 hodd HSb
                go_wp2_with fail
                refine (HFi.out _).mono ?_
                rintro e w4 ⟨rfl, hb4⟩
                have HZ3 : Hid (At5 w4 (w.heap.size + 2) (.int .i64 0) (.bool false) (.int .i64 0) (.string { data := #[] }) (.int .i64 0) ∧ Below w.heap.size w w4) := HS14.out.end hb4
                clear hb4 HS14 a0 a1 a2 a3 a4 c0 c1 c2 c3 c4
                go_wp2_with (refine wpList_store_row rfl 29 (.tmp 6) (.tmp 120) rfl (w.heap.size + 2) #[.int .i64 F1, .bool R0, .int .i64 F2, .string F3, .int .i64 F4] rfl rfl _ _ HZ3.out.1 (by kernel_rfl) rfl (one5 _ _ _ _ _) ?_)
                have hP := (HZ3.out.1.row (.int .i64 F1) (.bool R0) (.int .i64 F2) (.string F3) (.int .i64 F4)).cells
                refine bodyPost_ret (results_res rfl _ _ rfl hP.1 hP.2.1 hP.2.2.1 hP.2.2.2.1 hP.2.2.2.2.1) rfl ?_
                exact ⟨rfl, bel_row HZ3.out.2 (by omega) _⟩
              · cases up with
                | true =>
                  simp only [if_true] at HFi
                  go_wp2_with fail
                  refine (HSb.out _).mono ?_
                  rintro e w15 ⟨rfl, hb15⟩
                  have HS15 : Hid (SU w w15 1 na ea sa 1 nb eb sb) := HS14.out.next hb15
                  clear hb15 HS14 HSb a0 a1 a2 a3 a4 c0 c1 c2 c3 c4
                  obtain ⟨a0, a1, a2, a3, a4⟩ := HS15.out.a4.cells
                  obtain ⟨c0, c1, c2, c3, c4⟩ := HS15.out.b4.cells
                  go_wp2_with fail
                  refine (HFi.out _).mono ?_
                  rintro e w4 ⟨rfl, hb4⟩
                  have HZ3 : Hid (At5 w4 (w.heap.size + 2) (.int .i64 0) (.bool false) (.int .i64 0) (.string { data := #[] }) (.int .i64 0) ∧ Below w.heap.size w w4) := HS15.out.end hb4
                  clear hb4 HS15 a0 a1 a2 a3 a4 c0 c1 c2 c3 c4
                  go_wp2_with (refine wpList_store_row rfl 29 (.tmp 6) (.tmp 120) rfl (w.heap.size + 2) #[.int .i64 F1, .bool R0, .int .i64 F2, .string F3, .int .i64 F4] rfl rfl _ _ HZ3.out.1 (by kernel_rfl) rfl (one5 _ _ _ _ _) ?_)
                  have hP := (HZ3.out.1.row (.int .i64 F1) (.bool R0) (.int .i64 F2) (.string F3) (.int .i64 F4)).cells
                  refine bodyPost_ret (results_res rfl _ _ rfl hP.1 hP.2.1 hP.2.2.1 hP.2.2.2.1 hP.2.2.2.2.1) rfl ?_
                  exact ⟨rfl, bel_row HZ3.out.2 (by omega) _⟩
                | false =>
                  simp only [Bool.false_eq_true, if_false] at HFi
                  clear HSb
                  go_wp2_with fail
                  refine (HFi.out _).mono ?_
                  rintro e w4 ⟨rfl, hb4⟩
                  have HZ3 : Hid (At5 w4 (w.heap.size + 2) (.int .i64 0) (.bool false) (.int .i64 0) (.string { data := #[] }) (.int .i64 0) ∧ Below w.heap.size w w4) := HS14.out.end hb4
                  clear hb4 HS14 a0 a1 a2 a3 a4 c0 c1 c2 c3 c4
                  go_wp2_with (refine wpList_store_row rfl 29 (.tmp 6) (.tmp 120) rfl (w.heap.size + 2) #[.int .i64 F1, .bool R0, .int .i64 F2, .string F3, .int .i64 F4] rfl rfl _ _ HZ3.out.1 (by kernel_rfl) rfl (one5 _ _ _ _ _) ?_)
                  have hP := (HZ3.out.1.row (.int .i64 F1) (.bool R0) (.int .i64 F2) (.string F3) (.int .i64 F4)).cells
                  refine bodyPost_ret (results_res rfl _ _ rfl hP.1 hP.2.1 hP.2.2.1 hP.2.2.2.1 hP.2.2.2.2.1) rfl ?_
                  exact ⟨rfl, bel_row HZ3.out.2 (by omega) _⟩
end Go.Proofs.YtnkoeidolmiheaaGreatDoor
