/-
  Div of the model, walked.
-/
import Derived.Test.YtmndemegiimagarGreatDoorQzs
import Derived.Test.YtmndemegiimagarGreatDoorDvp
namespace Go.Proofs.YtmndemegiimagarGreatDoor
open Go.RowKit
set_option linter.unusedVariables false
set_option maxRecDepth 100000
theorem l11Div_is (a b : List Int) (w : World) (ha : Canon a) (hb : Canon b) (la : a.length ≤ 200) (lb : b.length ≤ 200) (hpos : vl b ≠ 0) :
    Calls Tryz.prog 50 #[.string (tx a), .string (tx b)] w fun e w' => e = .returned (.tuple #[.string (tx (nt (vl a / vl b))), .string (tx (nt (vl a % vl b)))]) ∧ Below w.heap.size w w' := by
  have h0 := (vl_bd b hb.1).1
  refine (l11Div_any a b w ha hb (by omega) (by omega) (by omega)).mono ?_
  rintro e w' ⟨Q, R, rfl, hQ, hR, vQ, vR, lQ, lR, hbb⟩
  exact ⟨by rw [nt_of Q _ hQ vQ (by omega), nt_of R _ hR vR (by omega)], hbb⟩
theorem Rgn.z48 {f e : Int} {s : ByteArray} (h : Rgn f 1 e s) : (s.toList == [48]) = zB 1 s := by
  obtain ⟨hc, -⟩ := h.2.2.2.1 rfl
  have hs := h.2.1
  unfold zB
  rw [decide_eq_true (rfl : (1 : Int) = 1), Bool.true_and]
  by_cases c : vl (dl s) = 0
  · rw [decide_eq_true c, hs, canon_nought (dl s) hc c, tx_zero]; rfl
  · rw [decide_eq_false c, hs]
    exact tx_is0 (dl s) hc.1 (fun q => c (by rw [q]; rfl))
set_option maxRecDepth 100000 in
set_option maxHeartbeats 4000000 in
theorem sDiv_any (f mode : Int) (ka : Int) (na : Bool) (ea : Int) (sa : ByteArray) (kb : Int) (nb : Bool) (eb : Int) (sb : ByteArray) (w : World) (hsa : sa.size ≤ 4611686018427387904) (hsb : sb.size ≤ 4611686018427387904) :
    Calls Tryz.prog 20 #[.int .i64 f, .int .i64 mode, numV ka na ea sa, numV kb nb eb sb] w fun x w' => x = .returned (rsD (dvR f mode ka na ea sa kb nb eb sb).1 (dvR f mode ka na ea sa kb nb eb sb).2) ∧ Below w.heap.size w w' := by
  have HS : Hid (SU w (suW w ka na ea sa kb nb eb sb) ka na ea sa kb nb eb sb) := su_new w ka na ea sa kb nb eb sb
  have HOk : Hid (∀ (g : Nat) X, g < X.heap.size → NRw X g 2 (tw2 ka kb) (tw2 na nb) (tw2 ea eb) (tw2 sa sb) → Calls Tryz.prog 30 #[.int .i64 f, .int .i64 mode, .slice (some ⟨g, 0, none⟩) 2 2] X fun x w' => x = .returned (.bool (rightB f mode 2 (tw2 ka kb) (tw2 na nb) (tw2 ea eb) (tw2 sa sb))) ∧ Below X.heap.size X w') := fun g X hg hr =>
    l13Ok_any f mode 2 g (tw2 ka kb) (tw2 na nb) (tw2 ea eb) (tw2 sa sb) X (by decide) hg hr (fun i hi => by match i, hi with
      | 0, _ => exact hsa
      | 1, _ => exact hsb)
  have HSp : Hid (∀ (g : Nat) X, g < X.heap.size → NRw X g 2 (tw2 ka kb) (tw2 na nb) (tw2 ea eb) (tw2 sa sb) → Calls Tryz.prog 31 #[.slice (some ⟨g, 0, none⟩) 2 2] X fun x w' => x = .returned (.tuple #[rsV 3 false 0 { data := #[] } (spF 2 (tw2 ka kb)), .bool (spB 2 (tw2 ka kb))]) ∧ Below X.heap.size X w') := fun g X hg hr => l13Special_any 2 g _ _ _ _ X (by decide) hg hr
  obtain ⟨R, hR⟩ : ∃ R, dvR f mode ka na ea sa kb nb eb sb = R := ⟨_, rfl⟩
  have HR : Hid (dvR f mode ka na ea sa kb nb eb sb = R) := hR
  rw [hR]
  clear hR hsa hsb
  have hb0 := build_res00
  go_enter Tryz.func20, Tryz.ntmps20
  have hsz : (suW w ka na ea sa kb nb eb sb).heap.size = w.heap.size + 1 + 1 + 1 := by simp
  have hg0 := heap_at (suW w ka na ea sa kb nb eb sb) (.cells #[.int .i64 ka, .bool na, .int .i64 ea, .string sa, .int .i64 kb, .bool nb, .int .i64 eb, .string sb] 25)
  rw [hsz] at hg0
  have hsz4 : ((suW w ka na ea sa kb nb eb sb).alloc (.cells #[.int .i64 ka, .bool na, .int .i64 ea, .string sa, .int .i64 kb, .bool nb, .int .i64 eb, .string sb] 25)).heap.size = w.heap.size + 1 + 1 + 1 + 1 := by simp
  have HL : Hid (NRw ((suW w ka na ea sa kb nb eb sb).alloc (.cells #[.int .i64 ka, .bool na, .int .i64 ea, .string sa, .int .i64 kb, .bool nb, .int .i64 eb, .string sb] 25)) (w.heap.size + 1 + 1 + 1) 2 (tw2 ka kb) (tw2 na nb) (tw2 ea eb) (tw2 sa sb) ∧ w.heap.size + 1 + 1 + 1 < ((suW w ka na ea sa kb nb eb sb).alloc (.cells #[.int .i64 ka, .bool na, .int .i64 ea, .string sa, .int .i64 kb, .bool nb, .int .i64 eb, .string sb] 25)).heap.size) := ⟨nrw2 hg0, by rw [hsz4]; omega⟩
  clear hsz hg0 hsz4
  go_wp2_with fail
  refine (HOk.out (w.heap.size + 1 + 1 + 1) _ HL.out.2 HL.out.1).mono ?_
  rintro e w1 ⟨rfl, hb1⟩
  have HS1 : Hid (SU w w1 ka na ea sa kb nb eb sb) := (HS.out.alloc _).next hb1
  have HL1 : Hid (NRw w1 (w.heap.size + 1 + 1 + 1) 2 (tw2 ka kb) (tw2 na nb) (tw2 ea eb) (tw2 sa sb) ∧ w.heap.size + 1 + 1 + 1 < w1.heap.size) := ⟨HL.out.1.below hb1 HL.out.2, Nat.lt_of_lt_of_le HL.out.2 hb1.size⟩
  clear hb1 HL HS HOk
  cases hO : rightB f mode 2 (tw2 ka kb) (tw2 na nb) (tw2 ea eb) (tw2 sa sb) with
  | false =>
    have ER : Hid (R = (false, (0, 0, { data := #[] }, 0))) := by show _ = _; rw [← HR.out]; unfold dvR ofR; rw [hO]; rfl
    have HZ3 : Hid (At5 w1 (w.heap.size + 2) (.int .i64 0) (.bool false) (.int .i64 0) (.string { data := #[] }) (.int .i64 0) ∧ Below w.heap.size w w1) := ⟨HS1.out.2.2.1, HS1.out.2.2.2.1⟩
    clear hO HSp HS1 HL1 HR
    go_wp2_with (refine wpList_store_row rfl 27 (.tmp 8) (.tmp 36) rfl (w.heap.size + 2) #[.int .i64 0, .bool false, .int .i64 0, .string { data := #[] }, .int .i64 0] rfl rfl _ _ HZ3.out.1 (by kernel_rfl) rfl (one5 _ _ _ _ _) ?_)
    have hP := (HZ3.out.1.row (.int .i64 0) (.bool false) (.int .i64 0) (.string { data := #[] }) (.int .i64 0)).cells
    refine bodyPost_ret (results_res rfl _ _ rfl hP.1 hP.2.1 hP.2.2.1 hP.2.2.2.1 hP.2.2.2.2.1) rfl ?_
    exact ⟨by rw [ER.out], bel_row HZ3.out.2 (by omega) _⟩
  | true =>
    go_wp2_with fail
    refine (HSp.out (w.heap.size + 1 + 1 + 1) _ HL1.out.2 HL1.out.1).mono ?_
    rintro e w2 ⟨rfl, hb2⟩
    have HS2 : Hid (SU w w2 ka na ea sa kb nb eb sb) := HS1.out.next hb2
    clear hb2 HL1 HS1 HSp hb0
    cases hB : spB 2 (tw2 ka kb) with
    | true =>
      have ER : Hid (R = (false, (3, 0, { data := #[] }, spF 2 (tw2 ka kb)))) := by show _ = _; rw [← HR.out]; unfold dvR ofR; rw [hO, hB]; rfl
      clear hO hB HR
      generalize spF 2 (tw2 ka kb) = FL at *
      have HZ3 : Hid (At5 (w2.alloc (.cells #[.int .i64 3, .bool false, .int .i64 0, .string { data := #[] }, .int .i64 FL] 27)) (w.heap.size + 2) (.int .i64 0) (.bool false) (.int .i64 0) (.string { data := #[] }) (.int .i64 0) ∧ Below w.heap.size w (w2.alloc (.cells #[.int .i64 3, .bool false, .int .i64 0, .string { data := #[] }, .int .i64 FL] 27))) := ⟨(HS2.out.alloc _).2.2.1, (HS2.out.alloc _).2.2.2.1⟩
      go_wp2_with (refine wpList_store_row rfl 27 (.tmp 8) (.tmp 43) rfl (w.heap.size + 2) #[.int .i64 3, .bool false, .int .i64 0, .string { data := #[] }, .int .i64 FL] rfl rfl _ _ HZ3.out.1 (by kernel_rfl) rfl (one5 _ _ _ _ _) ?_)
      have hP := (HZ3.out.1.row (.int .i64 3) (.bool false) (.int .i64 0) (.string { data := #[] }) (.int .i64 FL)).cells
      refine bodyPost_ret (results_res rfl _ _ rfl hP.1 hP.2.1 hP.2.2.1 hP.2.2.2.1 hP.2.2.2.2.1) rfl ?_
      exact ⟨by rw [ER.out], bel_row HZ3.out.2 (by omega) _⟩
    | false =>
      have ER : R = dvX f mode ka na ea sa kb nb eb sb := by rw [← HR.out]; unfold dvR ofR; rw [hO, hB]; rfl
      have hrg := rgn_two hO hB
      have HSx : Hid (SU w (w2.alloc (.cells #[.int .i64 3, .bool false, .int .i64 0, .string { data := #[] }, .int .i64 (spF 2 (tw2 ka kb))] 27)) ka na ea sa kb nb eb sb) := HS2.out.alloc _
      generalize spF 2 (tw2 ka kb) = FL at *
      clear hO hB HR HS2
      obtain ⟨hm, hr, hrb⟩ := hrg
      obtain ⟨a0, a1, a2, a3, a4⟩ := HSx.out.a4.cells
      obtain ⟨c0, c1, c2, c3, c4⟩ := HSx.out.b4.cells
      obtain ⟨ng, hng⟩ : ∃ ng, (!(na == nb)) = ng := ⟨_, rfl⟩
      have HLm : Hid (∀ X, Calls Tryz.prog 47 #[.int .i64 f] X fun r w' => r = .returned (.tuple #[.int .i64 (limP f), .int .i64 (limL f), .int .i64 (limH f)]) ∧ w' = X) := fun X => Limits_any f X
      unfold dvX at ER
      rw [hng] at ER
      by_cases hA : ka = 2
      · subst hA
        have hza : zB 2 sa = false := rfl
        by_cases hB : kb = 2
        · rw [if_pos (.inl ⟨rfl, hB⟩)] at ER
          have EX : Hid (R = (false, (3, 0, { data := #[] }, 1))) := ER
          subst hB
          clear hr hrb hm ER hza
          generalize limP f = P at *
          generalize limL f = L0 at *
          generalize limH f = H0 at *
          go_wp2_with fail
          refine (HLm.out _).mono ?_
          rintro e wx ⟨rfl, rfl⟩
          go_wp2_with fail
          refine (l13Invalid_any _).mono ?_
          rintro e w4 ⟨rfl, hb4⟩
          have HZ3 : Hid (At5 w4 (w.heap.size + 2) (.int .i64 0) (.bool false) (.int .i64 0) (.string { data := #[] }) (.int .i64 0) ∧ Below w.heap.size w w4) := HSx.out.end hb4
          clear hb4 HSx a0 a1 a2 a3 a4 c0 c1 c2 c3 c4
          go_wp2_with (refine wpList_store_row rfl 27 (.tmp 8) (.tmp 86) rfl (w.heap.size + 2) #[.int .i64 3, .bool false, .int .i64 0, .string { data := #[] }, .int .i64 1] rfl rfl _ _ HZ3.out.1 (by kernel_rfl) rfl (one5 _ _ _ _ _) ?_)
          have hP := (HZ3.out.1.row (.int .i64 3) (.bool false) (.int .i64 0) (.string { data := #[] }) (.int .i64 1)).cells
          refine bodyPost_ret (results_res rfl _ _ rfl hP.1 hP.2.1 hP.2.2.1 hP.2.2.2.1 hP.2.2.2.2.1) rfl ?_
          exact ⟨by rw [EX.out], bel_row HZ3.out.2 (by omega) _⟩
        · have hkb1 : kb = 1 := hrb.2.2.1.resolve_right hB
          subst hkb1
          rw [if_neg (by rintro (c | c); exact hB c.2; rw [hza] at c; cases c.1), if_pos rfl] at ER
          have EX : Hid (R = (ng, (2, 0, { data := #[] }, 0))) := ER
          have hz2 := hrb.z48
          generalize zB 1 sb = zb at *
          clear hr hrb hm ER hza hB
          generalize limP f = P at *
          generalize limL f = L0 at *
          generalize limH f = H0 at *
          cases zb with
          | true =>
            go_wp2_with fail
            refine (HLm.out _).mono ?_
            rintro e wx ⟨rfl, rfl⟩
            go_wp2_with fail
            refine (l13Inf_any ng _).mono ?_
            rintro e w4 ⟨rfl, hb4⟩
            have HZ3 : Hid (At5 w4 (w.heap.size + 2) (.int .i64 0) (.bool false) (.int .i64 0) (.string { data := #[] }) (.int .i64 0) ∧ Below w.heap.size w w4) := HSx.out.end hb4
            clear hb4 HSx a0 a1 a2 a3 a4 c0 c1 c2 c3 c4
            go_wp2_with (refine wpList_store_row rfl 27 (.tmp 8) (.tmp 90) rfl (w.heap.size + 2) #[.int .i64 2, .bool ng, .int .i64 0, .string { data := #[] }, .int .i64 0] rfl rfl _ _ HZ3.out.1 (by kernel_rfl) rfl (one5 _ _ _ _ _) ?_)
            have hP := (HZ3.out.1.row (.int .i64 2) (.bool ng) (.int .i64 0) (.string { data := #[] }) (.int .i64 0)).cells
            refine bodyPost_ret (results_res rfl _ _ rfl hP.1 hP.2.1 hP.2.2.1 hP.2.2.2.1 hP.2.2.2.2.1) rfl ?_
            exact ⟨by rw [EX.out], bel_row HZ3.out.2 (by omega) _⟩
          | false =>
            go_wp2_with fail
            refine (HLm.out _).mono ?_
            rintro e wx ⟨rfl, rfl⟩
            go_wp2_with fail
            refine (l13Inf_any ng _).mono ?_
            rintro e w4 ⟨rfl, hb4⟩
            have HZ3 : Hid (At5 w4 (w.heap.size + 2) (.int .i64 0) (.bool false) (.int .i64 0) (.string { data := #[] }) (.int .i64 0) ∧ Below w.heap.size w w4) := HSx.out.end hb4
            clear hb4 HSx a0 a1 a2 a3 a4 c0 c1 c2 c3 c4
            go_wp2_with (refine wpList_store_row rfl 27 (.tmp 8) (.tmp 90) rfl (w.heap.size + 2) #[.int .i64 2, .bool ng, .int .i64 0, .string { data := #[] }, .int .i64 0] rfl rfl _ _ HZ3.out.1 (by kernel_rfl) rfl (one5 _ _ _ _ _) ?_)
            have hP := (HZ3.out.1.row (.int .i64 2) (.bool ng) (.int .i64 0) (.string { data := #[] }) (.int .i64 0)).cells
            refine bodyPost_ret (results_res rfl _ _ rfl hP.1 hP.2.1 hP.2.2.1 hP.2.2.2.1 hP.2.2.2.2.1) rfl ?_
            exact ⟨by rw [EX.out], bel_row HZ3.out.2 (by omega) _⟩
      · have hk1 : ka = 1 := hr.2.2.1.resolve_right hA
        subst hk1
        have hz1 := hr.z48
        by_cases hB : kb = 2
        · subst hB
          have hzb : zB 2 sb = false := rfl
          rw [if_neg (by rintro (c | c); exact hA c.1; rw [hzb] at c; cases c.2), if_neg hA, if_pos rfl] at ER
          have EX : Hid (R = (ng, (1, limL f, { data := #[48] }, 0))) := ER
          generalize zB 1 sa = za at *
          clear hr hrb hm ER hzb hA
          generalize limP f = P at *
          generalize limL f = L0 at *
          generalize limH f = H0 at *
          have hbr := build_res0 1 ng L0 { data := #[48] }
          cases za with
          | true =>
            go_wp2_with fail
            refine (HLm.out _).mono ?_
            rintro e wx ⟨rfl, rfl⟩
            go_wp2_with fail
            refine (l12Finite_any ng { data := #[48] } L0 _).mono ?_
            rintro e w4 ⟨rfl, hb4⟩
            have HZ3 : Hid (At5 w4 (w.heap.size + 2) (.int .i64 0) (.bool false) (.int .i64 0) (.string { data := #[] }) (.int .i64 0) ∧ Below w.heap.size w w4) := HSx.out.end hb4
            clear hb4 HSx a0 a1 a2 a3 a4 c0 c1 c2 c3 c4
            go_wp2_with (refine wpList_store_row rfl 27 (.tmp 8) (.tmp 96) rfl (w.heap.size + 2) #[.int .i64 1, .bool ng, .int .i64 L0, .string { data := #[48] }, .int .i64 0] rfl rfl _ _ HZ3.out.1 (by kernel_rfl) rfl (one5 _ _ _ _ _) ?_)
            have hP := (HZ3.out.1.row (.int .i64 1) (.bool ng) (.int .i64 L0) (.string { data := #[48] }) (.int .i64 0)).cells
            refine bodyPost_ret (results_res rfl _ _ rfl hP.1 hP.2.1 hP.2.2.1 hP.2.2.2.1 hP.2.2.2.2.1) rfl ?_
            exact ⟨by rw [EX.out], bel_row HZ3.out.2 (by omega) _⟩
          | false =>
            go_wp2_with fail
            refine (HLm.out _).mono ?_
            rintro e wx ⟨rfl, rfl⟩
            go_wp2_with fail
            refine (l12Finite_any ng { data := #[48] } L0 _).mono ?_
            rintro e w4 ⟨rfl, hb4⟩
            have HZ3 : Hid (At5 w4 (w.heap.size + 2) (.int .i64 0) (.bool false) (.int .i64 0) (.string { data := #[] }) (.int .i64 0) ∧ Below w.heap.size w w4) := HSx.out.end hb4
            clear hb4 HSx a0 a1 a2 a3 a4 c0 c1 c2 c3 c4
            go_wp2_with (refine wpList_store_row rfl 27 (.tmp 8) (.tmp 96) rfl (w.heap.size + 2) #[.int .i64 1, .bool ng, .int .i64 L0, .string { data := #[48] }, .int .i64 0] rfl rfl _ _ HZ3.out.1 (by kernel_rfl) rfl (one5 _ _ _ _ _) ?_)
            have hP := (HZ3.out.1.row (.int .i64 1) (.bool ng) (.int .i64 L0) (.string { data := #[48] }) (.int .i64 0)).cells
            refine bodyPost_ret (results_res rfl _ _ rfl hP.1 hP.2.1 hP.2.2.1 hP.2.2.2.1 hP.2.2.2.2.1) rfl ?_
            exact ⟨by rw [EX.out], bel_row HZ3.out.2 (by omega) _⟩
        · have hkb1 : kb = 1 := hrb.2.2.1.resolve_right hB
          subst hkb1
          have hz2 := hrb.z48
          obtain ⟨za, hza⟩ : ∃ z, zB 1 sa = z := ⟨_, rfl⟩
          obtain ⟨zb, hzb⟩ : ∃ z, zB 1 sb = z := ⟨_, rfl⟩
          rw [hza] at hz1 ER
          rw [hzb] at hz2 ER
          cases zb with
          | true =>
            cases za with
            | true =>
              rw [if_pos (.inr ⟨rfl, rfl⟩)] at ER
              have EX : Hid (R = (false, (3, 0, { data := #[] }, 1))) := ER
              clear hr hrb hm ER hza hzb hA hB
              generalize limP f = P at *
              generalize limL f = L0 at *
              generalize limH f = H0 at *
              go_wp2_with fail
              refine (HLm.out _).mono ?_
              rintro e wx ⟨rfl, rfl⟩
              go_wp2_with fail
              refine (l13Invalid_any _).mono ?_
              rintro e w4 ⟨rfl, hb4⟩
              have HZ3 : Hid (At5 w4 (w.heap.size + 2) (.int .i64 0) (.bool false) (.int .i64 0) (.string { data := #[] }) (.int .i64 0) ∧ Below w.heap.size w w4) := HSx.out.end hb4
              clear hb4 HSx a0 a1 a2 a3 a4 c0 c1 c2 c3 c4
              go_wp2_with (refine wpList_store_row rfl 27 (.tmp 8) (.tmp 86) rfl (w.heap.size + 2) #[.int .i64 3, .bool false, .int .i64 0, .string { data := #[] }, .int .i64 1] rfl rfl _ _ HZ3.out.1 (by kernel_rfl) rfl (one5 _ _ _ _ _) ?_)
              have hP := (HZ3.out.1.row (.int .i64 3) (.bool false) (.int .i64 0) (.string { data := #[] }) (.int .i64 1)).cells
              refine bodyPost_ret (results_res rfl _ _ rfl hP.1 hP.2.1 hP.2.2.1 hP.2.2.2.1 hP.2.2.2.2.1) rfl ?_
              exact ⟨by rw [EX.out], bel_row HZ3.out.2 (by omega) _⟩
            | false =>
              rw [if_neg (by rintro (c | c); exact hA c.1; cases c.1), if_neg hA, if_neg hB, if_pos rfl] at ER
              have EX : Hid (R = (ng, (2, 0, { data := #[] }, 2))) := ER
              clear hr hrb hm ER hza hzb hA hB
              generalize limP f = P at *
              generalize limL f = L0 at *
              generalize limH f = H0 at *
              go_wp2_with fail
              refine (HLm.out _).mono ?_
              rintro e wx ⟨rfl, rfl⟩
              go_wp2_with fail
              refine (l13Inf_any ng _).mono ?_
              rintro e w4 ⟨rfl, hb4⟩
              have HZ3 : Hid (At5 (w4.alloc (.cells #[.int .i64 2, .bool ng, .int .i64 0, .string { data := #[] }, .int .i64 2] 27)) (w.heap.size + 2) (.int .i64 0) (.bool false) (.int .i64 0) (.string { data := #[] }) (.int .i64 0) ∧ Below w.heap.size w (w4.alloc (.cells #[.int .i64 2, .bool ng, .int .i64 0, .string { data := #[] }, .int .i64 2] 27))) := (HSx.out.next hb4).end ((Below.refl _ _).alloc (Nat.le_refl _) _)
              clear hb4 HSx a0 a1 a2 a3 a4 c0 c1 c2 c3 c4
              go_wp2_with (refine wpList_store_row rfl 27 (.tmp 8) (.tmp 102) rfl (w.heap.size + 2) #[.int .i64 2, .bool ng, .int .i64 0, .string { data := #[] }, .int .i64 2] rfl rfl _ _ HZ3.out.1 (by kernel_rfl) rfl (one5 _ _ _ _ _) ?_)
              have hP := (HZ3.out.1.row (.int .i64 2) (.bool ng) (.int .i64 0) (.string { data := #[] }) (.int .i64 2)).cells
              refine bodyPost_ret (results_res rfl _ _ rfl hP.1 hP.2.1 hP.2.2.1 hP.2.2.2.1 hP.2.2.2.2.1) rfl ?_
              exact ⟨by rw [EX.out], bel_row HZ3.out.2 (by omega) _⟩
          | false =>
            rw [if_neg (by rintro (c | c); exact hA c.1; cases c.2), if_neg hA, if_neg hB, if_neg (by decide)] at ER
            have hvb : vl (dl sb) ≠ 0 := by
              unfold zB at hzb
              simpa using hzb
            obtain ⟨hsa, nka, v0a, -, l34a, l1a, hszA, hea⟩ := hr.tn rfl
            obtain ⟨hsb, nkb, v0b, -, l34b, l1b, hszB, heb⟩ := hrb.tn rfl
            obtain ⟨ca, lpa, -, -⟩ := hr.2.2.2.1 rfl
            obtain ⟨cb, lpb, -, -⟩ := hrb.2.2.2.1 rfl
            have hsta := hr.2.1
            have hstb := hrb.2.1
            have hP : 1 ≤ limP f ∧ limP f ≤ 34 := by rcases hr.1 with rfl | rfl <;> decide
            have hw1 : IntKind.i64.wrap (ea - eb) = ea - eb := by rw [IntKind.wrap_i64]; omega
            cases za with
            | true =>
              have hva : vl (dl sa) = 0 := by
                unfold zB at hza
                simpa using hza
              have HFi : Hid (∀ X, Calls Tryz.prog 35 #[.int .i64 f, .int .i64 mode, .bool ng, .string { data := #[48] }, .int .i64 (ea - eb), .bool false, .int .i64 (ea - eb)] X fun x w' => x = .returned (rsD R.1 R.2) ∧ Below X.heap.size X w') := fun X => by
                have h00 : nt 0 = [0] := (nt_of [0] 0 canon_zero rfl (by decide)).symm
                have hE : finD f mode ng (nt (vl (dl sa) * 10 ^ dvK f (dl sa).length (dl sb).length / vl (dl sb))) (ea - eb - dvK f (dl sa).length (dl sb).length) (!decide (vl (dl sa) * 10 ^ dvK f (dl sa).length (dl sb).length % vl (dl sb) = 0)) (ea - eb) = finD f mode ng [0] (ea - eb) false (ea - eb) := by
                  rw [hva, Int.zero_mul, Int.zero_ediv, h00]
                  unfold finD
                  rw [if_pos rfl, if_pos rfl]
                have := fin_ok f mode hr.1 ng [0] (ea - eb) false (ea - eb) X canon_zero (by decide) (by omega) (by omega)
                rw [show tx [0] = { data := #[48] } by apply ByteArray.ext; rw [tx_data]; rfl] at this
                rw [ER, hE]
                dsimp only
                exact this
              clear hr hrb hm ER hza hzb hA hB hvb hva hsa nka v0a l34a l1a hszA hea hsb nkb v0b l34b l1b hszB heb ca lpa cb lpb hsta hstb hP
              generalize limP f = P at *
              generalize limL f = L0 at *
              generalize limH f = H0 at *
              obtain ⟨R0, F1, F2, F3, F4⟩ := R
              go_wp2_with fail
              refine (HLm.out _).mono ?_
              rintro e wx ⟨rfl, rfl⟩
              go_wp2_with fail
              refine (HFi.out _).mono ?_
              rintro e w4 ⟨rfl, hb4⟩
              have HZ3 : Hid (At5 w4 (w.heap.size + 2) (.int .i64 0) (.bool false) (.int .i64 0) (.string { data := #[] }) (.int .i64 0) ∧ Below w.heap.size w w4) := HSx.out.end hb4
              clear hb4 HSx a0 a1 a2 a3 a4 c0 c1 c2 c3 c4
              go_wp2_with (refine wpList_store_row rfl 27 (.tmp 8) (.tmp 114) rfl (w.heap.size + 2) #[.int .i64 F1, .bool R0, .int .i64 F2, .string F3, .int .i64 F4] rfl rfl _ _ HZ3.out.1 (by kernel_rfl) rfl (one5 _ _ _ _ _) ?_)
              have hP := (HZ3.out.1.row (.int .i64 F1) (.bool R0) (.int .i64 F2) (.string F3) (.int .i64 F4)).cells
              refine bodyPost_ret (results_res rfl _ _ rfl hP.1 hP.2.1 hP.2.2.1 hP.2.2.2.1 hP.2.2.2.2.1) rfl ?_
              exact ⟨rfl, bel_row HZ3.out.2 (by omega) _⟩
            | false =>
              have hva : vl (dl sa) ≠ 0 := by
                unfold zB at hza
                simpa using hza
              obtain ⟨hsame, N1, N2, N3⟩ := dv_same f mode hr.1 ng (dl sa) (dl sb) ca cb lpa lpb hvb hva (ea - eb)
              obtain ⟨k, hk⟩ : ∃ k, dvK f (dl sa).length (dl sb).length + 2 = k := ⟨_, rfl⟩
              have hk2 : (k : Int) = limP f + 3 + sb.size - sa.size := by rw [← hk]; unfold dvK; omega
              rw [hk] at hsame N1 N2 N3
              have HSh : Hid (∀ X, Calls Tryz.prog 51 #[.string sa, .int .i64 k] X fun e w' => e = .returned (.string (tn (vl (dl sa) * 10 ^ k))) ∧ Below X.heap.size X w') := fun X => by
                have := l11Shift_is (dl sa) k X ca (by omega) (by omega) (.inr (by omega))
                rw [← hsta, show ((k : Int)).toNat = k by omega] at this
                exact this
              have HDv : Hid (∀ X, Calls Tryz.prog 50 #[.string (tn (vl (dl sa) * 10 ^ k)), .string sb] X fun e w' => e = .returned (.tuple #[.string (tn (vl (dl sa) * 10 ^ k / vl (dl sb))), .string (tn (vl (dl sa) * 10 ^ k % vl (dl sb)))]) ∧ Below X.heap.size X w') := fun X => by
                have := l11Div_is (nt (vl (dl sa) * 10 ^ k)) (dl sb) X (nok_spec N1).1 cb (nok_len N1) (by omega) hvb
                rw [(nok_spec N1).2, ← hstb] at this
                exact this
              obtain ⟨zz, hzz⟩ : ∃ z, decide (vl (dl sa) * 10 ^ k % vl (dl sb) = 0) = z := ⟨_, rfl⟩
              have hz0 : ((tn (vl (dl sa) * 10 ^ k % vl (dl sb))).toList == [48]) = zz := by
                rw [← hzz]
                by_cases c : vl (dl sa) * 10 ^ k % vl (dl sb) = 0
                · rw [c, tn_0]; rfl
                · rw [tn_is0 N3 c, decide_eq_false c]
              have HFi : Hid (∀ X, Calls Tryz.prog 35 #[.int .i64 f, .int .i64 mode, .bool ng, .string (tn (vl (dl sa) * 10 ^ k / vl (dl sb))), .int .i64 (ea - eb - k), .bool (!zz), .int .i64 (ea - eb)] X fun x w' => x = .returned (rsD R.1 R.2) ∧ Below X.heap.size X w') := fun X => by
                have := fin_ok f mode hr.1 ng (nt (vl (dl sa) * 10 ^ k / vl (dl sb))) (ea - eb - k) (!zz) (ea - eb) X (nok_spec N2).1 (nok_len N2) (by omega) (by omega)
                rw [ER, ← hsame, hzz]
                dsimp only
                exact this
              have hw2 : IntKind.i64.wrap (limP f + 3) = limP f + 3 := by rw [IntKind.wrap_i64]; omega
              have hw3 : IntKind.i64.wrap (limP f + 3 + (sb.size : Int)) = limP f + 3 + sb.size := by rw [IntKind.wrap_i64]; omega
              have hw4 : IntKind.i64.wrap (limP f + 3 + (sb.size : Int) - (sa.size : Int)) = (k : Int) := by rw [IntKind.wrap_i64]; omega
              have hw5 : IntKind.i64.wrap (ea - eb - (k : Int)) = ea - eb - k := by rw [IntKind.wrap_i64]; omega
              have HMx : Hid (∀ X, Calls Tryz.prog 49 #[.int .i64 0, .int .i64 k] X fun e w' => e = .returned (.int .i64 k) ∧ w' = X) := fun X => by
                have := l1Max_is 0 k X
                rwa [show max (0 : Int) k = k by omega] at this
              clear hr hrb hm ER hza hzb hA hB hvb hva hsa nka v0a l34a l1a hszA hea hsb nkb v0b l34b l1b hszB heb ca lpa cb lpb hsta hstb hP hsame N1 N2 N3 hk hk2 hzz
              generalize tn (vl (dl sa) * 10 ^ k / vl (dl sb)) = TQ1 at *
              generalize tn (vl (dl sa) * 10 ^ k % vl (dl sb)) = TR1 at *
              generalize tn (vl (dl sa) * 10 ^ k) = TS1 at *
              generalize (k : Int) = K1 at *
              generalize limP f = P at *
              generalize limL f = L0 at *
              generalize limH f = H0 at *
              obtain ⟨R0, F1, F2, F3, F4⟩ := R
              go_wp2_with fail
              refine (HLm.out _).mono ?_
              rintro e wx ⟨rfl, rfl⟩
              go_wp2_with fail
              refine (HLm.out _).mono ?_
              rintro e wx ⟨rfl, rfl⟩
              go_wp2_with fail
              refine (HMx.out _).mono ?_
              rintro e wx ⟨rfl, rfl⟩
              clear HMx HLm hw2 hw3 hw4
              go_upto_region 28 with fail
              generalize w2.alloc (.cells #[.int .i64 3, .bool false, .int .i64 0, .string { data := #[] }, .int .i64 FL] 27) = w3 at *
              have HX0 : Hid (Below w3.heap.size w3 w3.drew) := (Below.refl _ _).drew
              refine wp_region_class (C := fun W => Below w3.heap.size w3 W) (by kernel_rfl) (by kernel_rfl) HX0.out ?_
              repeat (refine wpQuiet_step (fun K hK => ?_); go_simp; first | (refine hK _ ?_; clear hK K) | (apply Exists.intro; refine ⟨fun wx hC => ?_, hK _ ?_⟩; (first | exact rfl | ((with_reducible refine Calls.class_of (HSh.out wx) ?_); exact fun w' hb => bel1 hC hb) | ((with_reducible refine Calls.class_of (HDv.out wx) ?_); exact fun w' hb => bel1 hC hb) | (obtain ⟨g0, g1, g2, g3, g4⟩ := (HSx.out.next hC).a4.cells; go_simp; exact rfl) | (obtain ⟨g0, g1, g2, g3, g4⟩ := (HSx.out.next hC).b4.cells; go_simp; exact rfl)); clear hK K))
              refine wpQuiet_nil ?_
              intro w5 hb5
              have HSy : Hid (SU w w5 1 na ea sa 1 nb eb sb) := HSx.out.next hb5
              clear hb5 HSx HX0 HSh HDv a0 a1 a2 a3 a4 c0 c1 c2 c3 c4
              go_wp2_with fail
              refine (HFi.out _).mono ?_
              rintro e w4 ⟨rfl, hb4⟩
              have HZ3 : Hid (At5 w4 (w.heap.size + 2) (.int .i64 0) (.bool false) (.int .i64 0) (.string { data := #[] }) (.int .i64 0) ∧ Below w.heap.size w w4) := HSy.out.end hb4
              clear hb4 HSy HFi
              go_wp2_with (refine wpList_store_row rfl 27 (.tmp 8) (.tmp 152) rfl (w.heap.size + 2) #[.int .i64 F1, .bool R0, .int .i64 F2, .string F3, .int .i64 F4] rfl rfl _ _ HZ3.out.1 (by kernel_rfl) rfl (one5 _ _ _ _ _) ?_)
              have hP := (HZ3.out.1.row (.int .i64 F1) (.bool R0) (.int .i64 F2) (.string F3) (.int .i64 F4)).cells
              refine bodyPost_ret (results_res rfl _ _ rfl hP.1 hP.2.1 hP.2.2.1 hP.2.2.2.1 hP.2.2.2.2.1) rfl ?_
              exact ⟨rfl, bel_row HZ3.out.2 (by omega) _⟩
end Go.Proofs.YtmndemegiimagarGreatDoor
