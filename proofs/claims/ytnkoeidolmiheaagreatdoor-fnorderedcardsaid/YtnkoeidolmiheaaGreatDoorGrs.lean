/-
  Greater of the model, walked.
-/
import Derived.Test.YtnkoeidolmiheaaGreatDoorGrp
namespace Go.Proofs.YtnkoeidolmiheaaGreatDoor
open Go.RowKit
set_option linter.unusedVariables false
set_option maxRecDepth 100000
theorem ok2_is (f : Int) (ka : Int) (na : Bool) (ea : Int) (sa : ByteArray) (kb : Int) (nb : Bool) (eb : Int) (sb : ByteArray) [Decidable (∀ i, i < 2 → numB f (pr2 ka kb i) (pr2 na nb i) (pr2 ea eb i) (pr2 sa sb i) = true)] : (decide (1 ≤ (1 : Int) ∧ (1 : Int) ≤ 5) && decide (∀ i, i < 2 → numB f (pr2 ka kb i) (pr2 na nb i) (pr2 ea eb i) (pr2 sa sb i) = true)) = (numB f ka na ea sa && numB f kb nb eb sb) := by
  rw [decide_eq_true (by omega), Bool.true_and]
  cases hr : (numB f ka na ea sa && numB f kb nb eb sb) with
  | true =>
    obtain ⟨hA, hB⟩ := Bool.and_eq_true_iff.1 hr
    refine decide_eq_true fun i hi => ?_
    match i, hi with
    | 0, _ => exact hA
    | 1, _ => exact hB
  | false =>
    refine decide_eq_false fun h => ?_
    have h0 : numB f ka na ea sa = true := h 0 (by decide)
    have h1 : numB f kb nb eb sb = true := h 1 (by decide)
    rw [h0, h1] at hr; cases hr
set_option maxRecDepth 100000 in
set_option maxHeartbeats 1000000 in
theorem sGreater_any (f : Int) (ka : Int) (na : Bool) (ea : Int) (sa : ByteArray) (kb : Int) (nb : Bool) (eb : Int) (sb : ByteArray) (w : World) (hsa : sa.size ≤ 4611686018427387904) (hsb : sb.size ≤ 4611686018427387904) :
    Calls Tryz.prog 32 #[.int .i64 f, numV ka na ea sa, numV kb nb eb sb] w fun x w' => x = .returned (rsD (gtR f ka na ea sa kb nb eb sb).1 (gtR f ka na ea sa kb nb eb sb).2) ∧ Below w.heap.size w w' := by
  have hb00 : ∀ w, (Instr.build 29 #[]).run Tryz.prog w = .ok (rsV 0 false 0 { data := #[] } 0) w := fun w => run_build w _ _ _ (by kernel_rfl)
  have hba := build_res0 ka na ea sa
  have hbb := build_res0 kb nb eb sb
  obtain ⟨W, hW⟩ : ∃ W, (((w.alloc (.cells #[.int .i64 ka, .bool na, .int .i64 ea, .string sa] 25)).alloc (.cells #[.int .i64 kb, .bool nb, .int .i64 eb, .string sb] 25)).alloc (.cells #[.int .i64 0, .bool false, .int .i64 0, .string { data := #[] }, .int .i64 0] 29)) = W := ⟨_, rfl⟩
  have hG0 := gb_new w ka na ea sa kb nb eb sb
  have hG1 : GB w.heap.size ka na ea sa kb nb eb sb W ∧ Below w.heap.size w W := by rw [← hW]; exact hG0
  clear hG0
  have zW : W.heap.size = w.heap.size + 3 := by rw [← hW, new_size, new_size, new_size]
  obtain ⟨hR, hRb⟩ := rw2_new W ka na ea sa kb nb eb sb
  have HO : Hid (Calls Tryz.prog 57 #[.int .i64 f, .int .i64 1, .slice (some ⟨W.heap.size, 0, none⟩) 2 2] (rw2 W ka na ea sa kb nb eb sb) fun x w' => x = .returned (.bool (numB f ka na ea sa && numB f kb nb eb sb)) ∧ Below (rw2 W ka na ea sa kb nb eb sb).heap.size (rw2 W ka na ea sa kb nb eb sb) w') := by
    have := l13Ok_any f 1 2 W.heap.size (pr2 ka kb) (pr2 na nb) (pr2 ea eb) (pr2 sa sb) (rw2 W ka na ea sa kb nb eb sb) (by decide) hR.lt (rw2_nrw W ka na ea sa kb nb eb sb) (fun i hi => by match i, hi with
      | 0, _ => exact hsa
      | 1, _ => exact hsb)
    rw [ok2_is] at this
    exact this
  have HG : Hid (GB w.heap.size ka na ea sa kb nb eb sb (rw2 W ka na ea sa kb nb eb sb) ∧ Below w.heap.size w (rw2 W ka na ea sa kb nb eb sb)) := ⟨hG1.1.next hRb, hG1.2.trans (hRb.mono hG1.2.size)⟩
  obtain ⟨c0, c1, c2, c3, c4⟩ := hG1.1.1.1.cells
  obtain ⟨d0, d1, d2, d3, d4⟩ := hG1.1.1.2.cells
  rw [zW] at HO
  unfold rw2 at HO HG
  rw [← hW] at HO HG c0 c1 c2 c3 c4 d0 d1 d2 d3 d4
  clear hW hG1 zW hR hRb hsa hsb
  have HC : Hid (numB f ka na ea sa = true → numB f kb nb eb sb = true → ka ≠ 3 → ka ≠ 4 → kb ≠ 3 → kb ≠ 4 → ∀ X, Calls Tryz.prog 66 #[numV ka na ea sa, numV kb nb eb sb] X fun r w' => r = .returned (.int .i64 (mcV ka na ea sa kb nb eb sb)) ∧ Below X.heap.size X w') := fun a b h1 h2 h3 h4 X => by
    obtain ⟨-, k1, -⟩ := numB_bd f ka na ea sa a
    obtain ⟨-, k2, -⟩ := numB_bd f kb nb eb sb b
    exact l15Cmp_any f ka na ea sa kb nb eb sb X a b (by omega) (by omega)
  have HTt : Hid (numB f ka na ea sa = true → numB f kb nb eb sb = true → ∀ X, Calls Tryz.prog 102 #[numV ka na ea sa, numV kb nb eb sb] X fun r w' => r = .returned (.int .i64 (cmpR true ka na ea sa kb nb eb sb)) ∧ Below X.heap.size X w') := fun a b X => l15Total_any f ka na ea sa kb nb eb sb X a b
  have HMt : Hid (mcV ka na ea sa kb nb eb sb ≠ 0 → cmpR true ka na ea sa kb nb eb sb = mcV ka na ea sa kb nb eb sb) := mc_total ka na ea sa kb nb eb sb
  obtain ⟨Q, hQ⟩ : ∃ Q, gtR f ka na ea sa kb nb eb sb = Q := ⟨_, rfl⟩
  have HQ : Hid ((if numB f ka na ea sa && numB f kb nb eb sb then (if (ka == 4) || (kb == 4) then (false, (3, 0, { data := #[] }, 1)) else if ka == 3 then (nb, (kb, eb, sb, 0)) else if kb == 3 then (na, (ka, ea, sa, 0)) else if cmpR true ka na ea sa kb nb eb sb < 0 then (nb, (kb, eb, sb, 0)) else (na, (ka, ea, sa, 0))) else (false, (0, 0, { data := #[] }, 0))) = Q) := hQ
  rw [hQ]
  clear hQ
  cases hr : (numB f ka na ea sa && numB f kb nb eb sb) with
  | false =>
    rw [hr] at HO HQ
    have E : Q = (false, (0, 0, { data := #[] }, 0)) := HQ.out.symm
    subst E
    clear hr HQ HC HTt HMt
    go_enter Tryz.func32, Tryz.ntmps32
    go_wp2_with fail
    refine (HO.out).mono ?_
    rintro x w1 ⟨rfl, hb1⟩
    have HG1 : Hid (GB w.heap.size ka na ea sa kb nb eb sb w1 ∧ Below w.heap.size w w1) := ⟨HG.out.1.next hb1, HG.out.2.trans (hb1.mono HG.out.2.size)⟩
    clear hb1 HG
    try clear c0 c1 c2 c3 c4 d0 d1 d2 d3 d4
    obtain ⟨c0, c1, c2, c3, c4⟩ := HG1.out.1.1.1.cells
    obtain ⟨d0, d1, d2, d3, d4⟩ := HG1.out.1.1.2.cells
    go_wp2_with (refine wpList_store_row rfl 29 (.tmp 6) (.tmp 16) rfl (w.heap.size + 2) #[.int .i64 0, .bool false, .int .i64 0, .string { data := #[] }, .int .i64 0] rfl rfl _ _ HG1.out.1.2 (by kernel_rfl) rfl (one5 _ _ _ _ _) ?_)
    have hP := (HG1.out.1.2.row (.int .i64 0) (.bool false) (.int .i64 0) (.string { data := #[] }) (.int .i64 0)).cells
    refine bodyPost_ret (results_res rfl _ _ rfl hP.1 hP.2.1 hP.2.2.1 hP.2.2.2.1 hP.2.2.2.2.1) rfl ?_
    exact ⟨rfl, bel_row HG1.out.2 (by omega) _⟩
  | true =>
    obtain ⟨hA, hB⟩ := Bool.and_eq_true_iff.1 hr
    rw [hr] at HO HQ
    clear hr
    cases h4 : (ka == 4) with
    | true =>
      have E : Q = (false, (3, 0, { data := #[] }, 1)) := by rw [← HQ.out, h4]; rfl
      subst E
      clear HQ HC HTt HMt hA hB
      go_enter Tryz.func32, Tryz.ntmps32
      go_wp2_with fail
      refine (HO.out).mono ?_
      rintro x w1 ⟨rfl, hb1⟩
      have HG1 : Hid (GB w.heap.size ka na ea sa kb nb eb sb w1 ∧ Below w.heap.size w w1) := ⟨HG.out.1.next hb1, HG.out.2.trans (hb1.mono HG.out.2.size)⟩
      clear hb1 HG
      try clear c0 c1 c2 c3 c4 d0 d1 d2 d3 d4
      obtain ⟨c0, c1, c2, c3, c4⟩ := HG1.out.1.1.1.cells
      obtain ⟨d0, d1, d2, d3, d4⟩ := HG1.out.1.1.2.cells
      go_wp2_with fail
      refine (l13Invalid_any _).mono ?_
      rintro x w2 ⟨rfl, hb2⟩
      have HG2 : Hid (GB w.heap.size ka na ea sa kb nb eb sb w2 ∧ Below w.heap.size w w2) := ⟨HG1.out.1.next hb2, HG1.out.2.trans (hb2.mono HG1.out.2.size)⟩
      clear hb2 HG1
      try clear c0 c1 c2 c3 c4 d0 d1 d2 d3 d4
      obtain ⟨c0, c1, c2, c3, c4⟩ := HG2.out.1.1.1.cells
      obtain ⟨d0, d1, d2, d3, d4⟩ := HG2.out.1.1.2.cells
      go_wp2_with (refine wpList_store_row rfl 29 (.tmp 6) (.tmp 25) rfl (w.heap.size + 2) #[.int .i64 3, .bool false, .int .i64 0, .string { data := #[] }, .int .i64 1] rfl rfl _ _ HG2.out.1.2 (by kernel_rfl) rfl (one5 _ _ _ _ _) ?_)
      have hP := (HG2.out.1.2.row (.int .i64 3) (.bool false) (.int .i64 0) (.string { data := #[] }) (.int .i64 1)).cells
      refine bodyPost_ret (results_res rfl _ _ rfl hP.1 hP.2.1 hP.2.2.1 hP.2.2.2.1 hP.2.2.2.2.1) rfl ?_
      exact ⟨rfl, bel_row HG2.out.2 (by omega) _⟩
    | false =>
      cases h4b : (kb == 4) with
      | true =>
        have E : Q = (false, (3, 0, { data := #[] }, 1)) := by rw [← HQ.out, h4, h4b]; rfl
        subst E
        clear HQ HC HTt HMt hA hB
        go_enter Tryz.func32, Tryz.ntmps32
        go_wp2_with fail
        refine (HO.out).mono ?_
        rintro x w1 ⟨rfl, hb1⟩
        have HG1 : Hid (GB w.heap.size ka na ea sa kb nb eb sb w1 ∧ Below w.heap.size w w1) := ⟨HG.out.1.next hb1, HG.out.2.trans (hb1.mono HG.out.2.size)⟩
        clear hb1 HG
        try clear c0 c1 c2 c3 c4 d0 d1 d2 d3 d4
        obtain ⟨c0, c1, c2, c3, c4⟩ := HG1.out.1.1.1.cells
        obtain ⟨d0, d1, d2, d3, d4⟩ := HG1.out.1.1.2.cells
        go_wp2_with fail
        refine (l13Invalid_any _).mono ?_
        rintro x w2 ⟨rfl, hb2⟩
        have HG2 : Hid (GB w.heap.size ka na ea sa kb nb eb sb w2 ∧ Below w.heap.size w w2) := ⟨HG1.out.1.next hb2, HG1.out.2.trans (hb2.mono HG1.out.2.size)⟩
        clear hb2 HG1
        try clear c0 c1 c2 c3 c4 d0 d1 d2 d3 d4
        obtain ⟨c0, c1, c2, c3, c4⟩ := HG2.out.1.1.1.cells
        obtain ⟨d0, d1, d2, d3, d4⟩ := HG2.out.1.1.2.cells
        go_wp2_with (refine wpList_store_row rfl 29 (.tmp 6) (.tmp 25) rfl (w.heap.size + 2) #[.int .i64 3, .bool false, .int .i64 0, .string { data := #[] }, .int .i64 1] rfl rfl _ _ HG2.out.1.2 (by kernel_rfl) rfl (one5 _ _ _ _ _) ?_)
        have hP := (HG2.out.1.2.row (.int .i64 3) (.bool false) (.int .i64 0) (.string { data := #[] }) (.int .i64 1)).cells
        refine bodyPost_ret (results_res rfl _ _ rfl hP.1 hP.2.1 hP.2.2.1 hP.2.2.2.1 hP.2.2.2.2.1) rfl ?_
        exact ⟨rfl, bel_row HG2.out.2 (by omega) _⟩
      | false =>
        cases h3 : (ka == 3) with
        | true =>
          have E : Q = (nb, (kb, eb, sb, 0)) := by rw [← HQ.out, h4, h4b, h3]; rfl
          subst E
          clear HQ HC HTt HMt hA hB
          go_enter Tryz.func32, Tryz.ntmps32
          go_wp2_with fail
          refine (HO.out).mono ?_
          rintro x w1 ⟨rfl, hb1⟩
          have HG1 : Hid (GB w.heap.size ka na ea sa kb nb eb sb w1 ∧ Below w.heap.size w w1) := ⟨HG.out.1.next hb1, HG.out.2.trans (hb1.mono HG.out.2.size)⟩
          clear hb1 HG
          try clear c0 c1 c2 c3 c4 d0 d1 d2 d3 d4
          obtain ⟨c0, c1, c2, c3, c4⟩ := HG1.out.1.1.1.cells
          obtain ⟨d0, d1, d2, d3, d4⟩ := HG1.out.1.1.2.cells
          go_wp2_with (refine wpList_store_row rfl 29 (.tmp 6) (.tmp 31) rfl (w.heap.size + 2) #[.int .i64 kb, .bool nb, .int .i64 eb, .string sb, .int .i64 0] rfl rfl _ _ HG1.out.1.2 (by kernel_rfl) rfl (one5 _ _ _ _ _) ?_)
          have hP := (HG1.out.1.2.row (.int .i64 kb) (.bool nb) (.int .i64 eb) (.string sb) (.int .i64 0)).cells
          refine bodyPost_ret (results_res rfl _ _ rfl hP.1 hP.2.1 hP.2.2.1 hP.2.2.2.1 hP.2.2.2.2.1) rfl ?_
          exact ⟨rfl, bel_row HG1.out.2 (by omega) _⟩
        | false =>
          cases h3b : (kb == 3) with
          | true =>
            have E : Q = (na, (ka, ea, sa, 0)) := by rw [← HQ.out, h4, h4b, h3, h3b]; rfl
            subst E
            clear HQ HC HTt HMt hA hB
            go_enter Tryz.func32, Tryz.ntmps32
            go_wp2_with fail
            refine (HO.out).mono ?_
            rintro x w1 ⟨rfl, hb1⟩
            have HG1 : Hid (GB w.heap.size ka na ea sa kb nb eb sb w1 ∧ Below w.heap.size w w1) := ⟨HG.out.1.next hb1, HG.out.2.trans (hb1.mono HG.out.2.size)⟩
            clear hb1 HG
            try clear c0 c1 c2 c3 c4 d0 d1 d2 d3 d4
            obtain ⟨c0, c1, c2, c3, c4⟩ := HG1.out.1.1.1.cells
            obtain ⟨d0, d1, d2, d3, d4⟩ := HG1.out.1.1.2.cells
            go_wp2_with (refine wpList_store_row rfl 29 (.tmp 6) (.tmp 37) rfl (w.heap.size + 2) #[.int .i64 ka, .bool na, .int .i64 ea, .string sa, .int .i64 0] rfl rfl _ _ HG1.out.1.2 (by kernel_rfl) rfl (one5 _ _ _ _ _) ?_)
            have hP := (HG1.out.1.2.row (.int .i64 ka) (.bool na) (.int .i64 ea) (.string sa) (.int .i64 0)).cells
            refine bodyPost_ret (results_res rfl _ _ rfl hP.1 hP.2.1 hP.2.2.1 hP.2.2.2.1 hP.2.2.2.2.1) rfl ?_
            exact ⟨rfl, bel_row HG1.out.2 (by omega) _⟩
          | false =>
            have HC1 : Hid (∀ X, Calls Tryz.prog 66 #[numV ka na ea sa, numV kb nb eb sb] X fun r w' => r = .returned (.int .i64 (mcV ka na ea sa kb nb eb sb)) ∧ Below X.heap.size X w') := HC.out hA hB (by simpa using h3) (by simpa using h4) (by simpa using h3b) (by simpa using h4b)
            have HT1 : Hid (∀ X, Calls Tryz.prog 102 #[numV ka na ea sa, numV kb nb eb sb] X fun r w' => r = .returned (.int .i64 (cmpR true ka na ea sa kb nb eb sb)) ∧ Below X.heap.size X w') := HTt.out hA hB
            have E : (if cmpR true ka na ea sa kb nb eb sb < 0 then (nb, (kb, eb, sb, 0)) else (na, (ka, ea, sa, 0))) = Q := by rw [← HQ.out, h4, h4b, h3, h3b]; rfl
            clear HQ HC HTt hA hB
            generalize cmpR true ka na ea sa kb nb eb sb = T at *
            generalize mcV ka na ea sa kb nb eb sb = M at *
            by_cases hm : M = 0
            · subst hm
              clear HMt
              by_cases ht : T < 0
              · rw [if_pos ht] at E
                subst E
                go_enter Tryz.func32, Tryz.ntmps32
                go_wp2_with fail
                refine (HO.out).mono ?_
                rintro x w1 ⟨rfl, hb1⟩
                have HG1 : Hid (GB w.heap.size ka na ea sa kb nb eb sb w1 ∧ Below w.heap.size w w1) := ⟨HG.out.1.next hb1, HG.out.2.trans (hb1.mono HG.out.2.size)⟩
                clear hb1 HG
                try clear c0 c1 c2 c3 c4 d0 d1 d2 d3 d4
                obtain ⟨c0, c1, c2, c3, c4⟩ := HG1.out.1.1.1.cells
                obtain ⟨d0, d1, d2, d3, d4⟩ := HG1.out.1.1.2.cells
                go_wp2_with fail
                refine (HC1.out _).mono ?_
                rintro x w2 ⟨rfl, hb2⟩
                have HG2 : Hid (GB w.heap.size ka na ea sa kb nb eb sb w2 ∧ Below w.heap.size w w2) := ⟨HG1.out.1.next hb2, HG1.out.2.trans (hb2.mono HG1.out.2.size)⟩
                clear hb2 HG1
                try clear c0 c1 c2 c3 c4 d0 d1 d2 d3 d4
                obtain ⟨c0, c1, c2, c3, c4⟩ := HG2.out.1.1.1.cells
                obtain ⟨d0, d1, d2, d3, d4⟩ := HG2.out.1.1.2.cells
                go_wp2_with fail
                refine (HT1.out _).mono ?_
                rintro x w3 ⟨rfl, hb3⟩
                have HG3 : Hid (GB w.heap.size ka na ea sa kb nb eb sb w3 ∧ Below w.heap.size w w3) := ⟨HG2.out.1.next hb3, HG2.out.2.trans (hb3.mono HG2.out.2.size)⟩
                clear hb3 HG2
                try clear c0 c1 c2 c3 c4 d0 d1 d2 d3 d4
                obtain ⟨c0, c1, c2, c3, c4⟩ := HG3.out.1.1.1.cells
                obtain ⟨d0, d1, d2, d3, d4⟩ := HG3.out.1.1.2.cells
                go_wp2_with (refine wpList_store_row rfl 29 (.tmp 6) (.tmp 49) rfl (w.heap.size + 2) #[.int .i64 kb, .bool nb, .int .i64 eb, .string sb, .int .i64 0] rfl rfl _ _ HG3.out.1.2 (by kernel_rfl) rfl (one5 _ _ _ _ _) ?_)
                have hP := (HG3.out.1.2.row (.int .i64 kb) (.bool nb) (.int .i64 eb) (.string sb) (.int .i64 0)).cells
                refine bodyPost_ret (results_res rfl _ _ rfl hP.1 hP.2.1 hP.2.2.1 hP.2.2.2.1 hP.2.2.2.2.1) rfl ?_
                exact ⟨rfl, bel_row HG3.out.2 (by omega) _⟩
              · rw [if_neg ht] at E
                subst E
                go_enter Tryz.func32, Tryz.ntmps32
                go_wp2_with fail
                refine (HO.out).mono ?_
                rintro x w1 ⟨rfl, hb1⟩
                have HG1 : Hid (GB w.heap.size ka na ea sa kb nb eb sb w1 ∧ Below w.heap.size w w1) := ⟨HG.out.1.next hb1, HG.out.2.trans (hb1.mono HG.out.2.size)⟩
                clear hb1 HG
                try clear c0 c1 c2 c3 c4 d0 d1 d2 d3 d4
                obtain ⟨c0, c1, c2, c3, c4⟩ := HG1.out.1.1.1.cells
                obtain ⟨d0, d1, d2, d3, d4⟩ := HG1.out.1.1.2.cells
                go_wp2_with fail
                refine (HC1.out _).mono ?_
                rintro x w2 ⟨rfl, hb2⟩
                have HG2 : Hid (GB w.heap.size ka na ea sa kb nb eb sb w2 ∧ Below w.heap.size w w2) := ⟨HG1.out.1.next hb2, HG1.out.2.trans (hb2.mono HG1.out.2.size)⟩
                clear hb2 HG1
                try clear c0 c1 c2 c3 c4 d0 d1 d2 d3 d4
                obtain ⟨c0, c1, c2, c3, c4⟩ := HG2.out.1.1.1.cells
                obtain ⟨d0, d1, d2, d3, d4⟩ := HG2.out.1.1.2.cells
                go_wp2_with fail
                refine (HT1.out _).mono ?_
                rintro x w3 ⟨rfl, hb3⟩
                have HG3 : Hid (GB w.heap.size ka na ea sa kb nb eb sb w3 ∧ Below w.heap.size w w3) := ⟨HG2.out.1.next hb3, HG2.out.2.trans (hb3.mono HG2.out.2.size)⟩
                clear hb3 HG2
                try clear c0 c1 c2 c3 c4 d0 d1 d2 d3 d4
                obtain ⟨c0, c1, c2, c3, c4⟩ := HG3.out.1.1.1.cells
                obtain ⟨d0, d1, d2, d3, d4⟩ := HG3.out.1.1.2.cells
                go_wp2_with (refine wpList_store_row rfl 29 (.tmp 6) (.tmp 51) rfl (w.heap.size + 2) #[.int .i64 ka, .bool na, .int .i64 ea, .string sa, .int .i64 0] rfl rfl _ _ HG3.out.1.2 (by kernel_rfl) rfl (one5 _ _ _ _ _) ?_)
                have hP := (HG3.out.1.2.row (.int .i64 ka) (.bool na) (.int .i64 ea) (.string sa) (.int .i64 0)).cells
                refine bodyPost_ret (results_res rfl _ _ rfl hP.1 hP.2.1 hP.2.2.1 hP.2.2.2.1 hP.2.2.2.2.1) rfl ?_
                exact ⟨rfl, bel_row HG3.out.2 (by omega) _⟩
            · have hmb : (M == 0) = false := beq_eq_false_iff_ne.2 hm
              have e := HMt.out hm
              subst e
              clear HMt HT1 hm
              by_cases ht : T < 0
              · rw [if_pos ht] at E
                subst E
                go_enter Tryz.func32, Tryz.ntmps32
                go_wp2_with fail
                refine (HO.out).mono ?_
                rintro x w1 ⟨rfl, hb1⟩
                have HG1 : Hid (GB w.heap.size ka na ea sa kb nb eb sb w1 ∧ Below w.heap.size w w1) := ⟨HG.out.1.next hb1, HG.out.2.trans (hb1.mono HG.out.2.size)⟩
                clear hb1 HG
                try clear c0 c1 c2 c3 c4 d0 d1 d2 d3 d4
                obtain ⟨c0, c1, c2, c3, c4⟩ := HG1.out.1.1.1.cells
                obtain ⟨d0, d1, d2, d3, d4⟩ := HG1.out.1.1.2.cells
                go_wp2_with fail
                refine (HC1.out _).mono ?_
                rintro x w2 ⟨rfl, hb2⟩
                have HG2 : Hid (GB w.heap.size ka na ea sa kb nb eb sb w2 ∧ Below w.heap.size w w2) := ⟨HG1.out.1.next hb2, HG1.out.2.trans (hb2.mono HG1.out.2.size)⟩
                clear hb2 HG1
                try clear c0 c1 c2 c3 c4 d0 d1 d2 d3 d4
                obtain ⟨c0, c1, c2, c3, c4⟩ := HG2.out.1.1.1.cells
                obtain ⟨d0, d1, d2, d3, d4⟩ := HG2.out.1.1.2.cells
                go_wp2_with (refine wpList_store_row rfl 29 (.tmp 6) (.tmp 49) rfl (w.heap.size + 2) #[.int .i64 kb, .bool nb, .int .i64 eb, .string sb, .int .i64 0] rfl rfl _ _ HG2.out.1.2 (by kernel_rfl) rfl (one5 _ _ _ _ _) ?_)
                have hP := (HG2.out.1.2.row (.int .i64 kb) (.bool nb) (.int .i64 eb) (.string sb) (.int .i64 0)).cells
                refine bodyPost_ret (results_res rfl _ _ rfl hP.1 hP.2.1 hP.2.2.1 hP.2.2.2.1 hP.2.2.2.2.1) rfl ?_
                exact ⟨rfl, bel_row HG2.out.2 (by omega) _⟩
              · rw [if_neg ht] at E
                subst E
                go_enter Tryz.func32, Tryz.ntmps32
                go_wp2_with fail
                refine (HO.out).mono ?_
                rintro x w1 ⟨rfl, hb1⟩
                have HG1 : Hid (GB w.heap.size ka na ea sa kb nb eb sb w1 ∧ Below w.heap.size w w1) := ⟨HG.out.1.next hb1, HG.out.2.trans (hb1.mono HG.out.2.size)⟩
                clear hb1 HG
                try clear c0 c1 c2 c3 c4 d0 d1 d2 d3 d4
                obtain ⟨c0, c1, c2, c3, c4⟩ := HG1.out.1.1.1.cells
                obtain ⟨d0, d1, d2, d3, d4⟩ := HG1.out.1.1.2.cells
                go_wp2_with fail
                refine (HC1.out _).mono ?_
                rintro x w2 ⟨rfl, hb2⟩
                have HG2 : Hid (GB w.heap.size ka na ea sa kb nb eb sb w2 ∧ Below w.heap.size w w2) := ⟨HG1.out.1.next hb2, HG1.out.2.trans (hb2.mono HG1.out.2.size)⟩
                clear hb2 HG1
                try clear c0 c1 c2 c3 c4 d0 d1 d2 d3 d4
                obtain ⟨c0, c1, c2, c3, c4⟩ := HG2.out.1.1.1.cells
                obtain ⟨d0, d1, d2, d3, d4⟩ := HG2.out.1.1.2.cells
                go_wp2_with (refine wpList_store_row rfl 29 (.tmp 6) (.tmp 51) rfl (w.heap.size + 2) #[.int .i64 ka, .bool na, .int .i64 ea, .string sa, .int .i64 0] rfl rfl _ _ HG2.out.1.2 (by kernel_rfl) rfl (one5 _ _ _ _ _) ?_)
                have hP := (HG2.out.1.2.row (.int .i64 ka) (.bool na) (.int .i64 ea) (.string sa) (.int .i64 0)).cells
                refine bodyPost_ret (results_res rfl _ _ rfl hP.1 hP.2.1 hP.2.2.1 hP.2.2.2.1 hP.2.2.2.2.1) rfl ?_
                exact ⟨rfl, bel_row HG2.out.2 (by omega) _⟩
end Go.Proofs.YtnkoeidolmiheaaGreatDoor
