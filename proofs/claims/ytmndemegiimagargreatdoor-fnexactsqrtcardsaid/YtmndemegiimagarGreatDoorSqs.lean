/-
  Sqrt of the model, walked.
-/
import Derived.Test.YtmndemegiimagarGreatDoorDvs
import Derived.Test.YtmndemegiimagarGreatDoorSqp
namespace Go.Proofs.YtmndemegiimagarGreatDoor
open Go.RowKit
set_option linter.unusedVariables false
set_option maxRecDepth 100000
theorem rt_one2 (S R S' R' : Int) {M : Int} (h : Rt M S R) (h' : Rt M S' R') : S = S' ∧ R = R' := by
  obtain ⟨e, s0, r0, r1⟩ := h
  obtain ⟨e', s0', r0', r1'⟩ := h'
  have key : ∀ a b c d : Int, a * a + b = M → 0 ≤ a → 0 ≤ b → b ≤ 2 * a → c * c + d = M → 0 ≤ c → 0 ≤ d → ¬ a < c := fun a b c d h1 h2 h3 h4 h5 h6 h7 h8 => by
    have q := sq_le (show 0 ≤ a + 1 by omega) (show a + 1 ≤ c by omega)
    have x : (a + 1) * (a + 1) = a * a + 2 * a + 1 := by grind
    omega
  have k1 := key S R S' R' e s0 r0 r1 e' s0' r0'
  have k2 := key S' R' S R e' s0' r0' r1' e s0 r0
  have es : S = S' := by omega
  subst es
  exact ⟨rfl, by omega⟩
theorem l1Down_two (e : Int) (w : World) (h0 : -100000 ≤ e) (h1 : e ≤ 100000) : Calls Tryz.prog 59 #[.int .i64 e, .int .i64 2] w fun x w' => x = .returned (.int .i64 (e / 2)) ∧ w' = w := by
  obtain ⟨q, hq⟩ : ∃ q, Int.tdiv e 2 = q := ⟨_, rfl⟩
  obtain ⟨m, hm⟩ : ∃ m, Int.tmod e 2 = m := ⟨_, rfl⟩
  have hd : q * 2 + m = e := by rw [← hq, ← hm]; have := Int.mul_tdiv_add_tmod e 2; omega
  have hm1 : m < 2 := by rw [← hm]; exact Int.tmod_lt_of_pos e (by decide)
  have hm0 : -2 < m := by rw [← hm]; exact Int.lt_tmod_of_pos e (by decide)
  have hsg : (0 ≤ e → 0 ≤ m) ∧ (e < 0 → m ≤ 0) := by
    rw [← hm]
    refine ⟨fun h => Int.tmod_nonneg 2 h, fun h => ?_⟩
    have h2 := Int.tmod_nonneg 2 (show 0 ≤ -e by omega)
    rw [Int.neg_tmod] at h2
    omega
  have hw1 : IntKind.i64.wrap q = q := by rw [IntKind.wrap_i64]; omega
  have hw2 : IntKind.i64.wrap m = m := by rw [IntKind.wrap_i64]; omega
  have hw3 : IntKind.i64.wrap (q - 1) = q - 1 := by rw [IntKind.wrap_i64]; omega
  have E2 : Hid (e / 2 = if m < 0 then q - 1 else q) := by show _ = _; split <;> omega
  rw [E2.out]
  by_cases hneg : e < 0
  · by_cases hmz : m = 0
    · subst hmz
      rw [if_neg (by omega)]
      clear E2 hd hm1 hm0 hsg h0 h1
      go_enter Tryz.func59, Tryz.ntmps59
      go_wp2
      go_ret
      exact ⟨rfl, rfl⟩
    · have b1 : (m != 0) = true := by simpa using hmz
      rw [if_pos (by have := hsg.2 hneg; omega)]
      clear E2 hd hm1 hm0 hsg h0 h1
      go_enter Tryz.func59, Tryz.ntmps59
      go_wp2
      go_ret
      exact ⟨rfl, rfl⟩
  · by_cases hmz : m = 0
    · subst hmz
      rw [if_neg (by omega)]
      clear E2 hd hm1 hm0 hsg h0 h1
      go_enter Tryz.func59, Tryz.ntmps59
      go_wp2
      go_ret
      exact ⟨rfl, rfl⟩
    · have b1 : (m != 0) = true := by simpa using hmz
      rw [if_neg (by have := hsg.1 (by omega); omega)]
      clear E2 hd hm1 hm0 hsg h0 h1
      go_enter Tryz.func59, Tryz.ntmps59
      go_wp2
      go_ret
      exact ⟨rfl, rfl⟩
theorem canon_ten (D : List Int) (h : Canon D) (hz : D ≠ [0]) : Canon (D ++ [0]) ∧ vl (D ++ [0]) = vl D * 10 := by
  refine ⟨⟨fun d hd => ?_, by simp, .inr ?_⟩, ?_⟩
  · rcases List.mem_append.1 hd with q | q
    · exact h.1 d q
    · rw [List.mem_singleton.1 q]; decide
  · rcases h.2.2 with q | q
    · match D, q with
      | [x], _ => intro c; simp at c; exact hz (by rw [c])
    · cases D with
      | nil => exact absurd h.2.1 (by simp)
      | cons x r => simpa using q
  · rw [vl_append]
    show vl [0] + 10 ^ 1 * vl D = _
    rw [show vl [0] = 0 from rfl]; omega
set_option maxRecDepth 100000 in
set_option maxHeartbeats 4000000 in
theorem sSqrt_any (f mode : Int) (ka : Int) (na : Bool) (ea : Int) (sa : ByteArray) (S : Int) (zz : Bool) (w : World) (hsa : sa.size ≤ 4611686018427387904) (hS : SqH f ea sa S zz) :
    Calls Tryz.prog 22 #[.int .i64 f, .int .i64 mode, numV ka na ea sa] w fun x w' => x = .returned (rsD (sqR f mode ka na ea sa S zz).1 (sqR f mode ka na ea sa S zz).2) ∧ Below w.heap.size w w' := by
  have HSq : Hid (SqH f ea sa S zz) := hS
  clear hS
  have HS : Hid (S1 w (s1W w ka na ea sa) ka na ea sa) := s1_new w ka na ea sa
  have HOk : Hid (∀ (g : Nat) X, g < X.heap.size → NRw X g 1 (fun _ => ka) (fun _ => na) (fun _ => ea) (fun _ => sa) → Calls Tryz.prog 30 #[.int .i64 f, .int .i64 mode, .slice (some ⟨g, 0, none⟩) 1 1] X fun x w' => x = .returned (.bool (rightB f mode 1 (fun _ => ka) (fun _ => na) (fun _ => ea) (fun _ => sa))) ∧ Below X.heap.size X w') := fun g X hg hr =>
    l13Ok_any f mode 1 g (fun _ => ka) (fun _ => na) (fun _ => ea) (fun _ => sa) X (by decide) hg hr (fun _ _ => hsa)
  have HSp : Hid (∀ (g : Nat) X, g < X.heap.size → NRw X g 1 (fun _ => ka) (fun _ => na) (fun _ => ea) (fun _ => sa) → Calls Tryz.prog 31 #[.slice (some ⟨g, 0, none⟩) 1 1] X fun x w' => x = .returned (.tuple #[rsV 3 false 0 { data := #[] } (spF 1 (fun _ => ka)), .bool (spB 1 (fun _ => ka))]) ∧ Below X.heap.size X w') := fun g X hg hr => l13Special_any 1 g _ _ _ _ X (by decide) hg hr
  obtain ⟨R, hR⟩ : ∃ R, sqR f mode ka na ea sa S zz = R := ⟨_, rfl⟩
  have HR : Hid (sqR f mode ka na ea sa S zz = R) := hR
  rw [hR]
  clear hR hsa
  have hb0 := build_res00
  go_enter Tryz.func22, Tryz.ntmps22
  have hsz : (s1W w ka na ea sa).heap.size = w.heap.size + 1 + 1 := by simp
  have hg0 := heap_at (s1W w ka na ea sa) (.cells #[.int .i64 ka, .bool na, .int .i64 ea, .string sa] 25)
  rw [hsz] at hg0
  have hsz4 : ((s1W w ka na ea sa).alloc (.cells #[.int .i64 ka, .bool na, .int .i64 ea, .string sa] 25)).heap.size = w.heap.size + 1 + 1 + 1 := by simp
  have HL : Hid (NRw ((s1W w ka na ea sa).alloc (.cells #[.int .i64 ka, .bool na, .int .i64 ea, .string sa] 25)) (w.heap.size + 1 + 1) 1 (fun _ => ka) (fun _ => na) (fun _ => ea) (fun _ => sa) ∧ w.heap.size + 1 + 1 < ((s1W w ka na ea sa).alloc (.cells #[.int .i64 ka, .bool na, .int .i64 ea, .string sa] 25)).heap.size) := ⟨nrwO hg0, by rw [hsz4]; omega⟩
  clear hsz hg0 hsz4
  go_wp2_with fail
  refine (HOk.out (w.heap.size + 1 + 1) _ HL.out.2 HL.out.1).mono ?_
  rintro e w1 ⟨rfl, hb1⟩
  have HS1 : Hid (S1 w w1 ka na ea sa) := (HS.out.alloc _).next hb1
  have HL1 : Hid (NRw w1 (w.heap.size + 1 + 1) 1 (fun _ => ka) (fun _ => na) (fun _ => ea) (fun _ => sa) ∧ w.heap.size + 1 + 1 < w1.heap.size) := ⟨HL.out.1.below hb1 HL.out.2, Nat.lt_of_lt_of_le HL.out.2 hb1.size⟩
  clear hb1 HL HS HOk
  cases hO : rightB f mode 1 (fun _ => ka) (fun _ => na) (fun _ => ea) (fun _ => sa) with
  | false =>
    have ER : Hid (R = (false, (0, 0, { data := #[] }, 0))) := by show _ = _; rw [← HR.out]; unfold sqR ofR; rw [hO]; rfl
    have HZ3 : Hid (At5 w1 (w.heap.size + 1) (.int .i64 0) (.bool false) (.int .i64 0) (.string { data := #[] }) (.int .i64 0) ∧ Below w.heap.size w w1) := ⟨HS1.out.2.1, HS1.out.2.2.1⟩
    clear hO HSp HS1 HL1 HR
    go_wp2_with (refine wpList_store_row rfl 27 (.tmp 6) (.tmp 25) rfl (w.heap.size + 1) #[.int .i64 0, .bool false, .int .i64 0, .string { data := #[] }, .int .i64 0] rfl rfl _ _ HZ3.out.1 (by kernel_rfl) rfl (one5 _ _ _ _ _) ?_)
    have hP := (HZ3.out.1.row (.int .i64 0) (.bool false) (.int .i64 0) (.string { data := #[] }) (.int .i64 0)).cells
    refine bodyPost_ret (results_res rfl _ _ rfl hP.1 hP.2.1 hP.2.2.1 hP.2.2.2.1 hP.2.2.2.2.1) rfl ?_
    exact ⟨by rw [ER.out], bel_row HZ3.out.2 (by omega) _⟩
  | true =>
    go_wp2_with fail
    refine (HSp.out (w.heap.size + 1 + 1) _ HL1.out.2 HL1.out.1).mono ?_
    rintro e w2 ⟨rfl, hb2⟩
    have HS2 : Hid (S1 w w2 ka na ea sa) := HS1.out.next hb2
    clear hb2 HL1 HS1 HSp hb0
    cases hB : spB 1 (fun _ => ka) with
    | true =>
      have ER : Hid (R = (false, (3, 0, { data := #[] }, spF 1 (fun _ => ka)))) := by show _ = _; rw [← HR.out]; unfold sqR ofR; rw [hO, hB]; rfl
      clear hO hB HR
      generalize spF 1 (fun _ => ka) = FL at *
      have HZ3 : Hid (At5 (w2.alloc (.cells #[.int .i64 3, .bool false, .int .i64 0, .string { data := #[] }, .int .i64 FL] 27)) (w.heap.size + 1) (.int .i64 0) (.bool false) (.int .i64 0) (.string { data := #[] }) (.int .i64 0) ∧ Below w.heap.size w (w2.alloc (.cells #[.int .i64 3, .bool false, .int .i64 0, .string { data := #[] }, .int .i64 FL] 27))) := ⟨(HS2.out.alloc _).2.1, (HS2.out.alloc _).2.2.1⟩
      go_wp2_with (refine wpList_store_row rfl 27 (.tmp 6) (.tmp 32) rfl (w.heap.size + 1) #[.int .i64 3, .bool false, .int .i64 0, .string { data := #[] }, .int .i64 FL] rfl rfl _ _ HZ3.out.1 (by kernel_rfl) rfl (one5 _ _ _ _ _) ?_)
      have hP := (HZ3.out.1.row (.int .i64 3) (.bool false) (.int .i64 0) (.string { data := #[] }) (.int .i64 FL)).cells
      refine bodyPost_ret (results_res rfl _ _ rfl hP.1 hP.2.1 hP.2.2.1 hP.2.2.2.1 hP.2.2.2.2.1) rfl ?_
      exact ⟨by rw [ER.out], bel_row HZ3.out.2 (by omega) _⟩
    | false =>
      have ER : R = sqX f mode ka na ea sa S zz := by rw [← HR.out]; unfold sqR ofR; rw [hO, hB]; rfl
      have hrg := rgn_one hO hB
      have HSx : Hid (S1 w (w2.alloc (.cells #[.int .i64 3, .bool false, .int .i64 0, .string { data := #[] }, .int .i64 (spF 1 (fun _ => ka))] 27)) ka na ea sa) := HS2.out.alloc _
      generalize spF 1 (fun _ => ka) = FL at *
      clear hO hB HR HS2
      obtain ⟨hm, hr⟩ := hrg
      obtain ⟨a0, a1, a2, a3, a4⟩ := HSx.out.1.cells
      unfold sqX at ER
      by_cases hA : ka = 2
      · subst hA
        have hz : zB 2 sa = false := rfl
        cases na with
        | true =>
          rw [if_pos ⟨rfl, hz⟩] at ER
          have EX : Hid (R = (false, (3, 0, { data := #[] }, 1))) := ER
          clear hr hm ER hz HSq
          go_wp2_with fail
          refine (l13Invalid_any _).mono ?_
          rintro e w4 ⟨rfl, hb4⟩
          have HZ3 : Hid (At5 w4 (w.heap.size + 1) (.int .i64 0) (.bool false) (.int .i64 0) (.string { data := #[] }) (.int .i64 0) ∧ Below w.heap.size w w4) := HSx.out.end hb4
          clear hb4 HSx
          go_wp2_with (refine wpList_store_row rfl 27 (.tmp 6) (.tmp 38) rfl (w.heap.size + 1) #[.int .i64 3, .bool false, .int .i64 0, .string { data := #[] }, .int .i64 1] rfl rfl _ _ HZ3.out.1 (by kernel_rfl) rfl (one5 _ _ _ _ _) ?_)
          have hP := (HZ3.out.1.row (.int .i64 3) (.bool false) (.int .i64 0) (.string { data := #[] }) (.int .i64 1)).cells
          refine bodyPost_ret (results_res rfl _ _ rfl hP.1 hP.2.1 hP.2.2.1 hP.2.2.2.1 hP.2.2.2.2.1) rfl ?_
          exact ⟨by rw [EX.out], bel_row HZ3.out.2 (by omega) _⟩
        | false =>
          rw [if_neg (fun c => by cases c.1), if_pos rfl] at ER
          have EX : Hid (R = (false, (2, 0, { data := #[] }, 0))) := ER
          clear hr hm ER hz HSq
          go_wp2_with fail
          refine (l13Inf_any false _).mono ?_
          rintro e w4 ⟨rfl, hb4⟩
          have HZ3 : Hid (At5 w4 (w.heap.size + 1) (.int .i64 0) (.bool false) (.int .i64 0) (.string { data := #[] }) (.int .i64 0) ∧ Below w.heap.size w w4) := HSx.out.end hb4
          clear hb4 HSx
          go_wp2_with (refine wpList_store_row rfl 27 (.tmp 6) (.tmp 39) rfl (w.heap.size + 1) #[.int .i64 2, .bool false, .int .i64 0, .string { data := #[] }, .int .i64 0] rfl rfl _ _ HZ3.out.1 (by kernel_rfl) rfl (one5 _ _ _ _ _) ?_)
          have hP := (HZ3.out.1.row (.int .i64 2) (.bool false) (.int .i64 0) (.string { data := #[] }) (.int .i64 0)).cells
          refine bodyPost_ret (results_res rfl _ _ rfl hP.1 hP.2.1 hP.2.2.1 hP.2.2.2.1 hP.2.2.2.2.1) rfl ?_
          exact ⟨by rw [EX.out], bel_row HZ3.out.2 (by omega) _⟩
      · have hk1 : ka = 1 := hr.2.2.1.resolve_right hA
        subst hk1
        rw [if_neg hA] at ER
        have hz1 := hr.z48
        obtain ⟨hsa, nka, v0a, -, l34a, l1a, hszA, hea⟩ := hr.tn rfl
        obtain ⟨ca, lpa, -, -⟩ := hr.2.2.2.1 rfl
        have hsta := hr.2.1
        have hP : 1 ≤ limP f ∧ limP f ≤ 34 := by rcases hr.1 with rfl | rfl <;> decide
        have HDn : Hid (∀ X, Calls Tryz.prog 59 #[.int .i64 ea, .int .i64 2] X fun x w' => x = .returned (.int .i64 (ea / 2)) ∧ w' = X) := fun X => l1Down_two ea X (by omega) (by omega)
        obtain ⟨RR, hRt, hzz⟩ := HSq.out v0a
        obtain ⟨za, hza⟩ : ∃ z, zB 1 sa = z := ⟨_, rfl⟩
        rw [hza] at hz1 ER
        cases za with
        | true =>
          rw [if_neg (fun c => by cases c.2)] at ER
          have hva : vl (dl sa) = 0 := by
            unfold zB at hza
            simpa using hza
          have HFi : Hid (∀ X, Calls Tryz.prog 35 #[.int .i64 f, .int .i64 mode, .bool na, .string { data := #[48] }, .int .i64 (ea / 2), .bool false, .int .i64 (ea / 2)] X fun x w' => x = .returned (rsD R.1 R.2) ∧ Below X.heap.size X w') := fun X => by
            have h00 : nt 0 = [0] := (nt_of [0] 0 canon_zero rfl (by decide)).symm
            have hS0 := ((sq_size f hr.1 (dl sa) ca lpa ea S RR hRt).2.2.2.2.2.1 hva).1
            have hE : finD f mode na (nt S) ((ea - sqK f ea (dl sa).length) / 2) (!zz) (ea / 2) = finD f mode na [0] (ea / 2) false (ea / 2) := by
              rw [hS0, h00]
              unfold finD
              rw [if_pos rfl, if_pos rfl]
            have := fin_ok f mode hr.1 na [0] (ea / 2) false (ea / 2) X canon_zero (by decide) (by omega) (by omega)
            rw [show tx [0] = { data := #[48] } by apply ByteArray.ext; rw [tx_data]; rfl] at this
            rw [ER, hE]
            dsimp only
            exact this
          clear hr hm ER hza hA hva hsa nka v0a l34a l1a hszA hea ca lpa hsta hP hRt hzz HSq
          generalize ea / 2 = E2 at *
          obtain ⟨R0, F1, F2, F3, F4⟩ := R
          go_wp2_with fail
          refine (HDn.out _).mono ?_
          rintro e wx ⟨rfl, rfl⟩
          clear HDn
          go_wp2_with fail
          refine (HFi.out _).mono ?_
          rintro e w4 ⟨rfl, hb4⟩
          have HZ3 : Hid (At5 w4 (w.heap.size + 1) (.int .i64 0) (.bool false) (.int .i64 0) (.string { data := #[] }) (.int .i64 0) ∧ Below w.heap.size w w4) := HSx.out.end hb4
          clear hb4 HSx
          go_wp2_with (refine wpList_store_row rfl 27 (.tmp 6) (.tmp 52) rfl (w.heap.size + 1) #[.int .i64 F1, .bool R0, .int .i64 F2, .string F3, .int .i64 F4] rfl rfl _ _ HZ3.out.1 (by kernel_rfl) rfl (one5 _ _ _ _ _) ?_)
          have hP := (HZ3.out.1.row (.int .i64 F1) (.bool R0) (.int .i64 F2) (.string F3) (.int .i64 F4)).cells
          refine bodyPost_ret (results_res rfl _ _ rfl hP.1 hP.2.1 hP.2.2.1 hP.2.2.2.1 hP.2.2.2.2.1) rfl ?_
          exact ⟨rfl, bel_row HZ3.out.2 (by omega) _⟩
        | false =>
          cases na with
          | true =>
            rw [if_pos ⟨rfl, rfl⟩] at ER
            have EX : Hid (R = (false, (3, 0, { data := #[] }, 1))) := ER
            clear hr hm ER hza hA hsa nka v0a l34a l1a hszA hea ca lpa hsta hP hRt hzz HSq
            generalize ea / 2 = E2 at *
            go_wp2_with fail
            refine (HDn.out _).mono ?_
            rintro e wx ⟨rfl, rfl⟩
            clear HDn
            go_wp2_with fail
            refine (l13Invalid_any _).mono ?_
            rintro e w4 ⟨rfl, hb4⟩
            have HZ3 : Hid (At5 w4 (w.heap.size + 1) (.int .i64 0) (.bool false) (.int .i64 0) (.string { data := #[] }) (.int .i64 0) ∧ Below w.heap.size w w4) := HSx.out.end hb4
            clear hb4 HSx
            go_wp2_with (refine wpList_store_row rfl 27 (.tmp 6) (.tmp 55) rfl (w.heap.size + 1) #[.int .i64 3, .bool false, .int .i64 0, .string { data := #[] }, .int .i64 1] rfl rfl _ _ HZ3.out.1 (by kernel_rfl) rfl (one5 _ _ _ _ _) ?_)
            have hP := (HZ3.out.1.row (.int .i64 3) (.bool false) (.int .i64 0) (.string { data := #[] }) (.int .i64 1)).cells
            refine bodyPost_ret (results_res rfl _ _ rfl hP.1 hP.2.1 hP.2.2.1 hP.2.2.2.1 hP.2.2.2.2.1) rfl ?_
            exact ⟨by rw [EX.out], bel_row HZ3.out.2 (by omega) _⟩
          | false =>
            rw [if_neg (fun c => by cases c.1)] at ER
            have hva : vl (dl sa) ≠ 0 := by
              unfold zB at hza
              simpa using hza
            have hzl : dl sa ≠ [0] := fun c => hva (by rw [c]; rfl)
            obtain ⟨n2, hn2⟩ : ∃ n : Nat, n = (limP f).toNat * 2 + 6 + (ea - 2 * (ea / 2)).toNat := ⟨_, rfl⟩
            have m0 : 0 ≤ vl (dl sa) * 10 ^ n2 := Int.mul_nonneg v0a (Int.le_of_lt (ten_pos _))
            obtain ⟨S2, R2, e2, s20, r20, r21⟩ := root_is (vl (dl sa) * 10 ^ n2).toNat
            rw [show (((vl (dl sa) * 10 ^ n2).toNat : Nat) : Int) = vl (dl sa) * 10 ^ n2 by omega] at e2
            have hR2 : Rt (vl (dl sa) * 10 ^ n2) S2 R2 := ⟨e2, s20, r20, r21⟩
            obtain ⟨hsame, N2, N3⟩ := sq_same f mode hr.1 false (dl sa) ca lpa hva ea S RR S2 R2 hRt n2 hn2 hR2
            have hbd := vl_bd (dl sa) ca.1
            have N1 : Nok (vl (dl sa) * 10 ^ n2) := by
              refine ⟨m0, ?_⟩
              have := Int.mul_lt_mul_of_pos_right hbd.2 (ten_pos n2)
              rw [← Int.pow_add] at this
              exact Int.lt_of_lt_of_le this (pow_mono _ _ (by omega))
            have HLm : Hid (∀ X, Calls Tryz.prog 47 #[.int .i64 f] X fun r w' => r = .returned (.tuple #[.int .i64 (limP f), .int .i64 (limL f), .int .i64 (limH f)]) ∧ w' = X) := fun X => Limits_any f X
            have HRo : Hid (∀ X, Calls Tryz.prog 60 #[.string (tn (vl (dl sa) * 10 ^ n2))] X fun e w' => e = .returned (.tuple #[.string (tn S2), .string (tn R2)]) ∧ Below X.heap.size X w') := fun X => by
              refine (l11Root_any (nt (vl (dl sa) * 10 ^ n2)) X (nok_spec N1).1 (by have := nok_len N1; omega)).mono ?_
              rintro e w' ⟨Q, T, rfl, hQ, hT, hv, hv2, lQ, lT, hb⟩
              rw [(nok_spec N1).2] at hv
              obtain ⟨q1, q2⟩ := rt_one2 (vl Q) (vl T) S2 R2 ⟨hv, (vl_bd Q hQ.1).1, (vl_bd T hT.1).1, hv2⟩ hR2
              have := nok_len N1
              exact ⟨by rw [nt_of Q S2 hQ q1 (by omega), nt_of T R2 hT q2 (by omega)]; rfl, hb⟩
            obtain ⟨zz2, hzz2⟩ : ∃ z, decide (R2 = 0) = z := ⟨_, rfl⟩
            have hz0 : ((tn R2).toList == [48]) = zz2 := by
              rw [← hzz2]
              by_cases c : R2 = 0
              · rw [c, tn_0]; rfl
              · rw [tn_is0 N3 c, decide_eq_false c]
            have HFi : Hid (∀ X, Calls Tryz.prog 35 #[.int .i64 f, .int .i64 mode, .bool false, .string (tn S2), .int .i64 (ea / 2 - (limP f + 3)), .bool (!zz2), .int .i64 (ea / 2)] X fun x w' => x = .returned (rsD R.1 R.2) ∧ Below X.heap.size X w') := fun X => by
              have := fin_ok f mode hr.1 false (nt S2) (ea / 2 - (limP f + 3)) (!zz2) (ea / 2) X (nok_spec N2).1 (nok_len N2) (by omega) (by omega)
              rw [ER, ← hzz, ← hsame, hzz2]
              dsimp only
              exact this
            have hw1 : IntKind.i64.wrap (2 * (ea / 2)) = 2 * (ea / 2) := by rw [IntKind.wrap_i64]; omega
            have hw2 : IntKind.i64.wrap (limP f + 3) = limP f + 3 := by rw [IntKind.wrap_i64]; omega
            have hw3 : IntKind.i64.wrap (2 * (limP f + 3)) = 2 * (limP f + 3) := by rw [IntKind.wrap_i64]; omega
            have hw4 : IntKind.i64.wrap (ea / 2 - (limP f + 3)) = ea / 2 - (limP f + 3) := by rw [IntKind.wrap_i64]; omega
            by_cases hev : ea = 2 * (ea / 2)
            · have HSh : Hid (∀ X, Calls Tryz.prog 51 #[.string sa, .int .i64 (2 * (limP f + 3))] X fun e w' => e = .returned (.string (tn (vl (dl sa) * 10 ^ n2))) ∧ Below X.heap.size X w') := fun X => by
                have := l11Shift_is (dl sa) (2 * (limP f + 3)) X ca (by omega) (by omega) (.inr (by omega))
                rw [← hsta, show (2 * (limP f + 3)).toNat = n2 by omega] at this
                exact this
              have hbe : (ea == 2 * (ea / 2)) = true := by rw [← hev]; exact beq_self_eq_true _
              clear hr hm ER hza hA hva hzl hsa nka v0a l34a l1a hszA hea ca lpa hsta hP hRt hzz HSq hn2 m0 e2 s20 r20 r21 hR2 hsame N1 N2 N3 hbd hzz2 hev
              generalize tn (vl (dl sa) * 10 ^ n2) = TM at *
              generalize tn S2 = TS at *
              generalize tn R2 = TR at *
              generalize ea / 2 = E2 at *
              generalize limP f = P at *
              generalize limL f = L0 at *
              generalize limH f = H0 at *
              obtain ⟨R0, F1, F2, F3, F4⟩ := R
              go_wp2_with fail
              refine (HDn.out _).mono ?_
              rintro e wx ⟨rfl, rfl⟩
              clear HDn
              go_wp2_with fail
              refine (HLm.out _).mono ?_
              rintro e wx ⟨rfl, rfl⟩
              clear HLm
              go_wp2_with fail
              refine (HSh.out _).mono ?_
              rintro e w10 ⟨rfl, hb10⟩
              have HSy : Hid (S1 w w10 1 false ea sa) := HSx.out.next hb10
              clear hb10 HSx HSh a0 a1 a2 a3 a4
              go_wp2_with fail
              refine (HRo.out _).mono ?_
              rintro e w11 ⟨rfl, hb11⟩
              have HSz : Hid (S1 w w11 1 false ea sa) := HSy.out.next hb11
              clear hb11 HSy HRo
              go_wp2_with fail
              refine (HFi.out _).mono ?_
              rintro e w4 ⟨rfl, hb4⟩
              have HZ3 : Hid (At5 w4 (w.heap.size + 1) (.int .i64 0) (.bool false) (.int .i64 0) (.string { data := #[] }) (.int .i64 0) ∧ Below w.heap.size w w4) := HSz.out.end hb4
              clear hb4 HSz
              go_wp2_with (refine wpList_store_row rfl 27 (.tmp 6) (.tmp 90) rfl (w.heap.size + 1) #[.int .i64 F1, .bool R0, .int .i64 F2, .string F3, .int .i64 F4] rfl rfl _ _ HZ3.out.1 (by kernel_rfl) rfl (one5 _ _ _ _ _) ?_)
              have hP := (HZ3.out.1.row (.int .i64 F1) (.bool R0) (.int .i64 F2) (.string F3) (.int .i64 F4)).cells
              refine bodyPost_ret (results_res rfl _ _ rfl hP.1 hP.2.1 hP.2.2.1 hP.2.2.2.1 hP.2.2.2.2.1) rfl ?_
              exact ⟨rfl, bel_row HZ3.out.2 (by omega) _⟩
            · obtain ⟨ct, vt⟩ := canon_ten (dl sa) ca hzl
              have HSh : Hid (∀ X, Calls Tryz.prog 51 #[.string (tx (dl sa ++ [0])), .int .i64 (2 * (limP f + 3))] X fun e w' => e = .returned (.string (tn (vl (dl sa) * 10 ^ n2))) ∧ Below X.heap.size X w') := fun X => by
                have := l11Shift_is (dl sa ++ [0]) (2 * (limP f + 3)) X ct (by simp; omega) (by omega) (.inr (by omega))
                rw [vt] at this
                have e3 : vl (dl sa) * 10 * 10 ^ (2 * (limP f + 3)).toNat = vl (dl sa) * 10 ^ n2 := by
                  rw [Int.mul_assoc, ← Int.pow_succ', show (2 * (limP f + 3)).toNat + 1 = n2 by omega]
                rw [e3] at this
                exact this
              have hbe : (ea == 2 * (ea / 2)) = false := beq_eq_false_iff_ne.2 hev
              have hap : sa ++ { data := #[48] } = tx (dl sa ++ [0]) := by
                have := tx_more (dl sa)
                rw [← hsta] at this
                exact this
              have s1 : (sa.size : Int) ≤ 8388608 := by omega
              clear hr hm ER hza hA hva hzl hsa nka v0a l34a l1a hszA hea ca lpa hsta hP hRt hzz HSq hn2 m0 e2 s20 r20 r21 hR2 hsame N1 N2 N3 hbd hzz2 hev ct vt
              generalize tx (dl sa ++ [0]) = T0 at *
              generalize tn (vl (dl sa) * 10 ^ n2) = TM at *
              generalize tn S2 = TS at *
              generalize tn R2 = TR at *
              generalize ea / 2 = E2 at *
              generalize limP f = P at *
              generalize limL f = L0 at *
              generalize limH f = H0 at *
              obtain ⟨R0, F1, F2, F3, F4⟩ := R
              go_wp2_with fail
              refine (HDn.out _).mono ?_
              rintro e wx ⟨rfl, rfl⟩
              clear HDn
              go_wp2_with fail
              refine (HLm.out _).mono ?_
              rintro e wx ⟨rfl, rfl⟩
              clear HLm
              go_wp2_with fail
              refine (HSh.out _).mono ?_
              rintro e w10 ⟨rfl, hb10⟩
              have HSy : Hid (S1 w w10 1 false ea sa) := HSx.out.next hb10
              clear hb10 HSx HSh a0 a1 a2 a3 a4
              go_wp2_with fail
              refine (HRo.out _).mono ?_
              rintro e w11 ⟨rfl, hb11⟩
              have HSz : Hid (S1 w w11 1 false ea sa) := HSy.out.next hb11
              clear hb11 HSy HRo
              go_wp2_with fail
              refine (HFi.out _).mono ?_
              rintro e w4 ⟨rfl, hb4⟩
              have HZ3 : Hid (At5 w4 (w.heap.size + 1) (.int .i64 0) (.bool false) (.int .i64 0) (.string { data := #[] }) (.int .i64 0) ∧ Below w.heap.size w w4) := HSz.out.end hb4
              clear hb4 HSz
              go_wp2_with (refine wpList_store_row rfl 27 (.tmp 6) (.tmp 90) rfl (w.heap.size + 1) #[.int .i64 F1, .bool R0, .int .i64 F2, .string F3, .int .i64 F4] rfl rfl _ _ HZ3.out.1 (by kernel_rfl) rfl (one5 _ _ _ _ _) ?_)
              have hP := (HZ3.out.1.row (.int .i64 F1) (.bool R0) (.int .i64 F2) (.string F3) (.int .i64 F4)).cells
              refine bodyPost_ret (results_res rfl _ _ rfl hP.1 hP.2.1 hP.2.2.1 hP.2.2.2.1 hP.2.2.2.2.1) rfl ?_
              exact ⟨rfl, bel_row HZ3.out.2 (by omega) _⟩
end Go.Proofs.YtmndemegiimagarGreatDoor
