/-
  Mul of the program at any arguments, walked.
-/
import Derived.Test.YteofommckgeemaaGreatDoorSmn

namespace Go.Proofs.YteofommckgeemaaGreatDoor
open Go.RowKit
set_option linter.unusedVariables false
set_option maxRecDepth 100000
theorem z0B_tn (v : Int) (h : Nok v) : z0B 1 (tn v) = decide (v = 0) := by
  unfold z0B
  rw [decide_eq_true (rfl : (1 : Int) = 1), Bool.true_and]
  by_cases hz : v = 0
  · subst hz; rw [tn_0]; rfl
  · rw [tn_is0 h hz, decide_eq_false hz]
set_option maxRecDepth 100000 in
set_option maxHeartbeats 1000000 in
theorem productOf_fin (na nb : Bool) (ea eb a b : Int) (w : World) (ha : Nok a) (hb : Nok b) (hab : Nok (a * b)) (hea : -7000 ≤ ea ∧ ea ≤ 7000) (heb : -7000 ≤ eb ∧ eb ≤ 7000) :
    Calls Tryz.prog 79 #[numV 1 na ea (tn a), numV 1 nb eb (tn b)] w fun x w' => x = .returned (numV 1 (!(na == nb)) (ea + eb) (tn (a * b))) ∧ Below w.heap.size w w' := by
  have HMu : Hid (∀ X, Calls Tryz.prog 155 #[.string (tn a), .string (tn b)] X fun e w' => e = .returned (.string (tn (a * b))) ∧ Below X.heap.size X w') := fun X => by
    have := iNatMul_any (tn a) (tn b) X (tn_sz a) (tn_sz b)
    rwa [mul_tn ha hb, fit_tn hab] at this
  have we : IntKind.i64.wrap (ea + eb) = ea + eb := by rw [IntKind.wrap_i64]; omega
  obtain ⟨ng, hng⟩ : ∃ ng, (!(na == nb)) = ng := ⟨_, rfl⟩
  rw [hng]
  generalize tn (a * b) = TP at *
  generalize tn a = T1 at *
  generalize tn b = T2 at *
  clear ha hb hab hea heb
  have hbn := build_num 1 ng (ea + eb) TP
  have HN : Hid (N3 w 1 na ea T1 1 nb eb T2 (((w.alloc (.cells #[.int .i64 1, .bool na, .int .i64 ea, .string T1] 78)).alloc (.cells #[.int .i64 1, .bool nb, .int .i64 eb, .string T2] 78)).alloc (.cells #[.int .i64 0, .bool false, .int .i64 0, .string { data := #[] }] 78))) := n3_new w 1 na ea T1 1 nb eb T2
  go_enter Tryz.func79, Tryz.ntmps79
  go_upto_region 3 with fail
  clear hng
  generalize ((w.alloc (.cells #[.int .i64 1, .bool na, .int .i64 ea, .string T1] 78)).alloc (.cells #[.int .i64 1, .bool nb, .int .i64 eb, .string T2] 78)).alloc (.cells #[.int .i64 0, .bool false, .int .i64 0, .string { data := #[] }] 78) = w0 at *
  have HX0 : Hid (Below w0.heap.size w0 w0.drew) := (Below.refl _ _).drew
  refine wp_region_tail (C := fun W => Below w0.heap.size w0 W) 11 (by kernel_rfl) (by kernel_rfl) HX0.out ?_
  simp only [List.take_succ_cons, List.take_zero, List.drop_succ_cons, List.drop_zero]
  repeat (refine wpQuiet_step (fun K hK => ?_); go_simp; first | (refine hK _ ?_; clear hK K) | (apply Exists.intro; refine ⟨fun wx hC => ?_, hK _ ?_⟩; (first | exact rfl | exact Calls.class_of (HMu.out wx) (fun w' hb => bel1 hC hb) | (obtain ⟨a0, a1, a2, a3, a4⟩ := (HN.out.next hC).1.cells; go_simp; exact rfl) | (obtain ⟨a0, a1, a2, a3, a4⟩ := (HN.out.next hC).2.1.cells; go_simp; exact rfl)); clear hK K))
  refine wpQuiet_nil ?_
  intro w1 hb1
  have HN1 : Hid (N3 w 1 na ea T1 1 nb eb T2 w1) := HN.out.next hb1
  clear hb1 HN HX0 HMu
  go_wp2_with (refine wpList_store_row rfl 78 (.tmp 4) (.tmp 30) rfl (w.heap.size + 2) #[.int .i64 1, .bool ng, .int .i64 (ea + eb), .string TP] rfl rfl _ _ HN1.out.2.2.1 (by kernel_rfl) rfl (one4 _ _ _ _) ?_)
  have hP := (HN1.out.2.2.1.row (.int .i64 1) (.bool ng) (.int .i64 (ea + eb)) (.string TP)).cells
  refine bodyPost_ret (results_num rfl _ _ rfl hP.1 hP.2.1 hP.2.2.1 hP.2.2.2.1) rfl ?_
  exact ⟨rfl, bel_row HN1.out.2.2.2 (by omega) _⟩
/-- How productOf ends where an infinity is among the two. -/
def poE (ng : Bool) (z : Bool) : Ending := if z then thrown (rsV 3 false 0 { data := #[] } 1) else .returned (numV 2 ng 0 { data := #[] })
set_option maxRecDepth 100000 in
set_option maxHeartbeats 1000000 in
theorem productOf_inf (ka : Int) (na : Bool) (ea : Int) (sa : ByteArray) (kb : Int) (nb : Bool) (eb : Int) (sb : ByteArray) (za zb : Bool) (w : World) (hk : ¬ (ka = 1 ∧ kb = 1))
    (HZa : Hid (∀ X, Calls Tryz.prog 93 #[numV ka na ea sa] X fun x w' => x = .returned (.bool za) ∧ Below X.heap.size X w')) (HZb : Hid (∀ X, Calls Tryz.prog 93 #[numV kb nb eb sb] X fun x w' => x = .returned (.bool zb) ∧ Below X.heap.size X w')) :
    Calls Tryz.prog 79 #[numV ka na ea sa, numV kb nb eb sb] w fun x w' => x = poE (!(na == nb)) (za || zb) ∧ Below w.heap.size w w' := by
  obtain ⟨ng, hng⟩ : ∃ ng, (!(na == nb)) = ng := ⟨_, rfl⟩
  rw [hng]
  have HN : Hid (N3 w ka na ea sa kb nb eb sb (n3W w ka na ea sa kb nb eb sb)) := n3_new w ka na ea sa kb nb eb sb
  have hbi := build_inf ng
  obtain ⟨c1b, hc1⟩ : ∃ c, (ka == 1) = c := ⟨_, rfl⟩
  obtain ⟨c2b, hc2⟩ : ∃ c, (kb == 1) = c := ⟨_, rfl⟩
  have hcc : (c1b && c2b) = false := by
    rw [← hc1, ← hc2]
    by_cases h1 : ka = 1
    · have h2 : kb ≠ 1 := fun h2 => hk ⟨h1, h2⟩
      rw [beq_eq_false_iff_ne.2 h2, Bool.and_false]
    · rw [beq_eq_false_iff_ne.2 h1, Bool.false_and]
  obtain ⟨RE, hRE⟩ : ∃ r, poE ng (za || zb) = r := ⟨_, rfl⟩
  have HRE : Hid (poE ng (za || zb) = RE) := hRE
  rw [hRE]
  clear hRE hk
  have main : ∀ (c1b c2b : Bool), (ka == 1) = c1b → (kb == 1) = c2b → (c1b && c2b) = false → Calls Tryz.prog 79 #[numV ka na ea sa, numV kb nb eb sb] w fun x w' => x = RE ∧ Below w.heap.size w w' := fun c1 c2 h1 h2 h3 => by
    clear hc1 hc2 hcc
    cases za with
    | true =>
      have E : Hid (RE = thrown (rsV 3 false 0 { data := #[] } 1)) := by show _ = _; rw [← HRE.out]; rfl
      clear HRE
      cases c1 with
      | true =>
        obtain rfl : c2 = false := by simpa using h3
        clear h3
        go_enter Tryz.func79, Tryz.ntmps79
        go_upto_region 4 with fail
        go_wp2_with fail
        refine (HZa.out _).mono ?_
        rintro x w1 ⟨rfl, hb1⟩
        have HN1 : Hid (N3 w ka na ea sa kb nb eb sb w1) := HN.out.next hb1
        clear hb1 HN HZa HZb
        go_wp2_with fail
        refine (iInvalid_any _).mono ?_
        rintro x w4 ⟨rfl, hb4⟩
        go_wp2
        exact ⟨rfl, by rw [E.out], (HN1.out.next hb4).2.2.2⟩
      | false =>
        clear h3 h2
        go_enter Tryz.func79, Tryz.ntmps79
        go_upto_region 4 with fail
        go_wp2_with fail
        refine (HZa.out _).mono ?_
        rintro x w1 ⟨rfl, hb1⟩
        have HN1 : Hid (N3 w ka na ea sa kb nb eb sb w1) := HN.out.next hb1
        clear hb1 HN HZa HZb
        go_wp2_with fail
        refine (iInvalid_any _).mono ?_
        rintro x w4 ⟨rfl, hb4⟩
        go_wp2
        exact ⟨rfl, by rw [E.out], (HN1.out.next hb4).2.2.2⟩
    | false =>
      cases zb with
      | true =>
        have E : Hid (RE = thrown (rsV 3 false 0 { data := #[] } 1)) := by show _ = _; rw [← HRE.out]; rfl
        clear HRE
        cases c1 with
        | true =>
          obtain rfl : c2 = false := by simpa using h3
          clear h3
          go_enter Tryz.func79, Tryz.ntmps79
          go_upto_region 4 with fail
          go_wp2_with fail
          refine (HZa.out _).mono ?_
          rintro x w1 ⟨rfl, hb1⟩
          have HN1 : Hid (N3 w ka na ea sa kb nb eb sb w1) := HN.out.next hb1
          obtain ⟨q0, q1, q2, q3, q4⟩ := HN1.out.2.1.cells
          clear hb1 HN HZa
          go_wp2_with fail
          refine (HZb.out _).mono ?_
          rintro x w2 ⟨rfl, hb2⟩
          have HN2 : Hid (N3 w ka na ea sa kb nb eb sb w2) := HN1.out.next hb2
          clear hb2 HN1 HZb q0 q1 q2 q3 q4
          go_wp2_with fail
          refine (iInvalid_any _).mono ?_
          rintro x w4 ⟨rfl, hb4⟩
          go_wp2
          exact ⟨rfl, by rw [E.out], (HN2.out.next hb4).2.2.2⟩
        | false =>
          clear h3 h2
          go_enter Tryz.func79, Tryz.ntmps79
          go_upto_region 4 with fail
          go_wp2_with fail
          refine (HZa.out _).mono ?_
          rintro x w1 ⟨rfl, hb1⟩
          have HN1 : Hid (N3 w ka na ea sa kb nb eb sb w1) := HN.out.next hb1
          obtain ⟨q0, q1, q2, q3, q4⟩ := HN1.out.2.1.cells
          clear hb1 HN HZa
          go_wp2_with fail
          refine (HZb.out _).mono ?_
          rintro x w2 ⟨rfl, hb2⟩
          have HN2 : Hid (N3 w ka na ea sa kb nb eb sb w2) := HN1.out.next hb2
          clear hb2 HN1 HZb q0 q1 q2 q3 q4
          go_wp2_with fail
          refine (iInvalid_any _).mono ?_
          rintro x w4 ⟨rfl, hb4⟩
          go_wp2
          exact ⟨rfl, by rw [E.out], (HN2.out.next hb4).2.2.2⟩
      | false =>
        have E : Hid (RE = .returned (numV 2 ng 0 { data := #[] })) := by show _ = _; rw [← HRE.out]; rfl
        clear HRE
        cases c1 with
        | true =>
          obtain rfl : c2 = false := by simpa using h3
          clear h3
          go_enter Tryz.func79, Tryz.ntmps79
          go_upto_region 4 with fail
          go_wp2_with fail
          refine (HZa.out _).mono ?_
          rintro x w1 ⟨rfl, hb1⟩
          have HN1 : Hid (N3 w ka na ea sa kb nb eb sb w1) := HN.out.next hb1
          obtain ⟨q0, q1, q2, q3, q4⟩ := HN1.out.2.1.cells
          clear hb1 HN HZa
          go_wp2_with fail
          refine (HZb.out _).mono ?_
          rintro x w2 ⟨rfl, hb2⟩
          have HN2 : Hid (N3 w ka na ea sa kb nb eb sb w2) := HN1.out.next hb2
          clear hb2 HN1 HZb q0 q1 q2 q3 q4
          go_upto_region 6 with fail
          go_wp2_with (refine wpList_store_row rfl 78 (.tmp 4) (.tmp 40) rfl (w.heap.size + 2) #[.int .i64 2, .bool ng, .int .i64 0, .string { data := #[] }] rfl rfl _ _ HN2.out.2.2.1 (by kernel_rfl) rfl (one4 _ _ _ _) ?_)
          have hP := (HN2.out.2.2.1.row (.int .i64 2) (.bool ng) (.int .i64 0) (.string { data := #[] })).cells
          refine bodyPost_ret (results_num rfl _ _ rfl hP.1 hP.2.1 hP.2.2.1 hP.2.2.2.1) rfl ?_
          exact ⟨by rw [E.out], bel_row HN2.out.2.2.2 (by omega) _⟩
        | false =>
          clear h3 h2
          go_enter Tryz.func79, Tryz.ntmps79
          go_upto_region 4 with fail
          go_wp2_with fail
          refine (HZa.out _).mono ?_
          rintro x w1 ⟨rfl, hb1⟩
          have HN1 : Hid (N3 w ka na ea sa kb nb eb sb w1) := HN.out.next hb1
          obtain ⟨q0, q1, q2, q3, q4⟩ := HN1.out.2.1.cells
          clear hb1 HN HZa
          go_wp2_with fail
          refine (HZb.out _).mono ?_
          rintro x w2 ⟨rfl, hb2⟩
          have HN2 : Hid (N3 w ka na ea sa kb nb eb sb w2) := HN1.out.next hb2
          clear hb2 HN1 HZb q0 q1 q2 q3 q4
          go_upto_region 6 with fail
          go_wp2_with (refine wpList_store_row rfl 78 (.tmp 4) (.tmp 40) rfl (w.heap.size + 2) #[.int .i64 2, .bool ng, .int .i64 0, .string { data := #[] }] rfl rfl _ _ HN2.out.2.2.1 (by kernel_rfl) rfl (one4 _ _ _ _) ?_)
          have hP := (HN2.out.2.2.1.row (.int .i64 2) (.bool ng) (.int .i64 0) (.string { data := #[] })).cells
          refine bodyPost_ret (results_num rfl _ _ rfl hP.1 hP.2.1 hP.2.2.1 hP.2.2.2.1) rfl ?_
          exact ⟨by rw [E.out], bel_row HN2.out.2.2.2 (by omega) _⟩
  exact main c1b c2b hc1 hc2 hcc
end Go.Proofs.YteofommckgeemaaGreatDoor

namespace Go.Proofs.YteofommckgeemaaGreatDoor
open Go.RowKit
set_option linter.unusedVariables false
set_option maxRecDepth 100000
/-- A row of one number. -/
theorem nrw1 {W : World} {g : Nat} {T : TypeId} {k : Int} {n : Bool} {e : Int} {s : ByteArray} (h : W.heap[g]? = some (.cells #[.int .i64 k, .bool n, .int .i64 e, .string s] T (0, 0))) : NRw W g 1 (fun _ => k) (fun _ => n) (fun _ => e) (fun _ => s) := fun i hi => by
  match i, hi with
  | 0, _ => exact ⟨(cell_lit h 0).trans rfl, (cell_lit h 1).trans rfl, (cell_lit h 2).trans rfl, (cell_lit h 3).trans rfl⟩
theorem ti1 (k : Int) (n : Bool) (e : Int) (s : ByteArray) : tiE 1 (fun _ => k) (fun _ => n) (fun _ => e) (fun _ => s) = if k = 2 then thrown (rsV k n e s 0) else .returned (.tuple #[]) := by
  by_cases h : k = 2
  · subst h; simp [tiE, tiX, tiA]
  · simp [tiE, tiX, tiA, h]
/-- isNought of a right number that is no NaN. -/
theorem isNought_right (f k : Int) (b : Bool) (e : Int) (s : ByteArray) (h : numB f k b e s = true) (h3 : k ≠ 3) (h4 : k ≠ 4) (w : World) : Calls Tryz.prog 93 #[numV k b e s] w fun x w' => x = .returned (.bool (z0B k s)) ∧ Below w.heap.size w w' := by
  obtain ⟨hf, e1, k1, c⟩ := right_two f k b e s h h3 h4
  have hL := lims f hf
  rcases k1 with rfl | rfl
  · obtain ⟨q1, l1, x1, y1⟩ := c rfl
    have v := vl_bd (dl s) q1.1
    have nk : Nok (vl (dl s)) := ⟨v.1, Int.lt_of_lt_of_le v.2 (pow_mono _ _ (by omega))⟩
    have es : s = tn (vl (dl s)) := by rw [tn_tx, nt_vl _ q1 (by omega)]; exact e1
    have := isNought_fin b e (vl (dl s)) w nk
    rw [← z0B_tn _ nk, ← es] at this
    exact this
  · exact isNought_inf b e s w
set_option maxRecDepth 100000 in
set_option maxHeartbeats 1000000 in
theorem mul1_any (p : Nat) (f mode : Int) (ka : Int) (na : Bool) (ea : Int) (sa : ByteArray) (kb : Int) (nb : Bool) (eb : Int) (sb : ByteArray) (X : World) (hsa : sa.size ≤ 4611686018427387904) (hsb : sb.size ≤ 4611686018427387904) (hC : Cap X p f mode ka na ea sa kb nb eb sb) :
    Calls Tryz.prog 78 #[.pointer (some ⟨p, 0, none⟩), .pointer (some ⟨p + 1, 0, none⟩), .pointer (some ⟨p + 2, 0, none⟩), .pointer (some ⟨p + 3, 0, none⟩)] X fun x w' => (x = .returned (rsD (mulR f mode ka na ea sa kb nb eb sb).1 (mulR f mode ka na ea sa kb nb eb sb).2) ∨ x = thrown (rsD (mulR f mode ka na ea sa kb nb eb sb).1 (mulR f mode ka na ea sa kb nb eb sb).2)) ∧ Below X.heap.size X w' := by
  obtain ⟨R, hR⟩ : ∃ R, mulR f mode ka na ea sa kb nb eb sb = R := ⟨_, rfl⟩
  have HR : Hid (mulR f mode ka na ea sa kb nb eb sb = R) := hR
  rw [hR]
  clear hR
  have HZ : Hid (At5 (X.alloc (.cells #[.int .i64 0, .bool false, .int .i64 0, .string { data := #[] }, .int .i64 0] 90)) X.heap.size (.int .i64 0) (.bool false) (.int .i64 0) (.string { data := #[] }) (.int .i64 0) ∧ Below X.heap.size X (X.alloc (.cells #[.int .i64 0, .bool false, .int .i64 0, .string { data := #[] }, .int .i64 0] 90)) ∧ Cap (X.alloc (.cells #[.int .i64 0, .bool false, .int .i64 0, .string { data := #[] }, .int .i64 0] 90)) p f mode ka na ea sa kb nb eb sb) := ⟨at5_new X _ _ _ _ _, (Below.refl _ _).alloc (Nat.le_refl _) _, hC.next ((Below.refl _ _).alloc (Nat.le_refl _) _)⟩
  obtain ⟨q0, q1, qa, qb⟩ := HZ.out.2.2
  obtain ⟨a0, a1, a2, a3, a4⟩ := qa.cells
  obtain ⟨c0, c1, c2, c3, c4⟩ := qb.cells
  clear qa qb
  have hzz := new_size X (.cells #[.int .i64 0, .bool false, .int .i64 0, .string { data := #[] }, .int .i64 0] 90)
  have HRw : Hid (NRw (rowW (X.alloc (.cells #[.int .i64 0, .bool false, .int .i64 0, .string { data := #[] }, .int .i64 0] 90)) ka na ea sa kb nb eb sb) (X.alloc (.cells #[.int .i64 0, .bool false, .int .i64 0, .string { data := #[] }, .int .i64 0] 90)).heap.size 2 (tw2 ka kb) (tw2 na nb) (tw2 ea eb) (tw2 sa sb) ∧ (X.alloc (.cells #[.int .i64 0, .bool false, .int .i64 0, .string { data := #[] }, .int .i64 0] 90)).heap.size < (rowW (X.alloc (.cells #[.int .i64 0, .bool false, .int .i64 0, .string { data := #[] }, .int .i64 0] 90)) ka na ea sa kb nb eb sb).heap.size) := row_new _ ka na ea sa kb nb eb sb
  rw [hzz] at HRw
  have HZr : Hid (At5 (rowW (X.alloc (.cells #[.int .i64 0, .bool false, .int .i64 0, .string { data := #[] }, .int .i64 0] 90)) ka na ea sa kb nb eb sb) X.heap.size (.int .i64 0) (.bool false) (.int .i64 0) (.string { data := #[] }) (.int .i64 0) ∧ Below X.heap.size X (rowW (X.alloc (.cells #[.int .i64 0, .bool false, .int .i64 0, .string { data := #[] }, .int .i64 0] 90)) ka na ea sa kb nb eb sb) ∧ Cap (rowW (X.alloc (.cells #[.int .i64 0, .bool false, .int .i64 0, .string { data := #[] }, .int .i64 0] 90)) ka na ea sa kb nb eb sb) p f mode ka na ea sa kb nb eb sb) := by
    have hb : Below (X.alloc (.cells #[.int .i64 0, .bool false, .int .i64 0, .string { data := #[] }, .int .i64 0] 90)).heap.size (X.alloc (.cells #[.int .i64 0, .bool false, .int .i64 0, .string { data := #[] }, .int .i64 0] 90)) (rowW (X.alloc (.cells #[.int .i64 0, .bool false, .int .i64 0, .string { data := #[] }, .int .i64 0] 90)) ka na ea sa kb nb eb sb) := (Below.refl _ _).alloc (Nat.le_refl _) _
    exact ⟨HZ.out.1.below hb HZ.out.1.lt, HZ.out.2.1.trans (hb.mono HZ.out.2.1.size), HZ.out.2.2.next hb⟩
  have HTs : Hid (∀ Y, NRw Y (X.heap.size + 1) 2 (tw2 ka kb) (tw2 na nb) (tw2 ea eb) (tw2 sa sb) → X.heap.size + 1 < Y.heap.size → Calls Tryz.prog 75 #[.int .i64 f, .int .i64 mode, .slice (some ⟨X.heap.size + 1, 0, none⟩) 2 2] Y fun x w' => x = tsE f mode 2 (tw2 ka kb) (tw2 na nb) (tw2 ea eb) (tw2 sa sb) ∧ Below Y.heap.size Y w') := fun Y h1 h2 => throwSpecials_any f mode 2 (X.heap.size + 1) _ _ _ _ Y (by decide) (by decide) h2 h1 (fun i hi => by match i, hi with
      | 0, _ => exact hsa
      | 1, _ => exact hsb)
  unfold tsE at HTs
  rw [right_ok] at HTs
  clear hC HZ hzz
  cases hO : addO f mode ka na ea sa kb nb eb sb with
  | false =>
    have ER : Hid (R = (false, (0, 0, { data := #[] }, 0))) := by show _ = _; rw [← HR.out]; unfold mulR; rw [hO]; rfl
    rw [hO] at HTs
    simp only [Bool.false_eq_true, if_false] at HTs
    clear hO HR hsa hsb
    go_enter Tryz.func78, Tryz.ntmps78
    go_wp2_with fail
    refine (HTs.out _ HRw.out.1 HRw.out.2).mono ?_
    rintro x w1 ⟨rfl, hb1⟩
    go_wp2
    exact ⟨rfl, .inr (by rw [ER.out]), HZr.out.2.1.trans (hb1.mono HZr.out.2.1.size)⟩
  | true =>
    rw [hO] at HTs
    simp only [if_true] at HTs
    cases hS : spB 2 (tw2 ka kb) with
    | true =>
      have ER : Hid (R = (false, (3, 0, { data := #[] }, spF 2 (tw2 ka kb)))) := by show _ = _; rw [← HR.out]; unfold mulR; rw [hO, hS]; rfl
      rw [hS] at HTs
      simp only [if_true] at HTs
      generalize spF 2 (tw2 ka kb) = FL at *
      clear hO hS HR hsa hsb
      go_enter Tryz.func78, Tryz.ntmps78
      go_wp2_with fail
      refine (HTs.out _ HRw.out.1 HRw.out.2).mono ?_
      rintro x w1 ⟨rfl, hb1⟩
      go_wp2
      exact ⟨rfl, .inr (by rw [ER.out]), HZr.out.2.1.trans (hb1.mono HZr.out.2.1.size)⟩
    | false =>
      have ER : R = mulX f mode ka na ea sa kb nb eb sb := by rw [← HR.out]; unfold mulR; rw [hO, hS]; rfl
      rw [hS] at HTs
      simp only [Bool.false_eq_true, if_false] at HTs
      have hO2 := hO
      unfold addO at hO2
      simp only [Bool.and_eq_true, decide_eq_true_eq] at hO2
      obtain ⟨hmo, hA, hBn⟩ := hO2
      have hnan := of_decide_eq_false hS
      have n0 : ka ≠ 3 ∧ ka ≠ 4 := ⟨fun h => hnan ⟨0, by decide, .inl h⟩, fun h => hnan ⟨0, by decide, .inr h⟩⟩
      have n1 : kb ≠ 3 ∧ kb ≠ 4 := ⟨fun h => hnan ⟨1, by decide, .inl h⟩, fun h => hnan ⟨1, by decide, .inr h⟩⟩
      obtain ⟨hf, ea1, ka1, ca⟩ := right_two f ka na ea sa hA n0.1 n0.2
      obtain ⟨-, eb1, kb1, cb⟩ := right_two f kb nb eb sb hBn n1.1 n1.2
      have hL := lims f hf
      obtain ⟨ng, hng⟩ : ∃ ng, (!(na == nb)) = ng := ⟨_, rfl⟩
      have HT1 : Hid (∀ (k : Int) (n : Bool) (e : Int) (s : ByteArray) Y g, Y.heap[g]? = some (.cells #[.int .i64 k, .bool n, .int .i64 e, .string s] 78 (0, 0)) → g < Y.heap.size → Calls Tryz.prog 80 #[.slice (some ⟨g, 0, none⟩) 1 1] Y fun x w' => x = (if k = 2 then thrown (rsV k n e s 0) else .returned (.tuple #[])) ∧ Below Y.heap.size Y w') := fun k n e s Y g h1 h2 => by
        rw [← ti1 k n e s]; exact throwInfinity_any 1 g _ _ _ _ Y (by decide) h2 (nrw1 h1)
      by_cases hkk : ka = 1 ∧ kb = 1
      · obtain ⟨rfl, rfl⟩ := hkk
        obtain ⟨w1', l1, x1, y1⟩ := ca rfl
        obtain ⟨w2', l2, x2, y2⟩ := cb rfl
        obtain ⟨nk, -⟩ := mul_bd (dl sa) (dl sb) w1' w2' (by omega) (by omega)
        have v1 := vl_bd (dl sa) w1'.1
        have v2 := vl_bd (dl sb) w2'.1
        have nka : Nok (vl (dl sa)) := ⟨v1.1, Int.lt_of_lt_of_le v1.2 (pow_mono _ _ (by omega))⟩
        have nkb : Nok (vl (dl sb)) := ⟨v2.1, Int.lt_of_lt_of_le v2.2 (pow_mono _ _ (by omega))⟩
        have HPo : Hid (∀ Y, Calls Tryz.prog 79 #[numV 1 na ea sa, numV 1 nb eb sb] Y fun x w' => x = .returned (numV 1 ng (ea + eb) (tn (vl (dl sa) * vl (dl sb)))) ∧ Below Y.heap.size Y w') := fun Y => by
          have := productOf_fin na nb ea eb (vl (dl sa)) (vl (dl sb)) Y nka nkb nk (by omega) (by omega)
          rw [tn_tx (vl (dl sa)), tn_tx (vl (dl sb)), nt_vl _ w1' (by omega), nt_vl _ w2' (by omega), ← ea1, ← eb1, hng] at this
          exact this
        have HFn : Hid (∀ Y, Calls Tryz.prog 81 #[.int .i64 f, .int .i64 mode, numV 1 ng (ea + eb) (tn (vl (dl sa) * vl (dl sb))), .int .i64 (ea + eb)] Y fun x w' => x = .returned (rsD R.1 R.2) ∧ Below Y.heap.size Y w') := fun Y => by
          have := finished_any f mode hf hmo 1 ng (ea + eb) (vl (dl sa) * vl (dl sb)) (ea + eb) Y nk (by omega) (by omega)
          rw [ER]
          unfold mulX
          rw [if_pos ⟨rfl, rfl⟩, hng]
          dsimp only
          exact this
        generalize tn (vl (dl sa) * vl (dl sb)) = TP at *
        generalize ea + eb = ep at *
        clear hO hS HR hsa hsb ER hmo hA hBn hnan n0 n1 hf ea1 ca eb1 cb hL hng w1' l1 x1 y1 w2' l2 x2 y2 nk v1 v2 nka nkb ka1 kb1
        obtain ⟨R0, F1, F2, F3, F4⟩ := R
        go_enter Tryz.func78, Tryz.ntmps78
        go_wp2_with fail
        refine (HTs.out _ HRw.out.1 HRw.out.2).mono ?_
        rintro x w1 ⟨rfl, hb1⟩
        have HZ1 : Hid (At5 w1 X.heap.size (.int .i64 0) (.bool false) (.int .i64 0) (.string { data := #[] }) (.int .i64 0) ∧ Below X.heap.size X w1 ∧ Cap w1 p f mode 1 na ea sa 1 nb eb sb) := ⟨HZr.out.1.below hb1 HZr.out.1.lt, HZr.out.2.1.trans (hb1.mono HZr.out.2.1.size), HZr.out.2.2.next hb1⟩
        clear hb1 HZr HTs HRw q0 q1 a0 a1 a2 a3 a4 c0 c1 c2 c3 c4
        obtain ⟨q0, q1, qa, qb⟩ := HZ1.out.2.2
        obtain ⟨a0, a1, a2, a3, a4⟩ := qa.cells
        obtain ⟨c0, c1, c2, c3, c4⟩ := qb.cells
        clear qa qb
        go_wp2_with fail
        refine (HPo.out _).mono ?_
        rintro x w2 ⟨rfl, hb2⟩
        have HZ2 : Hid (At5 w2 X.heap.size (.int .i64 0) (.bool false) (.int .i64 0) (.string { data := #[] }) (.int .i64 0) ∧ Below X.heap.size X w2 ∧ Cap w2 p f mode 1 na ea sa 1 nb eb sb) := ⟨HZ1.out.1.below hb2 HZ1.out.1.lt, HZ1.out.2.1.trans (hb2.mono HZ1.out.2.1.size), HZ1.out.2.2.next hb2⟩
        clear hb2 HZ1 HPo q0 q1 a0 a1 a2 a3 a4 c0 c1 c2 c3 c4
        -- the product's own block, then the row that is handed on
        obtain ⟨w3, hw3⟩ : ∃ W, w2.alloc (.cells #[.int .i64 1, .bool ng, .int .i64 ep, .string TP] 78) = W := ⟨_, rfl⟩
        have hb3 : Below w2.heap.size w2 w3 := by rw [← hw3]; exact (Below.refl _ _).alloc (Nat.le_refl _) _
        have hA3 : At4r w3 w2.heap.size (.int .i64 1) (.bool ng) (.int .i64 ep) (.string TP) := by rw [← hw3]; exact at4r_new w2 _ _ _ _
        have HZ3 : Hid (At5 w3 X.heap.size (.int .i64 0) (.bool false) (.int .i64 0) (.string { data := #[] }) (.int .i64 0) ∧ Below X.heap.size X w3 ∧ Cap w3 p f mode 1 na ea sa 1 nb eb sb ∧ At4r w3 w2.heap.size (.int .i64 1) (.bool ng) (.int .i64 ep) (.string TP)) := ⟨HZ2.out.1.below hb3 HZ2.out.1.lt, HZ2.out.2.1.trans (hb3.mono HZ2.out.2.1.size), HZ2.out.2.2.next hb3, hA3⟩
        have hz3 : w3.heap.size = w2.heap.size + 1 := by rw [← hw3]; exact new_size _ _
        have hb4 : Below w3.heap.size w3 (w3.alloc (.cells #[.int .i64 1, .bool ng, .int .i64 ep, .string TP] 78)) := (Below.refl _ _).alloc (Nat.le_refl _) _
        have hA4 := heap_at w3 (.cells #[.int .i64 1, .bool ng, .int .i64 ep, .string TP] 78)
        have hs4 : w3.heap.size < (w3.alloc (.cells #[.int .i64 1, .bool ng, .int .i64 ep, .string TP] 78)).heap.size := Nat.lt_of_lt_of_eq (Nat.lt_succ_self _) (new_size _ _).symm
        have HZ4 : Hid (At5 (w3.alloc (.cells #[.int .i64 1, .bool ng, .int .i64 ep, .string TP] 78)) X.heap.size (.int .i64 0) (.bool false) (.int .i64 0) (.string { data := #[] }) (.int .i64 0) ∧ Below X.heap.size X (w3.alloc (.cells #[.int .i64 1, .bool ng, .int .i64 ep, .string TP] 78)) ∧ Cap (w3.alloc (.cells #[.int .i64 1, .bool ng, .int .i64 ep, .string TP] 78)) p f mode 1 na ea sa 1 nb eb sb ∧ At4r (w3.alloc (.cells #[.int .i64 1, .bool ng, .int .i64 ep, .string TP] 78)) w2.heap.size (.int .i64 1) (.bool ng) (.int .i64 ep) (.string TP)) := ⟨HZ3.out.1.below hb4 HZ3.out.1.lt, HZ3.out.2.1.trans (hb4.mono HZ3.out.2.1.size), HZ3.out.2.2.1.next hb4, HZ3.out.2.2.2.next hb4⟩
        have HI4 : Hid (Calls Tryz.prog 80 #[.slice (some ⟨w2.heap.size + 1, 0, none⟩) 1 1] (w3.alloc (.cells #[.int .i64 1, .bool ng, .int .i64 ep, .string TP] 78)) fun x w' => x = .returned (.tuple #[]) ∧ Below (w3.alloc (.cells #[.int .i64 1, .bool ng, .int .i64 ep, .string TP] 78)).heap.size (w3.alloc (.cells #[.int .i64 1, .bool ng, .int .i64 ep, .string TP] 78)) w') := by
          have := HT1.out 1 ng ep TP _ w3.heap.size hA4 hs4
          rw [if_neg (by decide), hz3] at this
          exact this
        rw [← hw3] at HI4 HZ4
        clear hw3 hb3 hA3 HZ3 hz3 hb4 hA4 hs4 HT1 HZ2
        go_wp2_with fail
        refine HI4.out.mono ?_
        rintro x w5 ⟨rfl, hb5⟩
        have HZ5 : Hid (At5 w5 X.heap.size (.int .i64 0) (.bool false) (.int .i64 0) (.string { data := #[] }) (.int .i64 0) ∧ Below X.heap.size X w5 ∧ Cap w5 p f mode 1 na ea sa 1 nb eb sb ∧ At4r w5 w2.heap.size (.int .i64 1) (.bool ng) (.int .i64 ep) (.string TP)) := ⟨HZ4.out.1.below hb5 HZ4.out.1.lt, HZ4.out.2.1.trans (hb5.mono HZ4.out.2.1.size), HZ4.out.2.2.1.next hb5, HZ4.out.2.2.2.next hb5⟩
        clear hb5 HZ4 HI4
        obtain ⟨q0, q1, qa, qb⟩ := HZ5.out.2.2.1
        obtain ⟨g0, g1, g2, g3, g4⟩ := HZ5.out.2.2.2.cells
        clear qa qb
        generalize w2.heap.size = b5 at *
        go_wp2_with fail
        refine (HFn.out _).mono ?_
        rintro x w6 ⟨rfl, hb6⟩
        have HZ6 : Hid (At5 w6 X.heap.size (.int .i64 0) (.bool false) (.int .i64 0) (.string { data := #[] }) (.int .i64 0) ∧ Below X.heap.size X w6) := ⟨HZ5.out.1.below hb6 HZ5.out.1.lt, HZ5.out.2.1.trans (hb6.mono HZ5.out.2.1.size)⟩
        clear hb6 HZ5 HFn q0 q1 g0 g1 g2 g3 g4
        go_wp2_with (refine wpList_store_row rfl 90 (.tmp 4) (.tmp 23) rfl X.heap.size #[.int .i64 F1, .bool R0, .int .i64 F2, .string F3, .int .i64 F4] rfl rfl _ _ HZ6.out.1 (by kernel_rfl) rfl (one5 _ _ _ _ _) ?_)
        have hP := (HZ6.out.1.row (.int .i64 F1) (.bool R0) (.int .i64 F2) (.string F3) (.int .i64 F4)).cells
        refine bodyPost_ret (results_res rfl _ _ rfl hP.1 hP.2.1 hP.2.2.1 hP.2.2.2.1 hP.2.2.2.2.1) rfl ?_
        exact ⟨.inl rfl, bel_row HZ6.out.2 (Nat.le_refl _) _⟩
      · have HPo : Hid (∀ Y, Calls Tryz.prog 79 #[numV ka na ea sa, numV kb nb eb sb] Y fun x w' => x = poE ng (z0B ka sa || z0B kb sb) ∧ Below Y.heap.size Y w') := fun Y => by
          rw [← hng]
          exact productOf_inf ka na ea sa kb nb eb sb (z0B ka sa) (z0B kb sb) Y hkk (fun Z => isNought_right f ka na ea sa hA n0.1 n0.2 Z) (fun Z => isNought_right f kb nb eb sb hBn n1.1 n1.2 Z)
        have ER2 : R = if z0B ka sa || z0B kb sb then (false, (3, 0, { data := #[] }, 1)) else (ng, (2, 0, { data := #[] }, 0)) := by
          rw [ER]; unfold mulX; rw [if_neg hkk, hng]
        cases hz : (z0B ka sa || z0B kb sb) with
        | true =>
          rw [hz] at HPo ER2
          have ER3 : Hid (R = (false, (3, 0, { data := #[] }, 1))) := ER2
          have HPo2 : Hid (∀ Y, Calls Tryz.prog 79 #[numV ka na ea sa, numV kb nb eb sb] Y fun x w' => x = thrown (rsV 3 false 0 { data := #[] } 1) ∧ Below Y.heap.size Y w') := HPo
          clear hO hS HR hsa hsb ER hmo hA hBn hnan n0 n1 hf ea1 ca eb1 cb hL hng ka1 kb1 ER2 hkk hz HPo HT1
          go_enter Tryz.func78, Tryz.ntmps78
          go_wp2_with fail
          refine (HTs.out _ HRw.out.1 HRw.out.2).mono ?_
          rintro x w1 ⟨rfl, hb1⟩
          have HZ1 : Hid (At5 w1 X.heap.size (.int .i64 0) (.bool false) (.int .i64 0) (.string { data := #[] }) (.int .i64 0) ∧ Below X.heap.size X w1 ∧ Cap w1 p f mode ka na ea sa kb nb eb sb) := ⟨HZr.out.1.below hb1 HZr.out.1.lt, HZr.out.2.1.trans (hb1.mono HZr.out.2.1.size), HZr.out.2.2.next hb1⟩
          clear hb1 HZr HTs HRw q0 q1 a0 a1 a2 a3 a4 c0 c1 c2 c3 c4
          obtain ⟨q0, q1, qa, qb⟩ := HZ1.out.2.2
          obtain ⟨a0, a1, a2, a3, a4⟩ := qa.cells
          obtain ⟨c0, c1, c2, c3, c4⟩ := qb.cells
          clear qa qb
          go_wp2_with fail
          refine (HPo2.out _).mono ?_
          rintro x w2 ⟨rfl, hb2⟩
          have HB2 : Hid (Below X.heap.size X w2) := HZ1.out.2.1.trans (hb2.mono HZ1.out.2.1.size)
          clear hb2 HZ1 HPo2 q0 q1 a0 a1 a2 a3 a4 c0 c1 c2 c3 c4
          go_wp2
          exact ⟨rfl, .inr (by rw [ER3.out]), HB2.out⟩
        | false =>
          rw [hz] at HPo ER2
          have ER3 : Hid (R = (ng, (2, 0, { data := #[] }, 0))) := ER2
          have HPo2 : Hid (∀ Y, Calls Tryz.prog 79 #[numV ka na ea sa, numV kb nb eb sb] Y fun x w' => x = .returned (numV 2 ng 0 { data := #[] }) ∧ Below Y.heap.size Y w') := HPo
          clear hO hS HR hsa hsb ER hmo hA hBn hnan n0 n1 hf ea1 ca eb1 cb hL hng ka1 kb1 ER2 hkk hz HPo
          go_enter Tryz.func78, Tryz.ntmps78
          go_wp2_with fail
          refine (HTs.out _ HRw.out.1 HRw.out.2).mono ?_
          rintro x w1 ⟨rfl, hb1⟩
          have HZ1 : Hid (At5 w1 X.heap.size (.int .i64 0) (.bool false) (.int .i64 0) (.string { data := #[] }) (.int .i64 0) ∧ Below X.heap.size X w1 ∧ Cap w1 p f mode ka na ea sa kb nb eb sb) := ⟨HZr.out.1.below hb1 HZr.out.1.lt, HZr.out.2.1.trans (hb1.mono HZr.out.2.1.size), HZr.out.2.2.next hb1⟩
          clear hb1 HZr HTs HRw q0 q1 a0 a1 a2 a3 a4 c0 c1 c2 c3 c4
          obtain ⟨q0, q1, qa, qb⟩ := HZ1.out.2.2
          obtain ⟨a0, a1, a2, a3, a4⟩ := qa.cells
          obtain ⟨c0, c1, c2, c3, c4⟩ := qb.cells
          clear qa qb
          go_wp2_with fail
          refine (HPo2.out _).mono ?_
          rintro x w2 ⟨rfl, hb2⟩
          have hB2 : Below X.heap.size X w2 := HZ1.out.2.1.trans (hb2.mono HZ1.out.2.1.size)
          clear hb2 HZ1 HPo2 q0 q1 a0 a1 a2 a3 a4 c0 c1 c2 c3 c4
          have hz3 : (w2.alloc (.cells #[.int .i64 2, .bool ng, .int .i64 0, .string { data := #[] }] 78)).heap.size = w2.heap.size + 1 := new_size _ _
          have hA4 := heap_at (w2.alloc (.cells #[.int .i64 2, .bool ng, .int .i64 0, .string { data := #[] }] 78)) (.cells #[.int .i64 2, .bool ng, .int .i64 0, .string { data := #[] }] 78)
          have hs4 : (w2.alloc (.cells #[.int .i64 2, .bool ng, .int .i64 0, .string { data := #[] }] 78)).heap.size < ((w2.alloc (.cells #[.int .i64 2, .bool ng, .int .i64 0, .string { data := #[] }] 78)).alloc (.cells #[.int .i64 2, .bool ng, .int .i64 0, .string { data := #[] }] 78)).heap.size := Nat.lt_of_lt_of_eq (Nat.lt_succ_self _) (new_size _ _).symm
          have HI4 : Hid (Calls Tryz.prog 80 #[.slice (some ⟨w2.heap.size + 1, 0, none⟩) 1 1] ((w2.alloc (.cells #[.int .i64 2, .bool ng, .int .i64 0, .string { data := #[] }] 78)).alloc (.cells #[.int .i64 2, .bool ng, .int .i64 0, .string { data := #[] }] 78)) fun x w' => x = thrown (rsV 2 ng 0 { data := #[] } 0) ∧ Below ((w2.alloc (.cells #[.int .i64 2, .bool ng, .int .i64 0, .string { data := #[] }] 78)).alloc (.cells #[.int .i64 2, .bool ng, .int .i64 0, .string { data := #[] }] 78)).heap.size ((w2.alloc (.cells #[.int .i64 2, .bool ng, .int .i64 0, .string { data := #[] }] 78)).alloc (.cells #[.int .i64 2, .bool ng, .int .i64 0, .string { data := #[] }] 78)) w') := by
            have := HT1.out 2 ng 0 { data := #[] } _ _ hA4 hs4
            rw [if_pos rfl, hz3] at this
            exact this
          have HB4 : Hid (Below X.heap.size X ((w2.alloc (.cells #[.int .i64 2, .bool ng, .int .i64 0, .string { data := #[] }] 78)).alloc (.cells #[.int .i64 2, .bool ng, .int .i64 0, .string { data := #[] }] 78))) := hB2.trans ((two_below w2 _ _).mono hB2.size)
          clear hz3 hA4 hs4 HT1 hB2
          go_wp2_with fail
          refine HI4.out.mono ?_
          rintro x w5 ⟨rfl, hb5⟩
          go_wp2
          exact ⟨rfl, .inr (by rw [ER3.out]), HB4.out.trans (hb5.mono HB4.out.size)⟩
set_option maxRecDepth 100000 in
set_option maxHeartbeats 1000000 in
theorem iMul_any (f mode : Int) (ka : Int) (na : Bool) (ea : Int) (sa : ByteArray) (kb : Int) (nb : Bool) (eb : Int) (sb : ByteArray) (w : World) (hsa : sa.size ≤ 4611686018427387904) (hsb : sb.size ≤ 4611686018427387904) :
    Calls Tryz.prog 30 #[.int .i64 f, .int .i64 mode, numV ka na ea sa, numV kb nb eb sb] w fun x w' => x = .returned (rsD (mulR f mode ka na ea sa kb nb eb sb).1 (mulR f mode ka na ea sa kb nb eb sb).2) ∧ Below w.heap.size w w' := by
  have hmf : ∀ (fn : Fn) (first cap : Array Value) (w : World), (Instr.makeFunc fn first cap).run Tryz.prog w = .ok (.func fn first cap) w := fun _ _ _ _ => rfl
  have HN : Hid (Cap (capW w f mode ka na ea sa kb nb eb sb) w.heap.size f mode ka na ea sa kb nb eb sb ∧ At5 (capW w f mode ka na ea sa kb nb eb sb) (w.heap.size + 4) (.int .i64 0) (.bool false) (.int .i64 0) (.string { data := #[] }) (.int .i64 0) ∧ Below w.heap.size w (capW w f mode ka na ea sa kb nb eb sb)) := cap_new w f mode ka na ea sa kb nb eb sb
  obtain ⟨R, hR⟩ : ∃ R, mulR f mode ka na ea sa kb nb eb sb = R := ⟨_, rfl⟩
  have H1 : ∀ X, Cap X w.heap.size f mode ka na ea sa kb nb eb sb → Calls Tryz.prog 78 #[.pointer (some ⟨w.heap.size, 0, none⟩), .pointer (some ⟨w.heap.size + 1, 0, none⟩), .pointer (some ⟨w.heap.size + 2, 0, none⟩), .pointer (some ⟨w.heap.size + 3, 0, none⟩)] X fun x w' => (x = .returned (rsD R.1 R.2) ∨ x = thrown (rsD R.1 R.2)) ∧ Below X.heap.size X w' := fun X hC => by
    rw [← hR]; exact mul1_any w.heap.size f mode ka na ea sa kb nb eb sb X hsa hsb hC
  rw [hR]
  obtain ⟨R0, F1, F2, F3, F4⟩ := R
  have HF : Hid (Calls Tryz.prog 73 #[.func (.func 78) #[] #[.pointer (some ⟨w.heap.size, 0, none⟩), .pointer (some ⟨w.heap.size + 1, 0, none⟩), .pointer (some ⟨w.heap.size + 1 + 1, 0, none⟩), .pointer (some ⟨w.heap.size + 1 + 1 + 1, 0, none⟩)]] (capW w f mode ka na ea sa kb nb eb sb) fun e w' => e = .returned (rsV F1 R0 F2 F3 F4) ∧ Below (capW w f mode ka na ea sa kb nb eb sb).heap.size (capW w f mode ka na ea sa kb nb eb sb) w') :=
    atFace_any 78 _ (enters_of Tryz.func78 (by kernel_rfl) rfl) F1 R0 F2 F3 F4 _ (fun X hX => H1 X (HN.out.1.next hX))
  clear hR H1 hsa hsb
  go_enter Tryz.func30, Tryz.ntmps30
  go_wp2_with fail
  refine HF.out.mono ?_
  rintro x w1 ⟨rfl, hb1⟩
  have HZ1 : Hid (At5 w1 (w.heap.size + 4) (.int .i64 0) (.bool false) (.int .i64 0) (.string { data := #[] }) (.int .i64 0) ∧ Below w.heap.size w w1) := ⟨HN.out.2.1.below hb1 HN.out.2.1.lt, HN.out.2.2.trans (hb1.mono HN.out.2.2.size)⟩
  clear hb1 HN HF
  go_wp2_with (refine wpList_store_row rfl 90 (.tmp 8) (.tmp 10) rfl (w.heap.size + 4) #[.int .i64 F1, .bool R0, .int .i64 F2, .string F3, .int .i64 F4] rfl rfl _ _ HZ1.out.1 (by kernel_rfl) rfl (one5 _ _ _ _ _) ?_)
  have hP := (HZ1.out.1.row (.int .i64 F1) (.bool R0) (.int .i64 F2) (.string F3) (.int .i64 F4)).cells
  refine bodyPost_ret (results_res rfl _ _ rfl hP.1 hP.2.1 hP.2.2.1 hP.2.2.2.1 hP.2.2.2.2.1) rfl ?_
  exact ⟨rfl, bel_row HZ1.out.2 (by omega) _⟩
end Go.Proofs.YteofommckgeemaaGreatDoor
