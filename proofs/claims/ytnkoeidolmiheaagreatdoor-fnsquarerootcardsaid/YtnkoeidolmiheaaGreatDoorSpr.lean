/-
  Fma of the program in one word, walked.
-/
import Derived.Test.YtnkoeidolmiheaaGreatDoorMuP
import Derived.Test.YtnkoeidolmiheaaGreatDoorSph
import Derived.Test.YtnkoeidolmiheaaGreatDoorFup
import Derived.Deep.RegionHeld3
namespace Go.Proofs.YtnkoeidolmiheaaGreatDoor
open Go.RowKit
set_option linter.unusedVariables false
set_option maxRecDepth 100000
theorem z0B_tn (v : Int) (h : Nok v) : z0B 1 (tn v) = decide (v = 0) := by
  unfold z0B
  rw [decide_eq_true (rfl : (1 : Int) = 1), Bool.true_and]
  by_cases hz : v = 0
  · subst hz; rw [tn_0]; rfl
  · rw [tn_is0 h hz, decide_eq_false hz]
set_option maxRecDepth 100000 in
set_option maxHeartbeats 1000000 in
theorem productOf_fin (na nb : Bool) (ea eb a b : Int) (w : World) (ha : Nok a) (hb : Nok b) (hab : Nok (a * b)) (hea : -7000 ≤ ea ∧ ea ≤ 7000) (heb : -7000 ≤ eb ∧ eb ≤ 7000) :
    Calls Tryz.prog 70 #[numV 1 na ea (tn a), numV 1 nb eb (tn b)] w fun x w' => x = .returned (numV 1 (!(na == nb)) (ea + eb) (tn (a * b))) ∧ Below w.heap.size w w' := by
  have HMu : Hid (∀ X, Calls Tryz.prog 136 #[.string (tn a), .string (tn b)] X fun e w' => e = .returned (.string (tn (a * b))) ∧ Below X.heap.size X w') := fun X => by
    have := iNatMul_any (tn a) (tn b) X (tn_sz a) (tn_sz b)
    rwa [mul_tn ha hb, fit_tn hab] at this
  have we : IntKind.i64.wrap (ea + eb) = ea + eb := by rw [IntKind.wrap_i64]; omega
  obtain ⟨ng, hng⟩ : ∃ ng, (!(na == nb)) = ng := ⟨_, rfl⟩
  rw [hng]
  generalize tn (a * b) = TP at *
  generalize tn a = T1 at *
  generalize tn b = T2 at *
  clear ha hb hab hea heb
  have hbn := build_num 1 ng (ea + eb) TP
  have HN : Hid (N3 w 1 na ea T1 1 nb eb T2 (((w.alloc (.cells #[.int .i64 1, .bool na, .int .i64 ea, .string T1] 25)).alloc (.cells #[.int .i64 1, .bool nb, .int .i64 eb, .string T2] 25)).alloc (.cells #[.int .i64 0, .bool false, .int .i64 0, .string { data := #[] }] 25))) := n3_new w 1 na ea T1 1 nb eb T2
  go_enter Tryz.func70, Tryz.ntmps70
  go_upto_region 3 with fail
  clear hng
  generalize ((w.alloc (.cells #[.int .i64 1, .bool na, .int .i64 ea, .string T1] 25)).alloc (.cells #[.int .i64 1, .bool nb, .int .i64 eb, .string T2] 25)).alloc (.cells #[.int .i64 0, .bool false, .int .i64 0, .string { data := #[] }] 25) = w0 at *
  have HX0 : Hid (Below w0.heap.size w0 w0.drew) := (Below.refl _ _).drew
  refine wp_region_tail (C := fun W => Below w0.heap.size w0 W) 11 (by kernel_rfl) (by kernel_rfl) HX0.out ?_
  simp only [List.take_succ_cons, List.take_zero, List.drop_succ_cons, List.drop_zero]
  repeat (refine wpQuiet_step (fun K hK => ?_); go_simp; first | (refine hK _ ?_; clear hK K) | (apply Exists.intro; refine ⟨fun wx hC => ?_, hK _ ?_⟩; (first | exact rfl | exact Calls.class_of (HMu.out wx) (fun w' hb => bel1 hC hb) | (obtain ⟨a0, a1, a2, a3, a4⟩ := (HN.out.next hC).1.cells; go_simp; exact rfl) | (obtain ⟨a0, a1, a2, a3, a4⟩ := (HN.out.next hC).2.1.cells; go_simp; exact rfl)); clear hK K))
  refine wpQuiet_nil ?_
  intro w1 hb1
  have HN1 : Hid (N3 w 1 na ea T1 1 nb eb T2 w1) := HN.out.next hb1
  clear hb1 HN HX0 HMu
  go_wp2_with (refine wpList_store_row rfl 25 (.tmp 4) (.tmp 30) rfl (w.heap.size + 2) #[.int .i64 1, .bool ng, .int .i64 (ea + eb), .string TP] rfl rfl _ _ HN1.out.2.2.1 (by kernel_rfl) rfl (one4 _ _ _ _) ?_)
  have hP := (HN1.out.2.2.1.row (.int .i64 1) (.bool ng) (.int .i64 (ea + eb)) (.string TP)).cells
  refine bodyPost_ret (results_num rfl _ _ rfl hP.1 hP.2.1 hP.2.2.1 hP.2.2.2.1) rfl ?_
  exact ⟨rfl, bel_row HN1.out.2.2.2 (by omega) _⟩
/-- How productOf ends where an infinity is among the two. -/
def poE (ng : Bool) (z : Bool) : Ending := if z then thrown (rsV 3 false 0 { data := #[] } 1) else .returned (numV 2 ng 0 { data := #[] })
set_option maxRecDepth 100000 in
set_option maxHeartbeats 1000000 in
theorem productOf_inf (ka : Int) (na : Bool) (ea : Int) (sa : ByteArray) (kb : Int) (nb : Bool) (eb : Int) (sb : ByteArray) (za zb : Bool) (w : World) (hk : ¬ (ka = 1 ∧ kb = 1))
    (HZa : Hid (∀ X, Calls Tryz.prog 48 #[numV ka na ea sa] X fun x w' => x = .returned (.bool za) ∧ Below X.heap.size X w')) (HZb : Hid (∀ X, Calls Tryz.prog 48 #[numV kb nb eb sb] X fun x w' => x = .returned (.bool zb) ∧ Below X.heap.size X w')) :
    Calls Tryz.prog 70 #[numV ka na ea sa, numV kb nb eb sb] w fun x w' => x = poE (!(na == nb)) (za || zb) ∧ Below w.heap.size w w' := by
  obtain ⟨ng, hng⟩ : ∃ ng, (!(na == nb)) = ng := ⟨_, rfl⟩
  rw [hng]
  have HN : Hid (N3 w ka na ea sa kb nb eb sb (n3W w ka na ea sa kb nb eb sb)) := n3_new w ka na ea sa kb nb eb sb
  have hbi := build_inf ng
  obtain ⟨c1b, hc1⟩ : ∃ c, (ka == 1) = c := ⟨_, rfl⟩
  obtain ⟨c2b, hc2⟩ : ∃ c, (kb == 1) = c := ⟨_, rfl⟩
  have hcc : (c1b && c2b) = false := by
    rw [← hc1, ← hc2]
    by_cases h1 : ka = 1
    · have h2 : kb ≠ 1 := fun h2 => hk ⟨h1, h2⟩
      rw [beq_eq_false_iff_ne.2 h2, Bool.and_false]
    · rw [beq_eq_false_iff_ne.2 h1, Bool.false_and]
  obtain ⟨RE, hRE⟩ : ∃ r, poE ng (za || zb) = r := ⟨_, rfl⟩
  have HRE : Hid (poE ng (za || zb) = RE) := hRE
  rw [hRE]
  clear hRE hk
  have main : ∀ (c1b c2b : Bool), (ka == 1) = c1b → (kb == 1) = c2b → (c1b && c2b) = false → Calls Tryz.prog 70 #[numV ka na ea sa, numV kb nb eb sb] w fun x w' => x = RE ∧ Below w.heap.size w w' := fun c1 c2 h1 h2 h3 => by
    clear hc1 hc2 hcc
    cases za with
    | true =>
      have E : Hid (RE = thrown (rsV 3 false 0 { data := #[] } 1)) := by show _ = _; rw [← HRE.out]; rfl
      clear HRE
      cases c1 with
      | true =>
        obtain rfl : c2 = false := by simpa using h3
        clear h3
        go_enter Tryz.func70, Tryz.ntmps70
        go_upto_region 4 with fail
        go_wp2_with fail
        refine (HZa.out _).mono ?_
        rintro x w1 ⟨rfl, hb1⟩
        have HN1 : Hid (N3 w ka na ea sa kb nb eb sb w1) := HN.out.next hb1
        clear hb1 HN HZa HZb
        go_wp2_with fail
        refine (iInvalid_any _).mono ?_
        rintro x w4 ⟨rfl, hb4⟩
        go_wp2
        exact ⟨rfl, by rw [E.out], (HN1.out.next hb4).2.2.2⟩
      | false =>
        clear h3 h2
        go_enter Tryz.func70, Tryz.ntmps70
        go_upto_region 4 with fail
        go_wp2_with fail
        refine (HZa.out _).mono ?_
        rintro x w1 ⟨rfl, hb1⟩
        have HN1 : Hid (N3 w ka na ea sa kb nb eb sb w1) := HN.out.next hb1
        clear hb1 HN HZa HZb
        go_wp2_with fail
        refine (iInvalid_any _).mono ?_
        rintro x w4 ⟨rfl, hb4⟩
        go_wp2
        exact ⟨rfl, by rw [E.out], (HN1.out.next hb4).2.2.2⟩
    | false =>
      cases zb with
      | true =>
        have E : Hid (RE = thrown (rsV 3 false 0 { data := #[] } 1)) := by show _ = _; rw [← HRE.out]; rfl
        clear HRE
        cases c1 with
        | true =>
          obtain rfl : c2 = false := by simpa using h3
          clear h3
          go_enter Tryz.func70, Tryz.ntmps70
          go_upto_region 4 with fail
          go_wp2_with fail
          refine (HZa.out _).mono ?_
          rintro x w1 ⟨rfl, hb1⟩
          have HN1 : Hid (N3 w ka na ea sa kb nb eb sb w1) := HN.out.next hb1
          obtain ⟨q0, q1, q2, q3, q4⟩ := HN1.out.2.1.cells
          clear hb1 HN HZa
          go_wp2_with fail
          refine (HZb.out _).mono ?_
          rintro x w2 ⟨rfl, hb2⟩
          have HN2 : Hid (N3 w ka na ea sa kb nb eb sb w2) := HN1.out.next hb2
          clear hb2 HN1 HZb q0 q1 q2 q3 q4
          go_wp2_with fail
          refine (iInvalid_any _).mono ?_
          rintro x w4 ⟨rfl, hb4⟩
          go_wp2
          exact ⟨rfl, by rw [E.out], (HN2.out.next hb4).2.2.2⟩
        | false =>
          clear h3 h2
          go_enter Tryz.func70, Tryz.ntmps70
          go_upto_region 4 with fail
          go_wp2_with fail
          refine (HZa.out _).mono ?_
          rintro x w1 ⟨rfl, hb1⟩
          have HN1 : Hid (N3 w ka na ea sa kb nb eb sb w1) := HN.out.next hb1
          obtain ⟨q0, q1, q2, q3, q4⟩ := HN1.out.2.1.cells
          clear hb1 HN HZa
          go_wp2_with fail
          refine (HZb.out _).mono ?_
          rintro x w2 ⟨rfl, hb2⟩
          have HN2 : Hid (N3 w ka na ea sa kb nb eb sb w2) := HN1.out.next hb2
          clear hb2 HN1 HZb q0 q1 q2 q3 q4
          go_wp2_with fail
          refine (iInvalid_any _).mono ?_
          rintro x w4 ⟨rfl, hb4⟩
          go_wp2
          exact ⟨rfl, by rw [E.out], (HN2.out.next hb4).2.2.2⟩
      | false =>
        have E : Hid (RE = .returned (numV 2 ng 0 { data := #[] })) := by show _ = _; rw [← HRE.out]; rfl
        clear HRE
        cases c1 with
        | true =>
          obtain rfl : c2 = false := by simpa using h3
          clear h3
          go_enter Tryz.func70, Tryz.ntmps70
          go_upto_region 4 with fail
          go_wp2_with fail
          refine (HZa.out _).mono ?_
          rintro x w1 ⟨rfl, hb1⟩
          have HN1 : Hid (N3 w ka na ea sa kb nb eb sb w1) := HN.out.next hb1
          obtain ⟨q0, q1, q2, q3, q4⟩ := HN1.out.2.1.cells
          clear hb1 HN HZa
          go_wp2_with fail
          refine (HZb.out _).mono ?_
          rintro x w2 ⟨rfl, hb2⟩
          have HN2 : Hid (N3 w ka na ea sa kb nb eb sb w2) := HN1.out.next hb2
          clear hb2 HN1 HZb q0 q1 q2 q3 q4
          go_upto_region 6 with fail
          go_wp2_with (refine wpList_store_row rfl 25 (.tmp 4) (.tmp 40) rfl (w.heap.size + 2) #[.int .i64 2, .bool ng, .int .i64 0, .string { data := #[] }] rfl rfl _ _ HN2.out.2.2.1 (by kernel_rfl) rfl (one4 _ _ _ _) ?_)
          have hP := (HN2.out.2.2.1.row (.int .i64 2) (.bool ng) (.int .i64 0) (.string { data := #[] })).cells
          refine bodyPost_ret (results_num rfl _ _ rfl hP.1 hP.2.1 hP.2.2.1 hP.2.2.2.1) rfl ?_
          exact ⟨by rw [E.out], bel_row HN2.out.2.2.2 (by omega) _⟩
        | false =>
          clear h3 h2
          go_enter Tryz.func70, Tryz.ntmps70
          go_upto_region 4 with fail
          go_wp2_with fail
          refine (HZa.out _).mono ?_
          rintro x w1 ⟨rfl, hb1⟩
          have HN1 : Hid (N3 w ka na ea sa kb nb eb sb w1) := HN.out.next hb1
          obtain ⟨q0, q1, q2, q3, q4⟩ := HN1.out.2.1.cells
          clear hb1 HN HZa
          go_wp2_with fail
          refine (HZb.out _).mono ?_
          rintro x w2 ⟨rfl, hb2⟩
          have HN2 : Hid (N3 w ka na ea sa kb nb eb sb w2) := HN1.out.next hb2
          clear hb2 HN1 HZb q0 q1 q2 q3 q4
          go_upto_region 6 with fail
          go_wp2_with (refine wpList_store_row rfl 25 (.tmp 4) (.tmp 40) rfl (w.heap.size + 2) #[.int .i64 2, .bool ng, .int .i64 0, .string { data := #[] }] rfl rfl _ _ HN2.out.2.2.1 (by kernel_rfl) rfl (one4 _ _ _ _) ?_)
          have hP := (HN2.out.2.2.1.row (.int .i64 2) (.bool ng) (.int .i64 0) (.string { data := #[] })).cells
          refine bodyPost_ret (results_num rfl _ _ rfl hP.1 hP.2.1 hP.2.2.1 hP.2.2.2.1) rfl ?_
          exact ⟨by rw [E.out], bel_row HN2.out.2.2.2 (by omega) _⟩
  exact main c1b c2b hc1 hc2 hcc
end Go.Proofs.YtnkoeidolmiheaaGreatDoor
namespace Go.Proofs.YtnkoeidolmiheaaGreatDoor
open Go.RowKit
set_option linter.unusedVariables false
set_option maxRecDepth 100000
/-- A row of one number. -/
theorem nrw1 {W : World} {g : Nat} {T : TypeId} {k : Int} {n : Bool} {e : Int} {s : ByteArray} (h : W.heap[g]? = some (.cells #[.int .i64 k, .bool n, .int .i64 e, .string s] T (0, 0))) : NRw W g 1 (fun _ => k) (fun _ => n) (fun _ => e) (fun _ => s) := fun i hi => by
  match i, hi with
  | 0, _ => exact ⟨(cell_lit h 0).trans rfl, (cell_lit h 1).trans rfl, (cell_lit h 2).trans rfl, (cell_lit h 3).trans rfl⟩
theorem ti1 (k : Int) (n : Bool) (e : Int) (s : ByteArray) : tiE 1 (fun _ => k) (fun _ => n) (fun _ => e) (fun _ => s) = if k = 2 then thrown (rsV k n e s 0) else .returned (.tuple #[]) := by
  by_cases h : k = 2
  · subst h; simp [tiE, tiX, tiA]
  · simp [tiE, tiX, tiA, h]
/-- isNought of a right number that is no NaN. -/
theorem isNought_right (f k : Int) (b : Bool) (e : Int) (s : ByteArray) (h : numB f k b e s = true) (h3 : k ≠ 3) (h4 : k ≠ 4) (w : World) : Calls Tryz.prog 48 #[numV k b e s] w fun x w' => x = .returned (.bool (z0B k s)) ∧ Below w.heap.size w w' := by
  obtain ⟨hf, e1, k1, c⟩ := right_two f k b e s h h3 h4
  have hL := lims f hf
  rcases k1 with rfl | rfl
  · obtain ⟨q1, l1, x1, y1⟩ := c rfl
    have v := vl_bd (dl s) q1.1
    have nk : Nok (vl (dl s)) := ⟨v.1, Int.lt_of_lt_of_le v.2 (pow_mono _ _ (by omega))⟩
    have es : s = tn (vl (dl s)) := by rw [tn_tx, nt_vl _ q1 (by omega)]; exact e1
    have := isNought_fin b e (vl (dl s)) w nk
    rw [← z0B_tn _ nk, ← es] at this
    exact this
  · exact isNought_inf b e s w
set_option maxRecDepth 100000 in
set_option maxHeartbeats 1000000 in
theorem mul1_any (p : Nat) (f mode : Int) (ka : Int) (na : Bool) (ea : Int) (sa : ByteArray) (kb : Int) (nb : Bool) (eb : Int) (sb : ByteArray) (X : World) (hsa : sa.size ≤ 4611686018427387904) (hsb : sb.size ≤ 4611686018427387904) (hC : Cap X p f mode ka na ea sa kb nb eb sb) :
    Calls Tryz.prog 68 #[.pointer (some ⟨p, 0, none⟩), .pointer (some ⟨p + 1, 0, none⟩), .pointer (some ⟨p + 2, 0, none⟩), .pointer (some ⟨p + 3, 0, none⟩)] X fun x w' => (x = .returned (rsD (mulR f mode ka na ea sa kb nb eb sb).1 (mulR f mode ka na ea sa kb nb eb sb).2) ∨ x = thrown (rsD (mulR f mode ka na ea sa kb nb eb sb).1 (mulR f mode ka na ea sa kb nb eb sb).2)) ∧ Below X.heap.size X w' := by
  obtain ⟨R, hR⟩ : ∃ R, mulR f mode ka na ea sa kb nb eb sb = R := ⟨_, rfl⟩
  have HR : Hid (mulR f mode ka na ea sa kb nb eb sb = R) := hR
  rw [hR]
  clear hR
  have HZ : Hid (At5 (X.alloc (.cells #[.int .i64 0, .bool false, .int .i64 0, .string { data := #[] }, .int .i64 0] 29)) X.heap.size (.int .i64 0) (.bool false) (.int .i64 0) (.string { data := #[] }) (.int .i64 0) ∧ Below X.heap.size X (X.alloc (.cells #[.int .i64 0, .bool false, .int .i64 0, .string { data := #[] }, .int .i64 0] 29)) ∧ Cap (X.alloc (.cells #[.int .i64 0, .bool false, .int .i64 0, .string { data := #[] }, .int .i64 0] 29)) p f mode ka na ea sa kb nb eb sb) := ⟨at5_new X _ _ _ _ _, (Below.refl _ _).alloc (Nat.le_refl _) _, hC.next ((Below.refl _ _).alloc (Nat.le_refl _) _)⟩
  obtain ⟨q0, q1, qa, qb⟩ := HZ.out.2.2
  obtain ⟨a0, a1, a2, a3, a4⟩ := qa.cells
  obtain ⟨c0, c1, c2, c3, c4⟩ := qb.cells
  clear qa qb
  have hzz := new_size X (.cells #[.int .i64 0, .bool false, .int .i64 0, .string { data := #[] }, .int .i64 0] 29)
  have HRw : Hid (NRw (rowW (X.alloc (.cells #[.int .i64 0, .bool false, .int .i64 0, .string { data := #[] }, .int .i64 0] 29)) ka na ea sa kb nb eb sb) (X.alloc (.cells #[.int .i64 0, .bool false, .int .i64 0, .string { data := #[] }, .int .i64 0] 29)).heap.size 2 (tw2 ka kb) (tw2 na nb) (tw2 ea eb) (tw2 sa sb) ∧ (X.alloc (.cells #[.int .i64 0, .bool false, .int .i64 0, .string { data := #[] }, .int .i64 0] 29)).heap.size < (rowW (X.alloc (.cells #[.int .i64 0, .bool false, .int .i64 0, .string { data := #[] }, .int .i64 0] 29)) ka na ea sa kb nb eb sb).heap.size) := row_new _ ka na ea sa kb nb eb sb
  rw [hzz] at HRw
  have HZr : Hid (At5 (rowW (X.alloc (.cells #[.int .i64 0, .bool false, .int .i64 0, .string { data := #[] }, .int .i64 0] 29)) ka na ea sa kb nb eb sb) X.heap.size (.int .i64 0) (.bool false) (.int .i64 0) (.string { data := #[] }) (.int .i64 0) ∧ Below X.heap.size X (rowW (X.alloc (.cells #[.int .i64 0, .bool false, .int .i64 0, .string { data := #[] }, .int .i64 0] 29)) ka na ea sa kb nb eb sb) ∧ Cap (rowW (X.alloc (.cells #[.int .i64 0, .bool false, .int .i64 0, .string { data := #[] }, .int .i64 0] 29)) ka na ea sa kb nb eb sb) p f mode ka na ea sa kb nb eb sb) := by
    have hb : Below (X.alloc (.cells #[.int .i64 0, .bool false, .int .i64 0, .string { data := #[] }, .int .i64 0] 29)).heap.size (X.alloc (.cells #[.int .i64 0, .bool false, .int .i64 0, .string { data := #[] }, .int .i64 0] 29)) (rowW (X.alloc (.cells #[.int .i64 0, .bool false, .int .i64 0, .string { data := #[] }, .int .i64 0] 29)) ka na ea sa kb nb eb sb) := (Below.refl _ _).alloc (Nat.le_refl _) _
    exact ⟨HZ.out.1.below hb HZ.out.1.lt, HZ.out.2.1.trans (hb.mono HZ.out.2.1.size), HZ.out.2.2.next hb⟩
  have HTs : Hid (∀ Y, NRw Y (X.heap.size + 1) 2 (tw2 ka kb) (tw2 na nb) (tw2 ea eb) (tw2 sa sb) → X.heap.size + 1 < Y.heap.size → Calls Tryz.prog 69 #[.int .i64 f, .int .i64 mode, .slice (some ⟨X.heap.size + 1, 0, none⟩) 2 2] Y fun x w' => x = tsE f mode 2 (tw2 ka kb) (tw2 na nb) (tw2 ea eb) (tw2 sa sb) ∧ Below Y.heap.size Y w') := fun Y h1 h2 => throwSpecials_any f mode 2 (X.heap.size + 1) _ _ _ _ Y (by decide) (by decide) h2 h1 (fun i hi => by match i, hi with
      | 0, _ => exact hsa
      | 1, _ => exact hsb)
  unfold tsE at HTs
  rw [right_ok] at HTs
  clear hC HZ hzz
  cases hO : addO f mode ka na ea sa kb nb eb sb with
  | false =>
    have ER : Hid (R = (false, (0, 0, { data := #[] }, 0))) := by show _ = _; rw [← HR.out]; unfold mulR; rw [hO]; rfl
    rw [hO] at HTs
    simp only [Bool.false_eq_true, if_false] at HTs
    clear hO HR hsa hsb
    go_enter Tryz.func68, Tryz.ntmps68
    go_wp2_with fail
    refine (HTs.out _ HRw.out.1 HRw.out.2).mono ?_
    rintro x w1 ⟨rfl, hb1⟩
    go_wp2
    exact ⟨rfl, .inr (by rw [ER.out]), HZr.out.2.1.trans (hb1.mono HZr.out.2.1.size)⟩
  | true =>
    rw [hO] at HTs
    simp only [if_true] at HTs
    cases hS : spB 2 (tw2 ka kb) with
    | true =>
      have ER : Hid (R = (false, (3, 0, { data := #[] }, spF 2 (tw2 ka kb)))) := by show _ = _; rw [← HR.out]; unfold mulR; rw [hO, hS]; rfl
      rw [hS] at HTs
      simp only [if_true] at HTs
      generalize spF 2 (tw2 ka kb) = FL at *
      clear hO hS HR hsa hsb
      go_enter Tryz.func68, Tryz.ntmps68
      go_wp2_with fail
      refine (HTs.out _ HRw.out.1 HRw.out.2).mono ?_
      rintro x w1 ⟨rfl, hb1⟩
      go_wp2
      exact ⟨rfl, .inr (by rw [ER.out]), HZr.out.2.1.trans (hb1.mono HZr.out.2.1.size)⟩
    | false =>
      have ER : R = mulX f mode ka na ea sa kb nb eb sb := by rw [← HR.out]; unfold mulR; rw [hO, hS]; rfl
      rw [hS] at HTs
      simp only [Bool.false_eq_true, if_false] at HTs
      have hO2 := hO
      unfold addO at hO2
      simp only [Bool.and_eq_true, decide_eq_true_eq] at hO2
      obtain ⟨hmo, hA, hBn⟩ := hO2
      have hnan := of_decide_eq_false hS
      have n0 : ka ≠ 3 ∧ ka ≠ 4 := ⟨fun h => hnan ⟨0, by decide, .inl h⟩, fun h => hnan ⟨0, by decide, .inr h⟩⟩
      have n1 : kb ≠ 3 ∧ kb ≠ 4 := ⟨fun h => hnan ⟨1, by decide, .inl h⟩, fun h => hnan ⟨1, by decide, .inr h⟩⟩
      obtain ⟨hf, ea1, ka1, ca⟩ := right_two f ka na ea sa hA n0.1 n0.2
      obtain ⟨-, eb1, kb1, cb⟩ := right_two f kb nb eb sb hBn n1.1 n1.2
      have hL := lims f hf
      obtain ⟨ng, hng⟩ : ∃ ng, (!(na == nb)) = ng := ⟨_, rfl⟩
      have HT1 : Hid (∀ (k : Int) (n : Bool) (e : Int) (s : ByteArray) Y g, Y.heap[g]? = some (.cells #[.int .i64 k, .bool n, .int .i64 e, .string s] 25 (0, 0)) → g < Y.heap.size → Calls Tryz.prog 50 #[.slice (some ⟨g, 0, none⟩) 1 1] Y fun x w' => x = (if k = 2 then thrown (rsV k n e s 0) else .returned (.tuple #[])) ∧ Below Y.heap.size Y w') := fun k n e s Y g h1 h2 => by
        rw [← ti1 k n e s]; exact throwInfinity_any 1 g _ _ _ _ Y (by decide) h2 (nrw1 h1)
      by_cases hkk : ka = 1 ∧ kb = 1
      · obtain ⟨rfl, rfl⟩ := hkk
        obtain ⟨w1', l1, x1, y1⟩ := ca rfl
        obtain ⟨w2', l2, x2, y2⟩ := cb rfl
        obtain ⟨nk, -⟩ := mul_bd (dl sa) (dl sb) w1' w2' (by omega) (by omega)
        have v1 := vl_bd (dl sa) w1'.1
        have v2 := vl_bd (dl sb) w2'.1
        have nka : Nok (vl (dl sa)) := ⟨v1.1, Int.lt_of_lt_of_le v1.2 (pow_mono _ _ (by omega))⟩
        have nkb : Nok (vl (dl sb)) := ⟨v2.1, Int.lt_of_lt_of_le v2.2 (pow_mono _ _ (by omega))⟩
        have HPo : Hid (∀ Y, Calls Tryz.prog 70 #[numV 1 na ea sa, numV 1 nb eb sb] Y fun x w' => x = .returned (numV 1 ng (ea + eb) (tn (vl (dl sa) * vl (dl sb)))) ∧ Below Y.heap.size Y w') := fun Y => by
          have := productOf_fin na nb ea eb (vl (dl sa)) (vl (dl sb)) Y nka nkb nk (by omega) (by omega)
          rw [tn_tx (vl (dl sa)), tn_tx (vl (dl sb)), nt_vl _ w1' (by omega), nt_vl _ w2' (by omega), ← ea1, ← eb1, hng] at this
          exact this
        have HFn : Hid (∀ Y, Calls Tryz.prog 71 #[.int .i64 f, .int .i64 mode, numV 1 ng (ea + eb) (tn (vl (dl sa) * vl (dl sb))), .int .i64 (ea + eb)] Y fun x w' => x = .returned (rsD R.1 R.2) ∧ Below Y.heap.size Y w') := fun Y => by
          have := finished_any f mode hf hmo 1 ng (ea + eb) (vl (dl sa) * vl (dl sb)) (ea + eb) Y nk (by omega) (by omega)
          rw [ER]
          unfold mulX
          rw [if_pos ⟨rfl, rfl⟩, hng]
          dsimp only
          exact this
        generalize tn (vl (dl sa) * vl (dl sb)) = TP at *
        generalize ea + eb = ep at *
        clear hO hS HR hsa hsb ER hmo hA hBn hnan n0 n1 hf ea1 ca eb1 cb hL hng w1' l1 x1 y1 w2' l2 x2 y2 nk v1 v2 nka nkb ka1 kb1
        obtain ⟨R0, F1, F2, F3, F4⟩ := R
        go_enter Tryz.func68, Tryz.ntmps68
        go_wp2_with fail
        refine (HTs.out _ HRw.out.1 HRw.out.2).mono ?_
        rintro x w1 ⟨rfl, hb1⟩
        have HZ1 : Hid (At5 w1 X.heap.size (.int .i64 0) (.bool false) (.int .i64 0) (.string { data := #[] }) (.int .i64 0) ∧ Below X.heap.size X w1 ∧ Cap w1 p f mode 1 na ea sa 1 nb eb sb) := ⟨HZr.out.1.below hb1 HZr.out.1.lt, HZr.out.2.1.trans (hb1.mono HZr.out.2.1.size), HZr.out.2.2.next hb1⟩
        clear hb1 HZr HTs HRw q0 q1 a0 a1 a2 a3 a4 c0 c1 c2 c3 c4
        obtain ⟨q0, q1, qa, qb⟩ := HZ1.out.2.2
        obtain ⟨a0, a1, a2, a3, a4⟩ := qa.cells
        obtain ⟨c0, c1, c2, c3, c4⟩ := qb.cells
        clear qa qb
        go_wp2_with fail
        refine (HPo.out _).mono ?_
        rintro x w2 ⟨rfl, hb2⟩
        have HZ2 : Hid (At5 w2 X.heap.size (.int .i64 0) (.bool false) (.int .i64 0) (.string { data := #[] }) (.int .i64 0) ∧ Below X.heap.size X w2 ∧ Cap w2 p f mode 1 na ea sa 1 nb eb sb) := ⟨HZ1.out.1.below hb2 HZ1.out.1.lt, HZ1.out.2.1.trans (hb2.mono HZ1.out.2.1.size), HZ1.out.2.2.next hb2⟩
        clear hb2 HZ1 HPo q0 q1 a0 a1 a2 a3 a4 c0 c1 c2 c3 c4
        -- the product's own block, then the row that is handed on
        obtain ⟨w3, hw3⟩ : ∃ W, w2.alloc (.cells #[.int .i64 1, .bool ng, .int .i64 ep, .string TP] 25) = W := ⟨_, rfl⟩
        have hb3 : Below w2.heap.size w2 w3 := by rw [← hw3]; exact (Below.refl _ _).alloc (Nat.le_refl _) _
        have hA3 : At4r w3 w2.heap.size (.int .i64 1) (.bool ng) (.int .i64 ep) (.string TP) := by rw [← hw3]; exact at4r_new w2 _ _ _ _
        have HZ3 : Hid (At5 w3 X.heap.size (.int .i64 0) (.bool false) (.int .i64 0) (.string { data := #[] }) (.int .i64 0) ∧ Below X.heap.size X w3 ∧ Cap w3 p f mode 1 na ea sa 1 nb eb sb ∧ At4r w3 w2.heap.size (.int .i64 1) (.bool ng) (.int .i64 ep) (.string TP)) := ⟨HZ2.out.1.below hb3 HZ2.out.1.lt, HZ2.out.2.1.trans (hb3.mono HZ2.out.2.1.size), HZ2.out.2.2.next hb3, hA3⟩
        have hz3 : w3.heap.size = w2.heap.size + 1 := by rw [← hw3]; exact new_size _ _
        have hb4 : Below w3.heap.size w3 (w3.alloc (.cells #[.int .i64 1, .bool ng, .int .i64 ep, .string TP] 25)) := (Below.refl _ _).alloc (Nat.le_refl _) _
        have hA4 := heap_at w3 (.cells #[.int .i64 1, .bool ng, .int .i64 ep, .string TP] 25)
        have hs4 : w3.heap.size < (w3.alloc (.cells #[.int .i64 1, .bool ng, .int .i64 ep, .string TP] 25)).heap.size := Nat.lt_of_lt_of_eq (Nat.lt_succ_self _) (new_size _ _).symm
        have HZ4 : Hid (At5 (w3.alloc (.cells #[.int .i64 1, .bool ng, .int .i64 ep, .string TP] 25)) X.heap.size (.int .i64 0) (.bool false) (.int .i64 0) (.string { data := #[] }) (.int .i64 0) ∧ Below X.heap.size X (w3.alloc (.cells #[.int .i64 1, .bool ng, .int .i64 ep, .string TP] 25)) ∧ Cap (w3.alloc (.cells #[.int .i64 1, .bool ng, .int .i64 ep, .string TP] 25)) p f mode 1 na ea sa 1 nb eb sb ∧ At4r (w3.alloc (.cells #[.int .i64 1, .bool ng, .int .i64 ep, .string TP] 25)) w2.heap.size (.int .i64 1) (.bool ng) (.int .i64 ep) (.string TP)) := ⟨HZ3.out.1.below hb4 HZ3.out.1.lt, HZ3.out.2.1.trans (hb4.mono HZ3.out.2.1.size), HZ3.out.2.2.1.next hb4, HZ3.out.2.2.2.next hb4⟩
        have HI4 : Hid (Calls Tryz.prog 50 #[.slice (some ⟨w2.heap.size + 1, 0, none⟩) 1 1] (w3.alloc (.cells #[.int .i64 1, .bool ng, .int .i64 ep, .string TP] 25)) fun x w' => x = .returned (.tuple #[]) ∧ Below (w3.alloc (.cells #[.int .i64 1, .bool ng, .int .i64 ep, .string TP] 25)).heap.size (w3.alloc (.cells #[.int .i64 1, .bool ng, .int .i64 ep, .string TP] 25)) w') := by
          have := HT1.out 1 ng ep TP _ w3.heap.size hA4 hs4
          rw [if_neg (by decide), hz3] at this
          exact this
        rw [← hw3] at HI4 HZ4
        clear hw3 hb3 hA3 HZ3 hz3 hb4 hA4 hs4 HT1 HZ2
        go_wp2_with fail
        refine HI4.out.mono ?_
        rintro x w5 ⟨rfl, hb5⟩
        have HZ5 : Hid (At5 w5 X.heap.size (.int .i64 0) (.bool false) (.int .i64 0) (.string { data := #[] }) (.int .i64 0) ∧ Below X.heap.size X w5 ∧ Cap w5 p f mode 1 na ea sa 1 nb eb sb ∧ At4r w5 w2.heap.size (.int .i64 1) (.bool ng) (.int .i64 ep) (.string TP)) := ⟨HZ4.out.1.below hb5 HZ4.out.1.lt, HZ4.out.2.1.trans (hb5.mono HZ4.out.2.1.size), HZ4.out.2.2.1.next hb5, HZ4.out.2.2.2.next hb5⟩
        clear hb5 HZ4 HI4
        obtain ⟨q0, q1, qa, qb⟩ := HZ5.out.2.2.1
        obtain ⟨g0, g1, g2, g3, g4⟩ := HZ5.out.2.2.2.cells
        clear qa qb
        generalize w2.heap.size = b5 at *
        go_wp2_with fail
        refine (HFn.out _).mono ?_
        rintro x w6 ⟨rfl, hb6⟩
        have HZ6 : Hid (At5 w6 X.heap.size (.int .i64 0) (.bool false) (.int .i64 0) (.string { data := #[] }) (.int .i64 0) ∧ Below X.heap.size X w6) := ⟨HZ5.out.1.below hb6 HZ5.out.1.lt, HZ5.out.2.1.trans (hb6.mono HZ5.out.2.1.size)⟩
        clear hb6 HZ5 HFn q0 q1 g0 g1 g2 g3 g4
        go_wp2_with (refine wpList_store_row rfl 29 (.tmp 4) (.tmp 23) rfl X.heap.size #[.int .i64 F1, .bool R0, .int .i64 F2, .string F3, .int .i64 F4] rfl rfl _ _ HZ6.out.1 (by kernel_rfl) rfl (one5 _ _ _ _ _) ?_)
        have hP := (HZ6.out.1.row (.int .i64 F1) (.bool R0) (.int .i64 F2) (.string F3) (.int .i64 F4)).cells
        refine bodyPost_ret (results_res rfl _ _ rfl hP.1 hP.2.1 hP.2.2.1 hP.2.2.2.1 hP.2.2.2.2.1) rfl ?_
        exact ⟨.inl rfl, bel_row HZ6.out.2 (Nat.le_refl _) _⟩
      · have HPo : Hid (∀ Y, Calls Tryz.prog 70 #[numV ka na ea sa, numV kb nb eb sb] Y fun x w' => x = poE ng (z0B ka sa || z0B kb sb) ∧ Below Y.heap.size Y w') := fun Y => by
          rw [← hng]
          exact productOf_inf ka na ea sa kb nb eb sb (z0B ka sa) (z0B kb sb) Y hkk (fun Z => isNought_right f ka na ea sa hA n0.1 n0.2 Z) (fun Z => isNought_right f kb nb eb sb hBn n1.1 n1.2 Z)
        have ER2 : R = if z0B ka sa || z0B kb sb then (false, (3, 0, { data := #[] }, 1)) else (ng, (2, 0, { data := #[] }, 0)) := by
          rw [ER]; unfold mulX; rw [if_neg hkk, hng]
        cases hz : (z0B ka sa || z0B kb sb) with
        | true =>
          rw [hz] at HPo ER2
          have ER3 : Hid (R = (false, (3, 0, { data := #[] }, 1))) := ER2
          have HPo2 : Hid (∀ Y, Calls Tryz.prog 70 #[numV ka na ea sa, numV kb nb eb sb] Y fun x w' => x = thrown (rsV 3 false 0 { data := #[] } 1) ∧ Below Y.heap.size Y w') := HPo
          clear hO hS HR hsa hsb ER hmo hA hBn hnan n0 n1 hf ea1 ca eb1 cb hL hng ka1 kb1 ER2 hkk hz HPo HT1
          go_enter Tryz.func68, Tryz.ntmps68
          go_wp2_with fail
          refine (HTs.out _ HRw.out.1 HRw.out.2).mono ?_
          rintro x w1 ⟨rfl, hb1⟩
          have HZ1 : Hid (At5 w1 X.heap.size (.int .i64 0) (.bool false) (.int .i64 0) (.string { data := #[] }) (.int .i64 0) ∧ Below X.heap.size X w1 ∧ Cap w1 p f mode ka na ea sa kb nb eb sb) := ⟨HZr.out.1.below hb1 HZr.out.1.lt, HZr.out.2.1.trans (hb1.mono HZr.out.2.1.size), HZr.out.2.2.next hb1⟩
          clear hb1 HZr HTs HRw q0 q1 a0 a1 a2 a3 a4 c0 c1 c2 c3 c4
          obtain ⟨q0, q1, qa, qb⟩ := HZ1.out.2.2
          obtain ⟨a0, a1, a2, a3, a4⟩ := qa.cells
          obtain ⟨c0, c1, c2, c3, c4⟩ := qb.cells
          clear qa qb
          go_wp2_with fail
          refine (HPo2.out _).mono ?_
          rintro x w2 ⟨rfl, hb2⟩
          have HB2 : Hid (Below X.heap.size X w2) := HZ1.out.2.1.trans (hb2.mono HZ1.out.2.1.size)
          clear hb2 HZ1 HPo2 q0 q1 a0 a1 a2 a3 a4 c0 c1 c2 c3 c4
          go_wp2
          exact ⟨rfl, .inr (by rw [ER3.out]), HB2.out⟩
        | false =>
          rw [hz] at HPo ER2
          have ER3 : Hid (R = (ng, (2, 0, { data := #[] }, 0))) := ER2
          have HPo2 : Hid (∀ Y, Calls Tryz.prog 70 #[numV ka na ea sa, numV kb nb eb sb] Y fun x w' => x = .returned (numV 2 ng 0 { data := #[] }) ∧ Below Y.heap.size Y w') := HPo
          clear hO hS HR hsa hsb ER hmo hA hBn hnan n0 n1 hf ea1 ca eb1 cb hL hng ka1 kb1 ER2 hkk hz HPo
          go_enter Tryz.func68, Tryz.ntmps68
          go_wp2_with fail
          refine (HTs.out _ HRw.out.1 HRw.out.2).mono ?_
          rintro x w1 ⟨rfl, hb1⟩
          have HZ1 : Hid (At5 w1 X.heap.size (.int .i64 0) (.bool false) (.int .i64 0) (.string { data := #[] }) (.int .i64 0) ∧ Below X.heap.size X w1 ∧ Cap w1 p f mode ka na ea sa kb nb eb sb) := ⟨HZr.out.1.below hb1 HZr.out.1.lt, HZr.out.2.1.trans (hb1.mono HZr.out.2.1.size), HZr.out.2.2.next hb1⟩
          clear hb1 HZr HTs HRw q0 q1 a0 a1 a2 a3 a4 c0 c1 c2 c3 c4
          obtain ⟨q0, q1, qa, qb⟩ := HZ1.out.2.2
          obtain ⟨a0, a1, a2, a3, a4⟩ := qa.cells
          obtain ⟨c0, c1, c2, c3, c4⟩ := qb.cells
          clear qa qb
          go_wp2_with fail
          refine (HPo2.out _).mono ?_
          rintro x w2 ⟨rfl, hb2⟩
          have hB2 : Below X.heap.size X w2 := HZ1.out.2.1.trans (hb2.mono HZ1.out.2.1.size)
          clear hb2 HZ1 HPo2 q0 q1 a0 a1 a2 a3 a4 c0 c1 c2 c3 c4
          have hz3 : (w2.alloc (.cells #[.int .i64 2, .bool ng, .int .i64 0, .string { data := #[] }] 25)).heap.size = w2.heap.size + 1 := new_size _ _
          have hA4 := heap_at (w2.alloc (.cells #[.int .i64 2, .bool ng, .int .i64 0, .string { data := #[] }] 25)) (.cells #[.int .i64 2, .bool ng, .int .i64 0, .string { data := #[] }] 25)
          have hs4 : (w2.alloc (.cells #[.int .i64 2, .bool ng, .int .i64 0, .string { data := #[] }] 25)).heap.size < ((w2.alloc (.cells #[.int .i64 2, .bool ng, .int .i64 0, .string { data := #[] }] 25)).alloc (.cells #[.int .i64 2, .bool ng, .int .i64 0, .string { data := #[] }] 25)).heap.size := Nat.lt_of_lt_of_eq (Nat.lt_succ_self _) (new_size _ _).symm
          have HI4 : Hid (Calls Tryz.prog 50 #[.slice (some ⟨w2.heap.size + 1, 0, none⟩) 1 1] ((w2.alloc (.cells #[.int .i64 2, .bool ng, .int .i64 0, .string { data := #[] }] 25)).alloc (.cells #[.int .i64 2, .bool ng, .int .i64 0, .string { data := #[] }] 25)) fun x w' => x = thrown (rsV 2 ng 0 { data := #[] } 0) ∧ Below ((w2.alloc (.cells #[.int .i64 2, .bool ng, .int .i64 0, .string { data := #[] }] 25)).alloc (.cells #[.int .i64 2, .bool ng, .int .i64 0, .string { data := #[] }] 25)).heap.size ((w2.alloc (.cells #[.int .i64 2, .bool ng, .int .i64 0, .string { data := #[] }] 25)).alloc (.cells #[.int .i64 2, .bool ng, .int .i64 0, .string { data := #[] }] 25)) w') := by
            have := HT1.out 2 ng 0 { data := #[] } _ _ hA4 hs4
            rw [if_pos rfl, hz3] at this
            exact this
          have HB4 : Hid (Below X.heap.size X ((w2.alloc (.cells #[.int .i64 2, .bool ng, .int .i64 0, .string { data := #[] }] 25)).alloc (.cells #[.int .i64 2, .bool ng, .int .i64 0, .string { data := #[] }] 25))) := hB2.trans ((two_below w2 _ _).mono hB2.size)
          clear hz3 hA4 hs4 HT1 hB2
          go_wp2_with fail
          refine HI4.out.mono ?_
          rintro x w5 ⟨rfl, hb5⟩
          go_wp2
          exact ⟨rfl, .inr (by rw [ER3.out]), HB4.out.trans (hb5.mono HB4.out.size)⟩
set_option maxRecDepth 100000 in
set_option maxHeartbeats 1000000 in
theorem iMul_any (f mode : Int) (ka : Int) (na : Bool) (ea : Int) (sa : ByteArray) (kb : Int) (nb : Bool) (eb : Int) (sb : ByteArray) (w : World) (hsa : sa.size ≤ 4611686018427387904) (hsb : sb.size ≤ 4611686018427387904) :
    Calls Tryz.prog 14 #[.int .i64 f, .int .i64 mode, numV ka na ea sa, numV kb nb eb sb] w fun x w' => x = .returned (rsD (mulR f mode ka na ea sa kb nb eb sb).1 (mulR f mode ka na ea sa kb nb eb sb).2) ∧ Below w.heap.size w w' := by
  have hmf : ∀ (fn : Fn) (first cap : Array Value) (w : World), (Instr.makeFunc fn first cap).run Tryz.prog w = .ok (.func fn first cap) w := fun _ _ _ _ => rfl
  have HN : Hid (Cap (capW w f mode ka na ea sa kb nb eb sb) w.heap.size f mode ka na ea sa kb nb eb sb ∧ At5 (capW w f mode ka na ea sa kb nb eb sb) (w.heap.size + 4) (.int .i64 0) (.bool false) (.int .i64 0) (.string { data := #[] }) (.int .i64 0) ∧ Below w.heap.size w (capW w f mode ka na ea sa kb nb eb sb)) := cap_new w f mode ka na ea sa kb nb eb sb
  obtain ⟨R, hR⟩ : ∃ R, mulR f mode ka na ea sa kb nb eb sb = R := ⟨_, rfl⟩
  have H1 : ∀ X, Cap X w.heap.size f mode ka na ea sa kb nb eb sb → Calls Tryz.prog 68 #[.pointer (some ⟨w.heap.size, 0, none⟩), .pointer (some ⟨w.heap.size + 1, 0, none⟩), .pointer (some ⟨w.heap.size + 2, 0, none⟩), .pointer (some ⟨w.heap.size + 3, 0, none⟩)] X fun x w' => (x = .returned (rsD R.1 R.2) ∨ x = thrown (rsD R.1 R.2)) ∧ Below X.heap.size X w' := fun X hC => by
    rw [← hR]; exact mul1_any w.heap.size f mode ka na ea sa kb nb eb sb X hsa hsb hC
  rw [hR]
  obtain ⟨R0, F1, F2, F3, F4⟩ := R
  have HF : Hid (Calls Tryz.prog 67 #[.func (.func 68) #[] #[.pointer (some ⟨w.heap.size, 0, none⟩), .pointer (some ⟨w.heap.size + 1, 0, none⟩), .pointer (some ⟨w.heap.size + 1 + 1, 0, none⟩), .pointer (some ⟨w.heap.size + 1 + 1 + 1, 0, none⟩)]] (capW w f mode ka na ea sa kb nb eb sb) fun e w' => e = .returned (rsV F1 R0 F2 F3 F4) ∧ Below (capW w f mode ka na ea sa kb nb eb sb).heap.size (capW w f mode ka na ea sa kb nb eb sb) w') :=
    atFace_any 68 _ (enters_of Tryz.func68 (by kernel_rfl) rfl) F1 R0 F2 F3 F4 _ (fun X hX => H1 X (HN.out.1.next hX))
  clear hR H1 hsa hsb
  go_enter Tryz.func14, Tryz.ntmps14
  go_wp2_with fail
  refine HF.out.mono ?_
  rintro x w1 ⟨rfl, hb1⟩
  have HZ1 : Hid (At5 w1 (w.heap.size + 4) (.int .i64 0) (.bool false) (.int .i64 0) (.string { data := #[] }) (.int .i64 0) ∧ Below w.heap.size w w1) := ⟨HN.out.2.1.below hb1 HN.out.2.1.lt, HN.out.2.2.trans (hb1.mono HN.out.2.2.size)⟩
  clear hb1 HN HF
  go_wp2_with (refine wpList_store_row rfl 29 (.tmp 8) (.tmp 10) rfl (w.heap.size + 4) #[.int .i64 F1, .bool R0, .int .i64 F2, .string F3, .int .i64 F4] rfl rfl _ _ HZ1.out.1 (by kernel_rfl) rfl (one5 _ _ _ _ _) ?_)
  have hP := (HZ1.out.1.row (.int .i64 F1) (.bool R0) (.int .i64 F2) (.string F3) (.int .i64 F4)).cells
  refine bodyPost_ret (results_res rfl _ _ rfl hP.1 hP.2.1 hP.2.2.1 hP.2.2.2.1 hP.2.2.2.2.1) rfl ?_
  exact ⟨rfl, bel_row HZ1.out.2 (by omega) _⟩
end Go.Proofs.YtnkoeidolmiheaaGreatDoor
namespace Go.Proofs.YtnkoeidolmiheaaGreatDoor
open Go.RowKit
set_option linter.unusedVariables false
set_option maxRecDepth 100000
set_option linter.unusedSimpArgs false
/-- finishedSum of a finite product and a right number that is no NaN. -/
theorem fsP_fin (f mode : Int) (hf : f = 64 ∨ f = 128) (hmo : 1 ≤ mode ∧ mode ≤ 5) (ng : Bool) (ep v : Int) (nk : Nok v) (h68 : v < 10 ^ 68) (hep : -13000 ≤ ep ∧ ep ≤ 13000) (kc : Int) (nc : Bool) (ec : Int) (sc : ByteArray) (hC : numB f kc nc ec sc = true) (c3 : kc ≠ 3) (c4 : kc ≠ 4) (w : World) :
    Calls Tryz.prog 87 #[.int .i64 f, .int .i64 mode, numV 1 ng ep (tn v), numV kc nc ec sc] w fun x w' => (x = .returned (rsD (addX f mode 1 ng ep (nt v) kc nc ec (dl sc)).1 (addX f mode 1 ng ep (nt v) kc nc ec (dl sc)).2) ∨ x = thrown (rsD (addX f mode 1 ng ep (nt v) kc nc ec (dl sc)).1 (addX f mode 1 ng ep (nt v) kc nc ec (dl sc)).2)) ∧ Below w.heap.size w w' := by
  obtain ⟨-, ec1, kc1, cc⟩ := right_two f kc nc ec sc hC c3 c4
  have hL := lims f hf
  rcases kc1 with rfl | rfl
  · obtain ⟨q2, l2, x2, y2⟩ := cc rfl
    have v2 := vl_bd (dl sc) q2.1
    have h2 := q2.2.1
    have l68 : (nt v).length ≤ 68 := nt_len _ 68 nk.1 (by unfold NFit; exact h68) (by decide) (by decide)
    have := finishedSum_fin f mode hf hmo ng ep v nc ec (vl (dl sc)) 68 (dl sc).length w nk.1 h68 v2.1 v2.2 (by decide) h2 (by omega) (by omega) (by omega)
    rw [tn_tx (vl (dl sc)), nt_vl _ q2 (by omega), ← ec1] at this
    have es := sum_same f mode hf ng ep (nt v) nc ec (dl sc) (nok_spec nk).1 q2 (by omega)
    rw [(nok_spec nk).2] at es
    have ex : addX f mode 1 ng ep (nt v) 1 nc ec (dl sc) = sumX f mode ng ep (nt v) nc ec (dl sc) := by
      unfold addX
      rw [if_neg (fun q => absurd q.1 (by decide)), if_neg (by decide), if_neg (by decide)]
    rw [ex, ← es]
    dsimp only
    exact this.mono fun x w' h => ⟨.inl h.1, h.2⟩
  · obtain ⟨z1, z2⟩ := right_inf f nc ec sc hC
    have ex : addX f mode 1 ng ep (nt v) 2 nc ec (dl sc) = (nc, (2, 0, { data := #[] }, 0)) := by
      unfold addX
      rw [if_neg (fun q => absurd q.1 (by decide)), if_neg (by decide), if_pos rfl]
    rw [ex, z1, z2]
    exact (finishedSum_thrown f mode 1 ng ep (tn v) 2 nc 0 { data := #[] } w (rsV 2 nc 0 { data := #[] } 0) (by simp [tiE, tiX, tiA, tw2])).mono fun x w' h => ⟨.inr h.1, h.2⟩
/-- finishedSum of an infinite product and a right number that is no NaN. -/
theorem fsP_inf (f mode : Int) (ng : Bool) (kc : Int) (nc : Bool) (ec : Int) (sc : ByteArray) (hC : numB f kc nc ec sc = true) (c3 : kc ≠ 3) (c4 : kc ≠ 4) (w : World) :
    Calls Tryz.prog 87 #[.int .i64 f, .int .i64 mode, numV 2 ng 0 { data := #[] }, numV kc nc ec sc] w fun x w' => (x = .returned (rsD (addX f mode 2 ng 0 [] kc nc ec (dl sc)).1 (addX f mode 2 ng 0 [] kc nc ec (dl sc)).2) ∨ x = thrown (rsD (addX f mode 2 ng 0 [] kc nc ec (dl sc)).1 (addX f mode 2 ng 0 [] kc nc ec (dl sc)).2)) ∧ Below w.heap.size w w' := by
  obtain ⟨hf, ec1, kc1, cc⟩ := right_two f kc nc ec sc hC c3 c4
  rcases kc1 with rfl | rfl
  · have ex : addX f mode 2 ng 0 [] 1 nc ec (dl sc) = (ng, (2, 0, { data := #[] }, 0)) := by
      unfold addX
      rw [if_neg (fun q => absurd q.2.1 (by decide)), if_pos rfl]
    rw [ex]
    exact (finishedSum_thrown f mode 2 ng 0 { data := #[] } 1 nc ec sc w (rsV 2 ng 0 { data := #[] } 0) (by simp [tiE, tiX, tiA, tw2])).mono fun x w' h => ⟨.inr h.1, h.2⟩
  · obtain ⟨y1, y2⟩ := right_inf f nc ec sc hC
    by_cases hn : ng = nc
    · subst hn
      have ex : addX f mode 2 ng 0 [] 2 ng ec (dl sc) = (ng, (2, 0, { data := #[] }, 0)) := by
        unfold addX
        rw [if_neg (fun q => q.2.2 rfl), if_pos rfl]
      rw [ex, y1, y2]
      exact (finishedSum_thrown f mode 2 ng 0 { data := #[] } 2 ng 0 { data := #[] } w (rsV 2 ng 0 { data := #[] } 0) (by simp [tiE, tiX, tiA, tw2])).mono fun x w' h => ⟨.inr h.1, h.2⟩
    · have ex : addX f mode 2 ng 0 [] 2 nc ec (dl sc) = (false, (3, 0, { data := #[] }, 1)) := by
        unfold addX
        rw [if_pos ⟨rfl, rfl, hn⟩]
      rw [ex, y1, y2]
      exact (finishedSum_thrown f mode 2 ng 0 { data := #[] } 2 nc 0 { data := #[] } w (rsV 3 false 0 { data := #[] } 1) (by simp [tiE, tiX, tiA, tw2, hn])).mono fun x w' h => ⟨.inr h.1, h.2⟩
/-- What the closure sees: format, mode, three numbers. -/
def Cap3 (X : World) (p : Nat) (f mode : Int) (ka : Int) (na : Bool) (ea : Int) (sa : ByteArray) (kb : Int) (nb : Bool) (eb : Int) (sb : ByteArray) (kc : Int) (nc : Bool) (ec : Int) (sc : ByteArray) : Prop :=
  X.cell? ⟨p, 0, none⟩ = some (.int .i64 f) ∧ X.cell? ⟨p + 1, 0, none⟩ = some (.int .i64 mode) ∧ At4r X (p + 2) (.int .i64 ka) (.bool na) (.int .i64 ea) (.string sa) ∧ At4r X (p + 3) (.int .i64 kb) (.bool nb) (.int .i64 eb) (.string sb) ∧ At4r X (p + 4) (.int .i64 kc) (.bool nc) (.int .i64 ec) (.string sc)
theorem Cap3.next {X X' : World} {p : Nat} {f mode : Int} {ka : Int} {na : Bool} {ea : Int} {sa : ByteArray} {kb : Int} {nb : Bool} {eb : Int} {sb : ByteArray} {kc : Int} {nc : Bool} {ec : Int} {sc : ByteArray} (h : Cap3 X p f mode ka na ea sa kb nb eb sb kc nc ec sc) (hb : Below X.heap.size X X') : Cap3 X' p f mode ka na ea sa kb nb eb sb kc nc ec sc := by
  have l3 := h.2.2.2.2.lt
  exact ⟨(hb.cell (p := ⟨p, 0, none⟩) (show p < X.heap.size by omega)).trans h.1, (hb.cell (p := ⟨p + 1, 0, none⟩) (show p + 1 < X.heap.size by omega)).trans h.2.1, h.2.2.1.next hb, h.2.2.2.1.next hb, h.2.2.2.2.next hb⟩
theorem right_ok3 (f mode : Int) (ka : Int) (na : Bool) (ea : Int) (sa : ByteArray) (kb : Int) (nb : Bool) (eb : Int) (sb : ByteArray) (kc : Int) (nc : Bool) (ec : Int) (sc : ByteArray) : rightB f mode 3 (tw3 ka kb kc) (tw3 na nb nc) (tw3 ea eb ec) (tw3 sa sb sc) = fmaO f mode ka na ea sa kb nb eb sb kc nc ec sc := by
  unfold rightB fmaO
  rw [okB3 (fun i => numB f (tw3 ka kb kc i) (tw3 na nb nc i) (tw3 ea eb ec i) (tw3 sa sb sc i))]
  rfl
set_option maxRecDepth 100000 in
set_option maxHeartbeats 1000000 in
theorem fma1_any (p : Nat) (f mode : Int) (ka : Int) (na : Bool) (ea : Int) (sa : ByteArray) (kb : Int) (nb : Bool) (eb : Int) (sb : ByteArray) (kc : Int) (nc : Bool) (ec : Int) (sc : ByteArray) (X : World) (hsa : sa.size ≤ 4611686018427387904) (hsb : sb.size ≤ 4611686018427387904) (hsc : sc.size ≤ 4611686018427387904) (hC : Cap3 X p f mode ka na ea sa kb nb eb sb kc nc ec sc) :
    Calls Tryz.prog 86 #[.pointer (some ⟨p, 0, none⟩), .pointer (some ⟨p + 1, 0, none⟩), .pointer (some ⟨p + 2, 0, none⟩), .pointer (some ⟨p + 3, 0, none⟩), .pointer (some ⟨p + 4, 0, none⟩)] X fun x w' => (x = .returned (rsD (fmaR f mode ka na ea sa kb nb eb sb kc nc ec sc).1 (fmaR f mode ka na ea sa kb nb eb sb kc nc ec sc).2) ∨ x = thrown (rsD (fmaR f mode ka na ea sa kb nb eb sb kc nc ec sc).1 (fmaR f mode ka na ea sa kb nb eb sb kc nc ec sc).2)) ∧ Below X.heap.size X w' := by
  obtain ⟨R, hR⟩ : ∃ R, fmaR f mode ka na ea sa kb nb eb sb kc nc ec sc = R := ⟨_, rfl⟩
  have HR : Hid (fmaR f mode ka na ea sa kb nb eb sb kc nc ec sc = R) := hR
  rw [hR]
  clear hR
  have hb0 : Below X.heap.size X (X.alloc (.cells #[.int .i64 0, .bool false, .int .i64 0, .string { data := #[] }, .int .i64 0] 29)) := (Below.refl _ _).alloc (Nat.le_refl _) _
  have HZ : Hid (At5 (X.alloc (.cells #[.int .i64 0, .bool false, .int .i64 0, .string { data := #[] }, .int .i64 0] 29)) X.heap.size (.int .i64 0) (.bool false) (.int .i64 0) (.string { data := #[] }) (.int .i64 0) ∧ Below X.heap.size X (X.alloc (.cells #[.int .i64 0, .bool false, .int .i64 0, .string { data := #[] }, .int .i64 0] 29)) ∧ Cap3 (X.alloc (.cells #[.int .i64 0, .bool false, .int .i64 0, .string { data := #[] }, .int .i64 0] 29)) p f mode ka na ea sa kb nb eb sb kc nc ec sc) := ⟨at5_new X _ _ _ _ _, hb0, hC.next hb0⟩
  obtain ⟨q0, q1, qa, qb, qc⟩ := HZ.out.2.2
  obtain ⟨a0, a1, a2, a3, a4⟩ := qa.cells
  obtain ⟨c0, c1, c2, c3, c4⟩ := qb.cells
  obtain ⟨d0, d1, d2, d3, d4⟩ := qc.cells
  clear qa qb qc
  have hzz : (X.alloc (.cells #[.int .i64 0, .bool false, .int .i64 0, .string { data := #[] }, .int .i64 0] 29)).heap.size = X.heap.size + 1 := new_size X _
  have HRw : Hid (NRw ((X.alloc (.cells #[.int .i64 0, .bool false, .int .i64 0, .string { data := #[] }, .int .i64 0] 29)).alloc (.cells #[.int .i64 ka, .bool na, .int .i64 ea, .string sa, .int .i64 kb, .bool nb, .int .i64 eb, .string sb, .int .i64 kc, .bool nc, .int .i64 ec, .string sc] 25)) (X.alloc (.cells #[.int .i64 0, .bool false, .int .i64 0, .string { data := #[] }, .int .i64 0] 29)).heap.size 3 (tw3 ka kb kc) (tw3 na nb nc) (tw3 ea eb ec) (tw3 sa sb sc) ∧ (X.alloc (.cells #[.int .i64 0, .bool false, .int .i64 0, .string { data := #[] }, .int .i64 0] 29)).heap.size < ((X.alloc (.cells #[.int .i64 0, .bool false, .int .i64 0, .string { data := #[] }, .int .i64 0] 29)).alloc (.cells #[.int .i64 ka, .bool na, .int .i64 ea, .string sa, .int .i64 kb, .bool nb, .int .i64 eb, .string sb, .int .i64 kc, .bool nc, .int .i64 ec, .string sc] 25)).heap.size) := ⟨nrw3 (heap_at (X.alloc (.cells #[.int .i64 0, .bool false, .int .i64 0, .string { data := #[] }, .int .i64 0] 29)) _), Nat.lt_of_lt_of_eq (Nat.lt_succ_self _) (new_size _ _).symm⟩
  rw [hzz] at HRw
  have HZr : Hid (At5 ((X.alloc (.cells #[.int .i64 0, .bool false, .int .i64 0, .string { data := #[] }, .int .i64 0] 29)).alloc (.cells #[.int .i64 ka, .bool na, .int .i64 ea, .string sa, .int .i64 kb, .bool nb, .int .i64 eb, .string sb, .int .i64 kc, .bool nc, .int .i64 ec, .string sc] 25)) X.heap.size (.int .i64 0) (.bool false) (.int .i64 0) (.string { data := #[] }) (.int .i64 0) ∧ Below X.heap.size X ((X.alloc (.cells #[.int .i64 0, .bool false, .int .i64 0, .string { data := #[] }, .int .i64 0] 29)).alloc (.cells #[.int .i64 ka, .bool na, .int .i64 ea, .string sa, .int .i64 kb, .bool nb, .int .i64 eb, .string sb, .int .i64 kc, .bool nc, .int .i64 ec, .string sc] 25)) ∧ Cap3 ((X.alloc (.cells #[.int .i64 0, .bool false, .int .i64 0, .string { data := #[] }, .int .i64 0] 29)).alloc (.cells #[.int .i64 ka, .bool na, .int .i64 ea, .string sa, .int .i64 kb, .bool nb, .int .i64 eb, .string sb, .int .i64 kc, .bool nc, .int .i64 ec, .string sc] 25)) p f mode ka na ea sa kb nb eb sb kc nc ec sc) := by
    have hb : Below (X.alloc (.cells #[.int .i64 0, .bool false, .int .i64 0, .string { data := #[] }, .int .i64 0] 29)).heap.size (X.alloc (.cells #[.int .i64 0, .bool false, .int .i64 0, .string { data := #[] }, .int .i64 0] 29)) ((X.alloc (.cells #[.int .i64 0, .bool false, .int .i64 0, .string { data := #[] }, .int .i64 0] 29)).alloc (.cells #[.int .i64 ka, .bool na, .int .i64 ea, .string sa, .int .i64 kb, .bool nb, .int .i64 eb, .string sb, .int .i64 kc, .bool nc, .int .i64 ec, .string sc] 25)) := (Below.refl _ _).alloc (Nat.le_refl _) _
    exact ⟨HZ.out.1.below hb HZ.out.1.lt, HZ.out.2.1.trans (hb.mono HZ.out.2.1.size), HZ.out.2.2.next hb⟩
  have HTs : Hid (∀ Y, NRw Y (X.heap.size + 1) 3 (tw3 ka kb kc) (tw3 na nb nc) (tw3 ea eb ec) (tw3 sa sb sc) → X.heap.size + 1 < Y.heap.size → Calls Tryz.prog 69 #[.int .i64 f, .int .i64 mode, .slice (some ⟨X.heap.size + 1, 0, none⟩) 3 3] Y fun x w' => x = tsE f mode 3 (tw3 ka kb kc) (tw3 na nb nc) (tw3 ea eb ec) (tw3 sa sb sc) ∧ Below Y.heap.size Y w') := fun Y h1 h2 => throwSpecials_any f mode 3 (X.heap.size + 1) _ _ _ _ Y (by decide) (by decide) h2 h1 (fun i hi => by match i, hi with
      | 0, _ => exact hsa
      | 1, _ => exact hsb
      | 2, _ => exact hsc)
  unfold tsE at HTs
  rw [right_ok3] at HTs
  clear hC HZ hzz hb0
  cases hO : fmaO f mode ka na ea sa kb nb eb sb kc nc ec sc with
  | false =>
    have ER : Hid (R = (false, (0, 0, { data := #[] }, 0))) := by show _ = _; rw [← HR.out]; unfold fmaR; rw [hO]; rfl
    rw [hO] at HTs
    simp only [Bool.false_eq_true, if_false] at HTs
    clear hO HR hsa hsb hsc
    go_enter Tryz.func86, Tryz.ntmps86
    go_wp2_with fail
    refine (HTs.out _ HRw.out.1 HRw.out.2).mono ?_
    rintro x w1 ⟨rfl, hb1⟩
    go_wp2
    exact ⟨rfl, .inr (by rw [ER.out]), HZr.out.2.1.trans (hb1.mono HZr.out.2.1.size)⟩
  | true =>
    rw [hO] at HTs
    simp only [if_true] at HTs
    cases hS : spB 3 (tw3 ka kb kc) with
    | true =>
      have ER : Hid (R = (false, (3, 0, { data := #[] }, spF 3 (tw3 ka kb kc)))) := by show _ = _; rw [← HR.out]; unfold fmaR; rw [hO, hS]; rfl
      rw [hS] at HTs
      simp only [if_true] at HTs
      generalize spF 3 (tw3 ka kb kc) = FL at *
      clear hO hS HR hsa hsb hsc
      go_enter Tryz.func86, Tryz.ntmps86
      go_wp2_with fail
      refine (HTs.out _ HRw.out.1 HRw.out.2).mono ?_
      rintro x w1 ⟨rfl, hb1⟩
      go_wp2
      exact ⟨rfl, .inr (by rw [ER.out]), HZr.out.2.1.trans (hb1.mono HZr.out.2.1.size)⟩
    | false =>
      have ER : R = fmaX f mode ka na ea sa kb nb eb sb kc nc ec sc := by rw [← HR.out]; unfold fmaR; rw [hO, hS]; rfl
      rw [hS] at HTs
      simp only [Bool.false_eq_true, if_false] at HTs
      have hO2 := hO
      unfold fmaO at hO2
      simp only [Bool.and_eq_true, decide_eq_true_eq] at hO2
      obtain ⟨hmo, hA, hBn, hCn⟩ := hO2
      have hnan := of_decide_eq_false hS
      have n0 : ka ≠ 3 ∧ ka ≠ 4 := ⟨fun h => hnan ⟨0, by decide, .inl h⟩, fun h => hnan ⟨0, by decide, .inr h⟩⟩
      have n1 : kb ≠ 3 ∧ kb ≠ 4 := ⟨fun h => hnan ⟨1, by decide, .inl h⟩, fun h => hnan ⟨1, by decide, .inr h⟩⟩
      have n2 : kc ≠ 3 ∧ kc ≠ 4 := ⟨fun h => hnan ⟨2, by decide, .inl h⟩, fun h => hnan ⟨2, by decide, .inr h⟩⟩
      obtain ⟨hf, ea1, ka1, ca⟩ := right_two f ka na ea sa hA n0.1 n0.2
      obtain ⟨-, eb1, kb1, cb⟩ := right_two f kb nb eb sb hBn n1.1 n1.2
      have hL := lims f hf
      obtain ⟨ng, hng⟩ : ∃ ng, (!(na == nb)) = ng := ⟨_, rfl⟩
      by_cases hkk : ka = 1 ∧ kb = 1
      · obtain ⟨rfl, rfl⟩ := hkk
        obtain ⟨w1', l1, x1, y1⟩ := ca rfl
        obtain ⟨w2', l2, x2, y2⟩ := cb rfl
        obtain ⟨nk, lt68⟩ := mul_bd (dl sa) (dl sb) w1' w2' (by omega) (by omega)
        have v1 := vl_bd (dl sa) w1'.1
        have v2 := vl_bd (dl sb) w2'.1
        have nka : Nok (vl (dl sa)) := ⟨v1.1, Int.lt_of_lt_of_le v1.2 (pow_mono _ _ (by omega))⟩
        have nkb : Nok (vl (dl sb)) := ⟨v2.1, Int.lt_of_lt_of_le v2.2 (pow_mono _ _ (by omega))⟩
        have HPo : Hid (∀ Y, Calls Tryz.prog 70 #[numV 1 na ea sa, numV 1 nb eb sb] Y fun x w' => x = .returned (numV 1 ng (ea + eb) (tn (vl (dl sa) * vl (dl sb)))) ∧ Below Y.heap.size Y w') := fun Y => by
          have := productOf_fin na nb ea eb (vl (dl sa)) (vl (dl sb)) Y nka nkb nk (by omega) (by omega)
          rw [tn_tx (vl (dl sa)), tn_tx (vl (dl sb)), nt_vl _ w1' (by omega), nt_vl _ w2' (by omega), ← ea1, ← eb1, hng] at this
          exact this
        have HFs : Hid (∀ Y, Calls Tryz.prog 87 #[.int .i64 f, .int .i64 mode, numV 1 ng (ea + eb) (tn (vl (dl sa) * vl (dl sb))), numV kc nc ec sc] Y fun x w' => (x = .returned (rsD (R).1 (R).2) ∨ x = thrown (rsD (R).1 (R).2)) ∧ Below Y.heap.size Y w') := fun Y => by
          have := fsP_fin f mode hf hmo ng (ea + eb) (vl (dl sa) * vl (dl sb)) nk lt68 (by omega) kc nc ec sc hCn n2.1 n2.2 Y
          rw [ER]
          unfold fmaX
          rw [if_pos ⟨rfl, rfl⟩, hng]
          exact this
        generalize tn (vl (dl sa) * vl (dl sb)) = TP at *
        generalize ea + eb = ep at *
        clear hO hS HR hsa hsb hsc ER hmo hA hBn hCn hnan n0 n1 n2 hf ea1 ca eb1 cb hL hng ka1 kb1 w1' l1 x1 y1 w2' l2 x2 y2 nk lt68 v1 v2 nka nkb
        obtain ⟨R0, F1, F2, F3, F4⟩ := R
        go_enter Tryz.func86, Tryz.ntmps86
        go_wp2_with fail
        refine (HTs.out _ HRw.out.1 HRw.out.2).mono ?_
        rintro x w1 ⟨rfl, hb1⟩
        have HZ1 : Hid (At5 w1 X.heap.size (.int .i64 0) (.bool false) (.int .i64 0) (.string { data := #[] }) (.int .i64 0) ∧ Below X.heap.size X w1 ∧ Cap3 w1 p f mode 1 na ea sa 1 nb eb sb kc nc ec sc) := ⟨HZr.out.1.below hb1 HZr.out.1.lt, HZr.out.2.1.trans (hb1.mono HZr.out.2.1.size), HZr.out.2.2.next hb1⟩
        clear hb1 HZr HTs HRw q0 q1 a0 a1 a2 a3 a4 c0 c1 c2 c3 c4 d0 d1 d2 d3 d4
        have HX0 : Hid (Below w1.heap.size w1 w1.drew) := (Below.refl _ _).drew
        go_upto_region 2 with fail
        refine wp_region_tail (C := fun W => Below w1.heap.size w1 W) 6 (by kernel_rfl) (by kernel_rfl) HX0.out ?_
        simp only [List.take_succ_cons, List.take_zero, List.drop_succ_cons, List.drop_zero]
        repeat (refine wpQuiet_step (fun K hK => ?_); go_simp; first | (refine hK _ ?_; clear hK K) | (apply Exists.intro; refine ⟨fun wx hC => ?_, hK _ ?_⟩; (first | exact rfl | exact Calls.class_of (HPo.out wx) (fun w' hb => bel1 hC hb) | (obtain ⟨q0, q1, qa⟩ := HZ1.out.2.2.next hC; clear qa; go_simp; exact rfl) | (obtain ⟨a0, a1, a2, a3, a4⟩ := (HZ1.out.2.2.next hC).2.2.1.cells; go_simp; exact rfl) | (obtain ⟨a0, a1, a2, a3, a4⟩ := (HZ1.out.2.2.next hC).2.2.2.1.cells; go_simp; exact rfl) | (obtain ⟨a0, a1, a2, a3, a4⟩ := (HZ1.out.2.2.next hC).2.2.2.2.cells; go_simp; exact rfl)); clear hK K))
        refine wpQuiet_nil ?_
        intro w2 hb2
        have HZ2 : Hid (At5 w2 X.heap.size (.int .i64 0) (.bool false) (.int .i64 0) (.string { data := #[] }) (.int .i64 0) ∧ Below X.heap.size X w2) := ⟨HZ1.out.1.below hb2 HZ1.out.1.lt, HZ1.out.2.1.trans (hb2.mono HZ1.out.2.1.size)⟩
        clear hb2 HZ1 HPo HX0
        go_wp2_with fail
        refine (HFs.out _).mono ?_
        rintro x w3 ⟨rfl | rfl, hb3⟩
        · have HZ3 : Hid (At5 w3 X.heap.size (.int .i64 0) (.bool false) (.int .i64 0) (.string { data := #[] }) (.int .i64 0) ∧ Below X.heap.size X w3) := ⟨HZ2.out.1.below hb3 HZ2.out.1.lt, HZ2.out.2.trans (hb3.mono HZ2.out.2.size)⟩
          clear hb3 HZ2 HFs
          go_wp2_with (refine wpList_store_row rfl 29 (.tmp 5) (.tmp 19) rfl X.heap.size #[.int .i64 F1, .bool R0, .int .i64 F2, .string F3, .int .i64 F4] rfl rfl _ _ HZ3.out.1 (by kernel_rfl) rfl (one5 _ _ _ _ _) ?_)
          have hP := (HZ3.out.1.row (.int .i64 F1) (.bool R0) (.int .i64 F2) (.string F3) (.int .i64 F4)).cells
          refine bodyPost_ret (results_res rfl _ _ rfl hP.1 hP.2.1 hP.2.2.1 hP.2.2.2.1 hP.2.2.2.2.1) rfl ?_
          exact ⟨.inl rfl, bel_row HZ3.out.2 (Nat.le_refl _) _⟩
        · have HB3 : Hid (Below X.heap.size X w3) := HZ2.out.2.trans (hb3.mono HZ2.out.2.size)
          clear hb3 HZ2 HFs
          go_wp2
          exact ⟨rfl, .inr rfl, HB3.out⟩
      · have HPo0 : ∀ Y, Calls Tryz.prog 70 #[numV ka na ea sa, numV kb nb eb sb] Y fun x w' => x = poE ng (z0B ka sa || z0B kb sb) ∧ Below Y.heap.size Y w' := fun Y => by
          rw [← hng]
          exact productOf_inf ka na ea sa kb nb eb sb (z0B ka sa) (z0B kb sb) Y hkk (fun Z => isNought_right f ka na ea sa hA n0.1 n0.2 Z) (fun Z => isNought_right f kb nb eb sb hBn n1.1 n1.2 Z)
        cases hz : (z0B ka sa || z0B kb sb) with
        | true =>
          rw [hz] at HPo0
          have ER3 : Hid (R = (false, (3, 0, { data := #[] }, 1))) := by show _ = _; rw [ER]; unfold fmaX; rw [if_neg hkk, if_pos hz]
          have HPo : Hid (∀ Y, Calls Tryz.prog 70 #[numV ka na ea sa, numV kb nb eb sb] Y fun x w' => x = thrown (rsV 3 false 0 { data := #[] } 1) ∧ Below Y.heap.size Y w') := HPo0
          clear hO hS HR hsa hsb hsc ER hmo hA hBn hCn hnan n0 n1 n2 hf ea1 ca eb1 cb hL hng ka1 kb1 hkk hz HPo0
          go_enter Tryz.func86, Tryz.ntmps86
          go_wp2_with fail
          refine (HTs.out _ HRw.out.1 HRw.out.2).mono ?_
          rintro x w1 ⟨rfl, hb1⟩
          have HZ1 : Hid (At5 w1 X.heap.size (.int .i64 0) (.bool false) (.int .i64 0) (.string { data := #[] }) (.int .i64 0) ∧ Below X.heap.size X w1 ∧ Cap3 w1 p f mode ka na ea sa kb nb eb sb kc nc ec sc) := ⟨HZr.out.1.below hb1 HZr.out.1.lt, HZr.out.2.1.trans (hb1.mono HZr.out.2.1.size), HZr.out.2.2.next hb1⟩
          clear hb1 HZr HTs HRw q0 q1 a0 a1 a2 a3 a4 c0 c1 c2 c3 c4 d0 d1 d2 d3 d4
          obtain ⟨q0, q1, qa, qb, qc⟩ := HZ1.out.2.2
          obtain ⟨a0, a1, a2, a3, a4⟩ := qa.cells
          obtain ⟨c0, c1, c2, c3, c4⟩ := qb.cells
          obtain ⟨d0, d1, d2, d3, d4⟩ := qc.cells
          clear qa qb qc
          go_upto_region 2 with fail
          have hS0 : (fun W : World => W.cell? ⟨p, 0, none⟩ = some (.int .i64 f) ∧ W.cell? ⟨p + 1, 0, none⟩ = some (.int .i64 mode) ∧ W.cell? ⟨p + 2, 0, none⟩ = some (.int .i64 ka) ∧ W.cell? ⟨p + 2, 1, none⟩ = some (.bool na) ∧ W.cell? ⟨p + 2, 2, none⟩ = some (.int .i64 ea) ∧ W.cell? ⟨p + 2, 3, none⟩ = some (.string sa) ∧ W.cell? ⟨p + 3, 0, none⟩ = some (.int .i64 kb) ∧ W.cell? ⟨p + 3, 1, none⟩ = some (.bool nb) ∧ W.cell? ⟨p + 3, 2, none⟩ = some (.int .i64 eb) ∧ W.cell? ⟨p + 3, 3, none⟩ = some (.string sb) ∧ W.cell? ⟨p + 4, 0, none⟩ = some (.int .i64 kc) ∧ W.cell? ⟨p + 4, 1, none⟩ = some (.bool nc) ∧ W.cell? ⟨p + 4, 2, none⟩ = some (.int .i64 ec) ∧ W.cell? ⟨p + 4, 3, none⟩ = some (.string sc)) w1.drew := ⟨q0, q1, a0, a1, a2, a3, c0, c1, c2, c3, d0, d1, d2, d3⟩
          refine wp_region_held_drew (S := fun W => W.cell? ⟨p, 0, none⟩ = some (.int .i64 f) ∧ W.cell? ⟨p + 1, 0, none⟩ = some (.int .i64 mode) ∧ W.cell? ⟨p + 2, 0, none⟩ = some (.int .i64 ka) ∧ W.cell? ⟨p + 2, 1, none⟩ = some (.bool na) ∧ W.cell? ⟨p + 2, 2, none⟩ = some (.int .i64 ea) ∧ W.cell? ⟨p + 2, 3, none⟩ = some (.string sa) ∧ W.cell? ⟨p + 3, 0, none⟩ = some (.int .i64 kb) ∧ W.cell? ⟨p + 3, 1, none⟩ = some (.bool nb) ∧ W.cell? ⟨p + 3, 2, none⟩ = some (.int .i64 eb) ∧ W.cell? ⟨p + 3, 3, none⟩ = some (.string sb) ∧ W.cell? ⟨p + 4, 0, none⟩ = some (.int .i64 kc) ∧ W.cell? ⟨p + 4, 1, none⟩ = some (.bool nc) ∧ W.cell? ⟨p + 4, 2, none⟩ = some (.int .i64 ec) ∧ W.cell? ⟨p + 4, 3, none⟩ = some (.string sc)) (by kernel_rfl) hS0 (fun _ => ?_)
          refine wpAnyH_take (i := 0) (v := .int .i64 f) rfl (by kernel_rfl) (by kernel_rfl) (by kernel_rfl) (fun _ _ _ h => h) (Or.inl ⟨by rfl, ?_⟩) hS0 ?_
          · intro W hW
            try dsimp only at hW
            go_split_ands
            go_simp
          try simp only [Act.put, List.setIfInBounds_toArray, List.set_cons_zero, List.set_cons_succ]
          refine wpAnyH_take (i := 1) (v := .int .i64 mode) rfl (by kernel_rfl) (by kernel_rfl) (by kernel_rfl) (fun _ _ _ h => h) (Or.inl ⟨by rfl, ?_⟩) hS0 ?_
          · intro W hW
            try dsimp only at hW
            go_split_ands
            go_simp
          try simp only [Act.put, List.setIfInBounds_toArray, List.set_cons_zero, List.set_cons_succ]
          refine wpAnyH_take (i := 2) (v := numV ka na ea sa) rfl (by kernel_rfl) (by kernel_rfl) (by kernel_rfl) (fun _ _ _ h => h) (Or.inl ⟨by rfl, ?_⟩) hS0 ?_
          · intro W hW
            try dsimp only at hW
            go_split_ands
            go_simp
          try simp only [Act.put, List.setIfInBounds_toArray, List.set_cons_zero, List.set_cons_succ]
          refine wpAnyH_take (i := 3) (v := numV kb nb eb sb) rfl (by kernel_rfl) (by kernel_rfl) (by kernel_rfl) (fun _ _ _ h => h) (Or.inl ⟨by rfl, ?_⟩) hS0 ?_
          · intro W hW
            try dsimp only at hW
            go_split_ands
            go_simp
          try simp only [Act.put, List.setIfInBounds_toArray, List.set_cons_zero, List.set_cons_succ]
          refine wpAnyH_take (i := 5) (v := numV kc nc ec sc) rfl (by kernel_rfl) (by kernel_rfl) (by kernel_rfl) (fun _ _ _ h => h) (Or.inl ⟨by rfl, ?_⟩) hS0 ?_
          · intro W hW
            try dsimp only at hW
            go_split_ands
            go_simp
          try simp only [Act.put, List.setIfInBounds_toArray, List.set_cons_zero, List.set_cons_succ]
          refine wpAnyH_ready (rs := [4]) (by kernel_rfl) (by simp) ?_
          refine AllReadyH.cons rfl (fun K hK => ?_) AllReadyH.nil
          clear hK
          go_simp
          go_at_call 70
          refine (HPo.out _).mono ?_
          rintro x w2 ⟨rfl, hb2⟩
          have hE : Below X.heap.size X w2 := HZ1.out.2.1.drew.trans (hb2.mono HZ1.out.2.1.size)
          go_simp
          exact ⟨rfl, .inr (by rw [ER3.out]), hE⟩
        | false =>
          rw [hz] at HPo0
          have HPo : Hid (∀ Y, Calls Tryz.prog 70 #[numV ka na ea sa, numV kb nb eb sb] Y fun x w' => x = .returned (numV 2 ng 0 { data := #[] }) ∧ Below Y.heap.size Y w') := HPo0
          have HFs : Hid (∀ Y, Calls Tryz.prog 87 #[.int .i64 f, .int .i64 mode, numV 2 ng 0 { data := #[] }, numV kc nc ec sc] Y fun x w' => (x = .returned (rsD (R).1 (R).2) ∨ x = thrown (rsD (R).1 (R).2)) ∧ Below Y.heap.size Y w') := fun Y => by
            have := fsP_inf f mode ng kc nc ec sc hCn n2.1 n2.2 Y
            rw [ER]
            unfold fmaX
            rw [if_neg hkk, hng, hz, if_neg (by decide)]
            exact this
          clear hO hS HR hsa hsb hsc ER hmo hA hBn hCn hnan n0 n1 n2 hf ea1 ca eb1 cb hL hng ka1 kb1 hkk hz HPo0
          obtain ⟨R0, F1, F2, F3, F4⟩ := R
          go_enter Tryz.func86, Tryz.ntmps86
          go_wp2_with fail
          refine (HTs.out _ HRw.out.1 HRw.out.2).mono ?_
          rintro x w1 ⟨rfl, hb1⟩
          have HZ1 : Hid (At5 w1 X.heap.size (.int .i64 0) (.bool false) (.int .i64 0) (.string { data := #[] }) (.int .i64 0) ∧ Below X.heap.size X w1 ∧ Cap3 w1 p f mode ka na ea sa kb nb eb sb kc nc ec sc) := ⟨HZr.out.1.below hb1 HZr.out.1.lt, HZr.out.2.1.trans (hb1.mono HZr.out.2.1.size), HZr.out.2.2.next hb1⟩
          clear hb1 HZr HTs HRw q0 q1 a0 a1 a2 a3 a4 c0 c1 c2 c3 c4 d0 d1 d2 d3 d4
          have HX0 : Hid (Below w1.heap.size w1 w1.drew) := (Below.refl _ _).drew
          go_upto_region 2 with fail
          refine wp_region_tail (C := fun W => Below w1.heap.size w1 W) 6 (by kernel_rfl) (by kernel_rfl) HX0.out ?_
          simp only [List.take_succ_cons, List.take_zero, List.drop_succ_cons, List.drop_zero]
          repeat (refine wpQuiet_step (fun K hK => ?_); go_simp; first | (refine hK _ ?_; clear hK K) | (apply Exists.intro; refine ⟨fun wx hC => ?_, hK _ ?_⟩; (first | exact rfl | exact Calls.class_of (HPo.out wx) (fun w' hb => bel1 hC hb) | (obtain ⟨q0, q1, qa⟩ := HZ1.out.2.2.next hC; clear qa; go_simp; exact rfl) | (obtain ⟨a0, a1, a2, a3, a4⟩ := (HZ1.out.2.2.next hC).2.2.1.cells; go_simp; exact rfl) | (obtain ⟨a0, a1, a2, a3, a4⟩ := (HZ1.out.2.2.next hC).2.2.2.1.cells; go_simp; exact rfl) | (obtain ⟨a0, a1, a2, a3, a4⟩ := (HZ1.out.2.2.next hC).2.2.2.2.cells; go_simp; exact rfl)); clear hK K))
          refine wpQuiet_nil ?_
          intro w2 hb2
          have HZ2 : Hid (At5 w2 X.heap.size (.int .i64 0) (.bool false) (.int .i64 0) (.string { data := #[] }) (.int .i64 0) ∧ Below X.heap.size X w2) := ⟨HZ1.out.1.below hb2 HZ1.out.1.lt, HZ1.out.2.1.trans (hb2.mono HZ1.out.2.1.size)⟩
          clear hb2 HZ1 HPo HX0
          go_wp2_with fail
          refine (HFs.out _).mono ?_
          rintro x w3 ⟨rfl | rfl, hb3⟩
          · have HZ3 : Hid (At5 w3 X.heap.size (.int .i64 0) (.bool false) (.int .i64 0) (.string { data := #[] }) (.int .i64 0) ∧ Below X.heap.size X w3) := ⟨HZ2.out.1.below hb3 HZ2.out.1.lt, HZ2.out.2.trans (hb3.mono HZ2.out.2.size)⟩
            clear hb3 HZ2 HFs
            go_wp2_with (refine wpList_store_row rfl 29 (.tmp 5) (.tmp 19) rfl X.heap.size #[.int .i64 F1, .bool R0, .int .i64 F2, .string F3, .int .i64 F4] rfl rfl _ _ HZ3.out.1 (by kernel_rfl) rfl (one5 _ _ _ _ _) ?_)
            have hP := (HZ3.out.1.row (.int .i64 F1) (.bool R0) (.int .i64 F2) (.string F3) (.int .i64 F4)).cells
            refine bodyPost_ret (results_res rfl _ _ rfl hP.1 hP.2.1 hP.2.2.1 hP.2.2.2.1 hP.2.2.2.2.1) rfl ?_
            exact ⟨.inl rfl, bel_row HZ3.out.2 (Nat.le_refl _) _⟩
          · have HB3 : Hid (Below X.heap.size X w3) := HZ2.out.2.trans (hb3.mono HZ2.out.2.size)
            clear hb3 HZ2 HFs
            go_wp2
            exact ⟨rfl, .inr rfl, HB3.out⟩
end Go.Proofs.YtnkoeidolmiheaaGreatDoor
namespace Go.Proofs.YtnkoeidolmiheaaGreatDoor
open Go.RowKit
set_option linter.unusedVariables false
set_option maxRecDepth 100000
/-- The boxes of an operation on three numbers. -/
abbrev capW3 (w : World) (f mode : Int) (ka : Int) (na : Bool) (ea : Int) (sa : ByteArray) (kb : Int) (nb : Bool) (eb : Int) (sb : ByteArray) (kc : Int) (nc : Bool) (ec : Int) (sc : ByteArray) : World :=
  svmW ((w.alloc (.cells #[.int .i64 f] 2)).alloc (.cells #[.int .i64 mode] 2)) ka na ea sa kb nb eb sb kc nc ec sc
theorem cap3_new (w : World) (f mode : Int) (ka : Int) (na : Bool) (ea : Int) (sa : ByteArray) (kb : Int) (nb : Bool) (eb : Int) (sb : ByteArray) (kc : Int) (nc : Bool) (ec : Int) (sc : ByteArray) :
    Cap3 (capW3 w f mode ka na ea sa kb nb eb sb kc nc ec sc) w.heap.size f mode ka na ea sa kb nb eb sb kc nc ec sc ∧ At5 (capW3 w f mode ka na ea sa kb nb eb sb kc nc ec sc) (w.heap.size + 5) (.int .i64 0) (.bool false) (.int .i64 0) (.string { data := #[] }) (.int .i64 0) ∧ Below w.heap.size w (capW3 w f mode ka na ea sa kb nb eb sb kc nc ec sc) := by
  unfold capW3
  have c1 := new_cell1 w (.int .i64 f) 2
  have z1 := new_size w (.cells #[.int .i64 f] 2)
  have b1 : Below w.heap.size w (w.alloc (.cells #[.int .i64 f] 2)) := (Below.refl _ _).alloc (Nat.le_refl _) _
  generalize w.alloc (.cells #[.int .i64 f] 2) = w1 at *
  have c2 := new_cell1 w1 (.int .i64 mode) 2
  have z2 := new_size w1 (.cells #[.int .i64 mode] 2)
  have b2 : Below w1.heap.size w1 (w1.alloc (.cells #[.int .i64 mode] 2)) := (Below.refl _ _).alloc (Nat.le_refl _) _
  have c1' := (b2.cell (p := ⟨w.heap.size, 0, none⟩) (show w.heap.size < w1.heap.size by omega)).trans c1
  generalize w1.alloc (.cells #[.int .i64 mode] 2) = w2 at *
  have h3 := svm_new w2 ka na ea sa kb nb eb sb kc nc ec sc
  rw [z1] at c2
  have e2 : w2.heap.size = w.heap.size + 2 := by omega
  have hb2 : Below w.heap.size w w2 := b1.trans (b2.mono b1.size)
  have hb3 : Below w2.heap.size w2 (svmW w2 ka na ea sa kb nb eb sb kc nc ec sc) := h3.2.2.2.2.1
  refine ⟨⟨(hb3.cell (p := ⟨w.heap.size, 0, none⟩) (show w.heap.size < w2.heap.size by omega)).trans c1', (hb3.cell (p := ⟨w.heap.size + 1, 0, none⟩) (show w.heap.size + 1 < w2.heap.size by omega)).trans c2, ?_, ?_, ?_⟩, ?_, hb2.trans (hb3.mono hb2.size)⟩
  · have := h3.1; rw [e2] at this; exact this
  · have := h3.2.1; rw [e2] at this; exact this
  · have := h3.2.2.1; rw [e2] at this; exact this
  · have := h3.2.2.2.1; rw [e2] at this; exact this
set_option maxRecDepth 100000 in
set_option maxHeartbeats 1000000 in
theorem iFma_any (f mode : Int) (ka : Int) (na : Bool) (ea : Int) (sa : ByteArray) (kb : Int) (nb : Bool) (eb : Int) (sb : ByteArray) (kc : Int) (nc : Bool) (ec : Int) (sc : ByteArray) (w : World) (hsa : sa.size ≤ 4611686018427387904) (hsb : sb.size ≤ 4611686018427387904) (hsc : sc.size ≤ 4611686018427387904) :
    Calls Tryz.prog 19 #[.int .i64 f, .int .i64 mode, numV ka na ea sa, numV kb nb eb sb, numV kc nc ec sc] w fun x w' => x = .returned (rsD (fmaR f mode ka na ea sa kb nb eb sb kc nc ec sc).1 (fmaR f mode ka na ea sa kb nb eb sb kc nc ec sc).2) ∧ Below w.heap.size w w' := by
  have hmf : ∀ (fn : Fn) (first cap : Array Value) (w : World), (Instr.makeFunc fn first cap).run Tryz.prog w = .ok (.func fn first cap) w := fun _ _ _ _ => rfl
  have HN : Hid (Cap3 (capW3 w f mode ka na ea sa kb nb eb sb kc nc ec sc) w.heap.size f mode ka na ea sa kb nb eb sb kc nc ec sc ∧ At5 (capW3 w f mode ka na ea sa kb nb eb sb kc nc ec sc) (w.heap.size + 5) (.int .i64 0) (.bool false) (.int .i64 0) (.string { data := #[] }) (.int .i64 0) ∧ Below w.heap.size w (capW3 w f mode ka na ea sa kb nb eb sb kc nc ec sc)) := cap3_new w f mode ka na ea sa kb nb eb sb kc nc ec sc
  obtain ⟨R, hR⟩ : ∃ R, fmaR f mode ka na ea sa kb nb eb sb kc nc ec sc = R := ⟨_, rfl⟩
  have H1 : ∀ X, Cap3 X w.heap.size f mode ka na ea sa kb nb eb sb kc nc ec sc → Calls Tryz.prog 86 #[.pointer (some ⟨w.heap.size, 0, none⟩), .pointer (some ⟨w.heap.size + 1, 0, none⟩), .pointer (some ⟨w.heap.size + 2, 0, none⟩), .pointer (some ⟨w.heap.size + 3, 0, none⟩), .pointer (some ⟨w.heap.size + 4, 0, none⟩)] X fun x w' => (x = .returned (rsD R.1 R.2) ∨ x = thrown (rsD R.1 R.2)) ∧ Below X.heap.size X w' := fun X hC => by
    rw [← hR]; exact fma1_any w.heap.size f mode ka na ea sa kb nb eb sb kc nc ec sc X hsa hsb hsc hC
  rw [hR]
  obtain ⟨R0, F1, F2, F3, F4⟩ := R
  have HF : Hid (Calls Tryz.prog 67 #[.func (.func 86) #[] #[.pointer (some ⟨w.heap.size, 0, none⟩), .pointer (some ⟨w.heap.size + 1, 0, none⟩), .pointer (some ⟨w.heap.size + 1 + 1, 0, none⟩), .pointer (some ⟨w.heap.size + 1 + 1 + 1, 0, none⟩), .pointer (some ⟨w.heap.size + 1 + 1 + 1 + 1, 0, none⟩)]] (capW3 w f mode ka na ea sa kb nb eb sb kc nc ec sc) fun e w' => e = .returned (rsV F1 R0 F2 F3 F4) ∧ Below (capW3 w f mode ka na ea sa kb nb eb sb kc nc ec sc).heap.size (capW3 w f mode ka na ea sa kb nb eb sb kc nc ec sc) w') :=
    atFace_any 86 _ (enters_of Tryz.func86 (by kernel_rfl) rfl) F1 R0 F2 F3 F4 _ (fun X hX => H1 X (HN.out.1.next hX))
  clear hR H1 hsa hsb hsc
  go_enter Tryz.func19, Tryz.ntmps19
  go_wp2_with fail
  refine HF.out.mono ?_
  rintro x w1 ⟨rfl, hb1⟩
  have HZ1 : Hid (At5 w1 (w.heap.size + 5) (.int .i64 0) (.bool false) (.int .i64 0) (.string { data := #[] }) (.int .i64 0) ∧ Below w.heap.size w w1) := ⟨HN.out.2.1.below hb1 HN.out.2.1.lt, HN.out.2.2.trans (hb1.mono HN.out.2.2.size)⟩
  clear hb1 HN HF
  go_wp2_with (refine wpList_store_row rfl 29 (.tmp 10) (.tmp 12) rfl (w.heap.size + 5) #[.int .i64 F1, .bool R0, .int .i64 F2, .string F3, .int .i64 F4] rfl rfl _ _ HZ1.out.1 (by kernel_rfl) rfl (one5 _ _ _ _ _) ?_)
  have hP := (HZ1.out.1.row (.int .i64 F1) (.bool R0) (.int .i64 F2) (.string F3) (.int .i64 F4)).cells
  refine bodyPost_ret (results_res rfl _ _ rfl hP.1 hP.2.1 hP.2.2.1 hP.2.2.2.1 hP.2.2.2.2.1) rfl ?_
  exact ⟨rfl, bel_row HZ1.out.2 (by omega) _⟩
end Go.Proofs.YtnkoeidolmiheaaGreatDoor
