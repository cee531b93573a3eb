/-
  Remainder of the program, walked.
-/
import Derived.Test.YthhmgghipgcinasRmp
import Derived.Test.YthhmgghipgcinasQta
namespace Go.Proofs.Ythhmgghipgcinas
open Go.RowKit
set_option linter.unusedVariables false
set_option maxRecDepth 100000
set_option maxRecDepth 100000 in
theorem lowered_any (na : Bool) (ea v e : Int) (w : World) (hea : -7000 ≤ ea ∧ ea ≤ 7000) (he : -7000 ≤ e ∧ e ≤ 7000) (h0 : 0 ≤ ea - e) (h1 : ea - e ≤ 200) (hv : Nok v) (hv2 : Nok (v * 10 ^ (ea - e).toNat)) :
    Calls Try.prog 29 #[numV 1 na ea (tn v), .int .i64 e] w fun x w' => x = .returned (numV 1 na e (tn (v * 10 ^ (ea - e).toNat))) ∧ Below w.heap.size w w' := by
  have HS : Hid (∀ X, Calls Try.prog 54 #[.string (tn v), .int .i64 (ea - e)] X fun x w' => x = .returned (.string (tn (v * 10 ^ (ea - e).toNat))) ∧ Below X.heap.size X w') := fun X => by
    have := iNatShift_any (tn v) (ea - e) X (tnSz v)
    rwa [shift_tn hv hv2 h0 h1] at this
  have hw1 : IntKind.i64.wrap (ea - e) = ea - e := by rw [IntKind.wrap_i64]; omega
  generalize tn (v * 10 ^ (ea - e).toNat) = T2 at *
  generalize tn v = T1 at *
  have hbn := build_num 1 na e T2
  clear hv hv2 hea he h0 h1
  have HN : Hid (N2 w 1 na ea T1 ((w.alloc (.cells #[.int .i64 1, .bool na, .int .i64 ea, .string T1] 25)).alloc (.cells #[.int .i64 0, .bool false, .int .i64 0, .string { data := #[] }] 25))) := n2_new w 1 na ea T1
  go_enter Try.func29, Try.ntmps29
  go_upto_region 1 with fail
  generalize (w.alloc (.cells #[.int .i64 1, .bool na, .int .i64 ea, .string T1] 25)).alloc (.cells #[.int .i64 0, .bool false, .int .i64 0, .string { data := #[] }] 25) = w0 at *
  have HX0 : Hid (Below w0.heap.size w0 w0.drew) := (Below.refl _ _).drew
  refine wp_region_tail (C := fun W => Below w0.heap.size w0 W) 11 (by kernel_rfl) (by kernel_rfl) HX0.out ?_
  simp only [List.take_succ_cons, List.take_zero, List.drop_succ_cons, List.drop_zero]
  repeat (refine wpQuiet_step (fun K hK => ?_); go_simp; first | (refine hK _ ?_; clear hK K) | (apply Exists.intro; refine ⟨fun wx hC => ?_, hK _ ?_⟩; (first | exact rfl | ((with_reducible refine Calls.class_of (HS.out wx) ?_); exact fun w' hb => bel1 hC hb) | (obtain ⟨a0, a1, a2, a3, a4⟩ := (HN.out.next hC).1.cells; go_simp; exact rfl)); clear hK K))
  refine wpQuiet_nil ?_
  intro w1 hb1
  have HN1 : Hid (N2 w 1 na ea T1 w1) := HN.out.next hb1
  clear hb1 HN HX0 HS
  go_wp2_with (refine wpList_store_row rfl 25 (.tmp 4) (.tmp 15) rfl (w.heap.size + 1) #[.int .i64 1, .bool na, .int .i64 e, .string T2] rfl rfl _ _ HN1.out.2.1 (by kernel_rfl) rfl (one4 _ _ _ _) ?_)
  have hP := (HN1.out.2.1.row (.int .i64 1) (.bool na) (.int .i64 e) (.string T2)).cells
  refine bodyPost_ret (results_num rfl _ _ rfl hP.1 hP.2.1 hP.2.2.1 hP.2.2.2.1) rfl ?_
  exact ⟨rfl, bel_row HN1.out.2.2 (by omega) _⟩
theorem build_cut2 (od : Bool) (p : Int) (w : World) : (Instr.build 75 #[(1, .bool od), (2, .int .i64 p)]).run Try.prog w = .ok (cutV false od p) w := run_build w _ _ _ (by kernel_rfl)
set_option maxRecDepth 100000 in
set_option maxHeartbeats 1000000 in
theorem remainderOf_any (na nb : Bool) (e x y : Int) (w : World) (nx : Nok x) (ny : Nok y) (hy : 0 < y) (nq : Nok (x / y)) (nr : Nok (x % y)) (n2 : Nok (x % y + x % y)) (hr1 : x % y < y) :
    Calls Try.prog 28 #[numV 1 na e (tn x), numV 1 nb e (tn y)] w fun r w' => r = .returned (if rmUp x y then numV 1 (!na) e (tn (y - x % y)) else numV 1 na e (tn (x % y))) ∧ Below w.heap.size w w' := by
  have HDv : Hid (∀ X, Calls Try.prog 48 #[.string (tn x), .string (tn y)] X fun r w' => r = .returned (.tuple #[.string (tn (x / y)), .string (tn (x % y))]) ∧ Below X.heap.size X w') := fun X => by
    have := iNatDiv_any (tn x) (tn y) X (tnSz _) (tnSz _)
    rwa [(div_tn nx ny (Int.ne_of_gt hy)).1, (div_tn nx ny (Int.ne_of_gt hy)).2] at this
  have HAd : Hid (∀ X, Calls Try.prog 50 #[.string (tn (x % y)), .string (tn (x % y))] X fun r w' => r = .returned (.string (tn (x % y + x % y))) ∧ Below X.heap.size X w') := fun X => by
    have := iNatAdd_any (tn (x % y)) (tn (x % y)) X (tnSz _) (tnSz _)
    rwa [add_tn nr nr, fit_tn n2] at this
  have HCm : Hid (∀ X, Calls Try.prog 49 #[.string (tn (x % y + x % y)), .string (tn y)] X fun r w' => r = .returned (.int .i64 (cmpI (x % y + x % y) y)) ∧ Below X.heap.size X w') := fun X => by
    have := iNatCmp_any (tn (x % y + x % y)) (tn y) X (tnSz _) (tnSz _)
    rwa [cmp_tn n2 ny] at this
  have HSb : Hid (∀ X, Calls Try.prog 53 #[.string (tn y), .string (tn (x % y))] X fun r w' => r = .returned (.string (tn (y - x % y))) ∧ Below X.heap.size X w') := fun X => by
    have := iNatSub_any (tn y) (tn (x % y)) X (tnSz _) (tnSz _)
    rwa [sub_tn ny nr (by omega)] at this
  have HOd : Hid (∀ X, Calls Try.prog 52 #[.string (tn (x / y))] X fun r w' => r = .returned (.bool (decide (x / y % 2 = 1))) ∧ w' = X) := fun X => by
    have := iOdd_any (nt (x / y)) (nok_spec nq).1.1 (by have := (nok_spec nq).1.2.1; omega) (by have := nok_len nq; omega) X
    rwa [(nok_spec nq).2] at this
  have hcm : cmpI (x % y + x % y) y = -1 ∨ cmpI (x % y + x % y) y = 0 ∨ cmpI (x % y + x % y) y = 1 := by
    unfold cmpI; split
    · exact .inl rfl
    · split
      · exact .inr (.inr rfl)
      · exact .inr (.inl rfl)
  have hgr : ∀ od, rmUp x y = (decide (y < x % y + x % y) || (decide (x % y + x % y = y) && decide (x / y % 2 = 1))) ∧ grw 1 false od (2 + cmpI (x % y + x % y) y) = (decide (y < x % y + x % y) || (decide (x % y + x % y = y) && od)) := fun od => by
    refine ⟨rfl, ?_⟩
    unfold grw cmpI
    rw [if_pos rfl]
    by_cases c1 : x % y + x % y < y
    · rw [if_pos c1, decide_eq_false (show ¬ y < x % y + x % y by omega), decide_eq_false (show ¬ x % y + x % y = y by omega)]; rfl
    · rw [if_neg c1]
      by_cases c2 : y < x % y + x % y
      · rw [if_pos c2, decide_eq_true c2]; rfl
      · rw [if_neg c2, decide_eq_false c2, decide_eq_true (show x % y + x % y = y by omega)]; rfl
  obtain ⟨od, hod⟩ : ∃ o, decide (x / y % 2 = 1) = o := ⟨_, rfl⟩
  have hup : grw 1 false od (2 + cmpI (x % y + x % y) y) = rmUp x y := by rw [(hgr od).1, (hgr od).2, hod]
  rw [hod] at HOd
  have hp4 : 2 + cmpI (x % y + x % y) y = 0 ∨ 2 + cmpI (x % y + x % y) y = 1 ∨ 2 + cmpI (x % y + x % y) y = 2 ∨ 2 + cmpI (x % y + x % y) y = 3 := by omega
  have hwp : IntKind.i64.wrap (2 + cmpI (x % y + x % y) y) = 2 + cmpI (x % y + x % y) y := by rw [IntKind.wrap_i64]; omega
  have HGr : Hid (∀ X, Calls Try.prog 51 #[cutV false od (2 + cmpI (x % y + x % y) y)] X fun r w' => r = .returned (.bool (rmUp x y)) ∧ Below X.heap.size X w') := fun X => by
    have := grow1 false od (2 + cmpI (x % y + x % y) y) hp4 X
    rwa [hup] at this
  have hbc := build_cut2 od (2 + cmpI (x % y + x % y) y)
  generalize cmpI (x % y + x % y) y = cc at *
  generalize tn (y - x % y) = TS at *
  generalize tn (x % y + x % y) = TD at *
  generalize tn (x / y) = TQ at *
  generalize tn (x % y) = TR at *
  generalize tn x = TX at *
  generalize tn y = TY at *
  generalize rmUp x y = up at *
  clear nx ny hy nq nr n2 hr1 hcm hgr hod hup hp4
  have HN : Hid (N3 w 1 na e TX 1 nb e TY (n3W w 1 na e TX 1 nb e TY)) := n3_new w 1 na e TX 1 nb e TY
  obtain ⟨a0, a1, a2, a3, a4⟩ := HN.out.1.cells
  obtain ⟨c0, c1, c2, c3, c4⟩ := HN.out.2.1.cells
  go_enter Try.func28, Try.ntmps28
  go_wp2_with fail
  refine (HDv.out _).mono ?_
  rintro r w1 ⟨rfl, hb1⟩
  have HN1 : Hid (N3 w 1 na e TX 1 nb e TY w1) := HN.out.next hb1
  clear hb1 HN HDv a0 a1 a2 a3 a4 c0 c1 c2 c3 c4
  go_upto_region 2 with fail
  have HX0 : Hid (Below w1.heap.size w1 w1.drew) := (Below.refl _ _).drew
  refine wp_region_class (C := fun W => Below w1.heap.size w1 W) (by kernel_rfl) (by kernel_rfl) HX0.out ?_
  repeat (refine wpQuiet_step (fun K hK => ?_); go_simp; first | (refine hK _ ?_; clear hK K) | (apply Exists.intro; refine ⟨fun wx hC => ?_, hK _ ?_⟩; (first | exact rfl | ((with_reducible refine Calls.class_of (HAd.out wx) ?_); exact fun w' hb => bel1 hC hb) | ((with_reducible refine Calls.class_of (HCm.out wx) ?_); exact fun w' hb => bel1 hC hb) | (obtain ⟨a0, a1, a2, a3, a4⟩ := (HN1.out.next hC).2.1.cells; go_simp; exact rfl)); clear hK K))
  refine wpQuiet_nil ?_
  intro w2 hb2
  have HN2 : Hid (N3 w 1 na e TX 1 nb e TY w2) := HN1.out.next hb2
  clear hb2 HN1 HX0 HAd HCm hwp
  go_wp2_with fail
  refine (HOd.out _).mono ?_
  rintro r wx ⟨rfl, rfl⟩
  go_wp2_with fail
  refine (HGr.out _).mono ?_
  rintro r w3 ⟨rfl, hb3⟩
  have HN3 : Hid (N3 w 1 na e TX 1 nb e TY w3) := HN2.out.next hb3
  clear hb3 HN2 HGr HOd hbc
  cases up with
  | true =>
    have hbn := build_num 1 (!na) e TS
    go_upto_region 4 with fail
    have HX1 : Hid (Below w3.heap.size w3 w3.drew) := (Below.refl _ _).drew
    refine wp_region_tail (C := fun W => Below w3.heap.size w3 W) 10 (by kernel_rfl) (by kernel_rfl) HX1.out ?_
    simp only [List.take_succ_cons, List.take_zero, List.drop_succ_cons, List.drop_zero]
    repeat (refine wpQuiet_step (fun K hK => ?_); go_simp; first | (refine hK _ ?_; clear hK K) | (apply Exists.intro; refine ⟨fun wx hC => ?_, hK _ ?_⟩; (first | exact rfl | ((with_reducible refine Calls.class_of (HSb.out wx) ?_); exact fun w' hb => bel1 hC hb) | (obtain ⟨a0, a1, a2, a3, a4⟩ := (HN3.out.next hC).1.cells; go_simp; exact rfl) | (obtain ⟨a0, a1, a2, a3, a4⟩ := (HN3.out.next hC).2.1.cells; go_simp; exact rfl)); clear hK K))
    refine wpQuiet_nil ?_
    intro w4 hb4
    have HN4 : Hid (N3 w 1 na e TX 1 nb e TY w4) := HN3.out.next hb4
    clear hb4 HN3 HX1 HSb
    go_wp2_with (refine wpList_store_row rfl 25 (.tmp 4) (.tmp 37) rfl (w.heap.size + 2) #[.int .i64 1, .bool (!na), .int .i64 e, .string TS] rfl rfl _ _ HN4.out.2.2.1 (by kernel_rfl) rfl (one4 _ _ _ _) ?_)
    have hP := (HN4.out.2.2.1.row (.int .i64 1) (.bool (!na)) (.int .i64 e) (.string TS)).cells
    refine bodyPost_ret (results_num rfl _ _ rfl hP.1 hP.2.1 hP.2.2.1 hP.2.2.2.1) rfl ?_
    exact ⟨rfl, bel_row HN4.out.2.2.2 (by omega) _⟩
  | false =>
    have hbn := build_num 1 na e TR
    obtain ⟨a0, a1, a2, a3, a4⟩ := HN3.out.1.cells
    go_wp2_with (refine wpList_store_row rfl 25 (.tmp 4) (.tmp 43) rfl (w.heap.size + 2) #[.int .i64 1, .bool na, .int .i64 e, .string TR] rfl rfl _ _ HN3.out.2.2.1 (by kernel_rfl) rfl (one4 _ _ _ _) ?_)
    have hP := (HN3.out.2.2.1.row (.int .i64 1) (.bool na) (.int .i64 e) (.string TR)).cells
    refine bodyPost_ret (results_num rfl _ _ rfl hP.1 hP.2.1 hP.2.2.1 hP.2.2.2.1) rfl ?_
    exact ⟨rfl, bel_row HN3.out.2.2.2 (by omega) _⟩
/-- Two numbers that a closure sees. -/
def CpR (X : World) (p : Nat) (ka : Int) (na : Bool) (ea : Int) (sa : ByteArray) (kb : Int) (nb : Bool) (eb : Int) (sb : ByteArray) : Prop :=
  At4r X p (.int .i64 ka) (.bool na) (.int .i64 ea) (.string sa) ∧ At4r X (p + 1) (.int .i64 kb) (.bool nb) (.int .i64 eb) (.string sb)
theorem CpR.next {X X' : World} {p : Nat} {ka : Int} {na : Bool} {ea : Int} {sa : ByteArray} {kb : Int} {nb : Bool} {eb : Int} {sb : ByteArray} (h : CpR X p ka na ea sa kb nb eb sb) (hb : Below X.heap.size X X') : CpR X' p ka na ea sa kb nb eb sb := ⟨h.1.next hb, h.2.next hb⟩
set_option maxRecDepth 100000 in
set_option maxHeartbeats 2000000 in
theorem remainder1_any (p : Nat) (f : Int) (ka : Int) (na : Bool) (ea : Int) (sa : ByteArray) (kb : Int) (nb : Bool) (eb : Int) (sb : ByteArray) (X : World) (hr : Rgn f ka ea sa) (hrb : Rgn f kb eb sb) (hC : CpR X p ka na ea sa kb nb eb sb) :
    Calls Try.prog 24 #[.pointer (some ⟨p, 0, none⟩), .pointer (some ⟨p + 1, 0, none⟩)] X fun x w' => (x = .returned (rsD (rmX ka na ea sa kb eb sb).1 (rmX ka na ea sa kb eb sb).2) ∨ x = thrown (rsD (rmX ka na ea sa kb eb sb).1 (rmX ka na ea sa kb eb sb).2)) ∧ Below X.heap.size X w' := by
  have hb0 : Below X.heap.size X (X.alloc (.cells #[.int .i64 0, .bool false, .int .i64 0, .string { data := #[] }, .int .i64 0] 27)) := (Below.refl _ _).alloc (Nat.le_refl _) _
  have HZ : Hid (At5 (X.alloc (.cells #[.int .i64 0, .bool false, .int .i64 0, .string { data := #[] }, .int .i64 0] 27)) X.heap.size (.int .i64 0) (.bool false) (.int .i64 0) (.string { data := #[] }) (.int .i64 0) ∧ Below X.heap.size X (X.alloc (.cells #[.int .i64 0, .bool false, .int .i64 0, .string { data := #[] }, .int .i64 0] 27)) ∧ CpR (X.alloc (.cells #[.int .i64 0, .bool false, .int .i64 0, .string { data := #[] }, .int .i64 0] 27)) p ka na ea sa kb nb eb sb) := ⟨at5_new X _ _ _ _ _, hb0, hC.next hb0⟩
  have HNb : Hid (∀ Y, Calls Try.prog 25 #[numV kb nb eb sb] Y fun x w' => x = .returned (.bool (zB kb sb)) ∧ Below Y.heap.size Y w') := fun Y => isNought_rgn hrb nb Y
  have HCp : Hid (∀ Y, Calls Try.prog 27 #[numV ka na ea sa] Y fun x w' => x = .returned (numV ka na ea sa) ∧ Below Y.heap.size Y w') := fun Y => copied_any ka na ea sa Y hr.small
  obtain ⟨R, hR⟩ : ∃ R, rmX ka na ea sa kb eb sb = R := ⟨_, rfl⟩
  rw [hR]
  unfold rmX at hR
  obtain ⟨qa, qb⟩ := HZ.out.2.2
  obtain ⟨a0, a1, a2, a3, a4⟩ := qa.cells
  obtain ⟨c0, c1, c2, c3, c4⟩ := qb.cells
  clear qa qb hb0 hC
  by_cases hA : ka = 2
  · subst hA
    rw [if_pos (.inl rfl)] at hR
    subst hR
    clear hr hrb HCp HNb
    go_enter Try.func24, Try.ntmps24
    go_wp2_with fail
    refine (iInvalid_any _).mono ?_
    rintro x w4 ⟨rfl, hb4⟩
    go_wp2
    exact ⟨rfl, .inr rfl, HZ.out.2.1.trans (hb4.mono HZ.out.2.1.size)⟩
  have hk1 : ka = 1 := hr.2.2.1.resolve_right hA
  subst hk1
  by_cases hzb : zB kb sb = true
  · rw [if_pos (.inr hzb)] at hR
    subst hR
    rw [hzb] at HNb
    clear hr hrb HCp hzb hA
    go_enter Try.func24, Try.ntmps24
    go_wp2_with fail
    refine (HNb.out _).mono ?_
    rintro x w1 ⟨rfl, hb1⟩
    have HB1 : Hid (Below X.heap.size X w1) := HZ.out.2.1.trans (hb1.mono HZ.out.2.1.size)
    clear hb1 HZ HNb a0 a1 a2 a3 a4 c0 c1 c2 c3 c4
    go_wp2_with fail
    refine (iInvalid_any _).mono ?_
    rintro x w4 ⟨rfl, hb4⟩
    go_wp2
    exact ⟨rfl, .inr rfl, HB1.out.trans (hb4.mono HB1.out.size)⟩
  have hzf : zB kb sb = false := by simpa using hzb
  rw [if_neg (fun c => c.elim hA hzb)] at hR
  rw [hzf] at HNb
  by_cases hB : kb = 2
  · rw [if_pos hB] at hR
    subst hR hB
    have hbr := build_res0 1 na ea sa
    clear hr hrb hzb hzf hA
    go_enter Try.func24, Try.ntmps24
    go_wp2_with fail
    refine (HNb.out _).mono ?_
    rintro x w1 ⟨rfl, hb1⟩
    have HZ1 : Hid (At5 w1 X.heap.size (.int .i64 0) (.bool false) (.int .i64 0) (.string { data := #[] }) (.int .i64 0) ∧ Below X.heap.size X w1 ∧ CpR w1 p 1 na ea sa 2 nb eb sb) := ⟨HZ.out.1.below hb1 HZ.out.1.lt, HZ.out.2.1.trans (hb1.mono HZ.out.2.1.size), HZ.out.2.2.next hb1⟩
    clear hb1 HZ HNb a0 a1 a2 a3 a4 c0 c1 c2 c3 c4
    obtain ⟨a0, a1, a2, a3, a4⟩ := HZ1.out.2.2.1.cells
    obtain ⟨c0, c1, c2, c3, c4⟩ := HZ1.out.2.2.2.cells
    go_wp2_with fail
    refine (HCp.out _).mono ?_
    rintro x w2 ⟨rfl, hb2⟩
    have HZ2 : Hid (At5 w2 X.heap.size (.int .i64 0) (.bool false) (.int .i64 0) (.string { data := #[] }) (.int .i64 0) ∧ Below X.heap.size X w2) := ⟨HZ1.out.1.below hb2 HZ1.out.1.lt, HZ1.out.2.1.trans (hb2.mono HZ1.out.2.1.size)⟩
    clear hb2 HZ1 HCp a0 a1 a2 a3 a4 c0 c1 c2 c3 c4
    go_wp2_with (refine wpList_store_row rfl 27 (.tmp 2) (.tmp 18) rfl X.heap.size #[.int .i64 1, .bool na, .int .i64 ea, .string sa, .int .i64 0] rfl rfl _ _ HZ2.out.1 (by kernel_rfl) rfl (one5 _ _ _ _ _) ?_)
    have hP := (HZ2.out.1.row (.int .i64 1) (.bool na) (.int .i64 ea) (.string sa) (.int .i64 0)).cells
    refine bodyPost_ret (results_res rfl _ _ rfl hP.1 hP.2.1 hP.2.2.1 hP.2.2.2.1 hP.2.2.2.2.1) rfl ?_
    exact ⟨.inl rfl, bel_row HZ2.out.2 (Nat.le_refl _) _⟩
  have hkb1 : kb = 1 := hrb.2.2.1.resolve_right hB
  subst hkb1
  rw [if_neg hB] at hR
  obtain ⟨hsa, nka, v0a, -, l34a, l1a, hszA, hea⟩ := hr.tn rfl
  obtain ⟨hsb, nkb, v0b, -, l34b, l1b, hszB, heb⟩ := hrb.tn rfl
  obtain ⟨ca, lpa, -, -⟩ := hr.2.2.2.1 rfl
  obtain ⟨cb, lpb, -, -⟩ := hrb.2.2.2.1 rfl
  have hvb : vl (dl sb) ≠ 0 := by
    unfold zB at hzf
    simpa using hzf
  obtain ⟨mn, hmn⟩ : ∃ m, min ea eb = m := ⟨_, rfl⟩
  obtain ⟨mx, hmx⟩ : ∃ m, max ea eb = m := ⟨_, rfl⟩
  have hwd : IntKind.i64.wrap (mx - mn) = mx - mn := by rw [IntKind.wrap_i64]; omega
  by_cases hd : 160 < max ea eb - min ea eb
  · rw [if_pos hd] at hR
    subst hR
    rw [hmx, hmn] at hd
    clear hr hrb hzb hzf hA hB hsa nka v0a l34a l1a hszA hea hsb nkb v0b l34b l1b hszB heb ca lpa cb lpb hvb HCp
    go_enter Try.func24, Try.ntmps24
    go_wp2_with fail
    refine (HNb.out _).mono ?_
    rintro x w1 ⟨rfl, hb1⟩
    have HZ1 : Hid (At5 w1 X.heap.size (.int .i64 0) (.bool false) (.int .i64 0) (.string { data := #[] }) (.int .i64 0) ∧ Below X.heap.size X w1 ∧ CpR w1 p 1 na ea sa 1 nb eb sb) := ⟨HZ.out.1.below hb1 HZ.out.1.lt, HZ.out.2.1.trans (hb1.mono HZ.out.2.1.size), HZ.out.2.2.next hb1⟩
    clear hb1 HZ HNb a0 a1 a2 a3 a4 c0 c1 c2 c3 c4
    obtain ⟨a0, a1, a2, a3, a4⟩ := HZ1.out.2.2.1.cells
    obtain ⟨c0, c1, c2, c3, c4⟩ := HZ1.out.2.2.2.cells
    go_wp2_with fail
    refine (iInvalid_any _).mono ?_
    rintro x w4 ⟨rfl, hb4⟩
    go_wp2
    exact ⟨rfl, .inr rfl, HZ1.out.2.1.trans (hb4.mono HZ1.out.2.1.size)⟩
  · rw [if_neg hd] at hR
    obtain ⟨nX, nY, yp, nq, nr, n2, -, hr0, hr1, -⟩ := rm_size f hr.1 (dl sa) (dl sb) ca cb lpa lpb hvb ea eb hd
    have HLa : Hid (∀ Y, Calls Try.prog 29 #[numV 1 na ea sa, .int .i64 mn] Y fun x w' => x = .returned (numV 1 na mn (tn (rmV (vl (dl sa)) ea eb))) ∧ Below Y.heap.size Y w') := fun Y => by
      have := lowered_any na ea (vl (dl sa)) mn Y hea (by omega) (by omega) (by omega) nka (by rw [← hmn]; exact nX)
      rw [← hsa, ← hmn] at this
      rw [← hmn]
      exact this
    have HLb : Hid (∀ Y, Calls Try.prog 29 #[numV 1 nb eb sb, .int .i64 mn] Y fun x w' => x = .returned (numV 1 nb mn (tn (rmV (vl (dl sb)) eb ea))) ∧ Below Y.heap.size Y w') := fun Y => by
      have := lowered_any nb eb (vl (dl sb)) mn Y heb (by omega) (by omega) (by omega) nkb (by rw [← hmn, ← min_turn]; exact nY)
      rw [← hsb, ← hmn, ← min_turn] at this
      rw [← hmn, ← min_turn]
      exact this
    have HRo : Hid (∀ Y, Calls Try.prog 28 #[numV 1 na mn (tn (rmV (vl (dl sa)) ea eb)), numV 1 nb mn (tn (rmV (vl (dl sb)) eb ea))] Y fun r w' => r = .returned (numV R.2.1 R.1 R.2.2.1 R.2.2.2.1) ∧ Below Y.heap.size Y w') := fun Y => by
      have := remainderOf_any na nb mn (rmV (vl (dl sa)) ea eb) (rmV (vl (dl sb)) eb ea) Y nX nY yp nq nr n2 hr1
      rw [← hR, hmn]
      by_cases c : rmUp (rmV (vl (dl sa)) ea eb) (rmV (vl (dl sb)) eb ea) = true
      · rw [if_pos c] at this ⊢
        exact this
      · rw [if_neg c] at this ⊢
        exact this
    have hR4 : R.2.2.2.2 = 0 := by
      rw [← hR]
      split <;> rfl
    rw [hmx, hmn] at hd
    clear hr hrb hzb hzf hA hB hsa nka v0a l34a l1a hszA hea hsb nkb v0b l34b l1b hszB heb ca lpa cb lpb hvb nX nY yp nq nr n2 hr0 hr1 hR HCp
    generalize tn (rmV (vl (dl sa)) ea eb) = TX at *
    generalize tn (rmV (vl (dl sb)) eb ea) = TY at *
    obtain ⟨R0, F1, F2, F3, F4⟩ := R
    dsimp only at hR4
    subst hR4
    have hbr := build_res0 F1 R0 F2 F3
    go_enter Try.func24, Try.ntmps24
    go_wp2_with fail
    refine (HNb.out _).mono ?_
    rintro x w1 ⟨rfl, hb1⟩
    have HZ1 : Hid (At5 w1 X.heap.size (.int .i64 0) (.bool false) (.int .i64 0) (.string { data := #[] }) (.int .i64 0) ∧ Below X.heap.size X w1 ∧ CpR w1 p 1 na ea sa 1 nb eb sb) := ⟨HZ.out.1.below hb1 HZ.out.1.lt, HZ.out.2.1.trans (hb1.mono HZ.out.2.1.size), HZ.out.2.2.next hb1⟩
    clear hb1 HZ HNb a0 a1 a2 a3 a4 c0 c1 c2 c3 c4
    obtain ⟨a0, a1, a2, a3, a4⟩ := HZ1.out.2.2.1.cells
    obtain ⟨c0, c1, c2, c3, c4⟩ := HZ1.out.2.2.2.cells
    go_upto_region 8 with fail
    clear a0 a1 a2 a3 a4 c0 c1 c2 c3 c4
    have HX1 : Hid (Below w1.heap.size w1 w1.drew) := (Below.refl _ _).drew
    refine wp_region_tail (C := fun W => Below w1.heap.size w1 W) 8 (by kernel_rfl) (by kernel_rfl) HX1.out ?_
    simp only [List.take_succ_cons, List.take_zero, List.drop_succ_cons, List.drop_zero]
    repeat (refine wpQuiet_step (fun K hK => ?_); go_simp; first | (refine hK _ ?_; clear hK K) | (apply Exists.intro; refine ⟨fun wx hC => ?_, hK _ ?_⟩; (first | exact rfl | ((with_reducible refine Calls.class_of (HLa.out wx) ?_); exact fun w' hb => bel1 hC hb) | ((with_reducible refine Calls.class_of (HLb.out wx) ?_); exact fun w' hb => bel1 hC hb) | ((with_reducible refine Calls.class_of (HRo.out wx) ?_); exact fun w' hb => bel1 hC hb) | (obtain ⟨a0, a1, a2, a3, a4⟩ := (HZ1.out.2.2.next hC).1.cells; go_simp; exact rfl) | (obtain ⟨a0, a1, a2, a3, a4⟩ := (HZ1.out.2.2.next hC).2.cells; go_simp; exact rfl)); clear hK K))
    refine wpQuiet_nil ?_
    intro w2 hb2
    have HZ2 : Hid (At5 w2 X.heap.size (.int .i64 0) (.bool false) (.int .i64 0) (.string { data := #[] }) (.int .i64 0) ∧ Below X.heap.size X w2) := ⟨HZ1.out.1.below hb2 HZ1.out.1.lt, HZ1.out.2.1.trans (hb2.mono HZ1.out.2.1.size)⟩
    clear hb2 HZ1 HX1 HLa HLb HRo
    go_wp2_with (refine wpList_store_row rfl 27 (.tmp 2) (.tmp 41) rfl X.heap.size #[.int .i64 F1, .bool R0, .int .i64 F2, .string F3, .int .i64 0] rfl rfl _ _ HZ2.out.1 (by kernel_rfl) rfl (one5 _ _ _ _ _) ?_)
    have hP := (HZ2.out.1.row (.int .i64 F1) (.bool R0) (.int .i64 F2) (.string F3) (.int .i64 0)).cells
    refine bodyPost_ret (results_res rfl _ _ rfl hP.1 hP.2.1 hP.2.2.1 hP.2.2.2.1 hP.2.2.2.2.1) rfl ?_
    exact ⟨.inl rfl, bel_row HZ2.out.2 (Nat.le_refl _) _⟩
set_option maxRecDepth 100000 in
set_option maxHeartbeats 1000000 in
theorem iRemainder_any (f : Int) (ka : Int) (na : Bool) (ea : Int) (sa : ByteArray) (kb : Int) (nb : Bool) (eb : Int) (sb : ByteArray) (w : World) (hsa : sa.size ≤ 4611686018427387904) (hsb : sb.size ≤ 4611686018427387904) :
    Calls Try.prog 8 #[.int .i64 f, numV ka na ea sa, numV kb nb eb sb] w fun x w' => x = .returned (rsD (rmR f ka na ea sa kb nb eb sb).1 (rmR f ka na ea sa kb nb eb sb).2) ∧ Below w.heap.size w w' := by
  have hmf : ∀ (fn : Fn) (first cap : Array Value) (w : World), (Instr.makeFunc fn first cap).run Try.prog w = .ok (.func fn first cap) w := fun _ _ _ _ => rfl
  have HE : Hid (∀ args w, (callFunc 24 args).run Try.prog w = .ok (.enter 24 args) w) := enters_of Try.func24 (by kernel_rfl) rfl
  obtain ⟨W, hW⟩ : ∃ W, suW w ka na ea sa kb nb eb sb = W := ⟨_, rfl⟩
  have hN := su_new w ka na ea sa kb nb eb sb
  have hsz : (suW w ka na ea sa kb nb eb sb).heap.size = w.heap.size + 3 := by
    unfold suW
    rw [new_size, new_size, new_size]
  rw [hW] at hN hsz
  have hb5 : Below W.heap.size W (W.alloc (.cells #[.int .i64 ka, .bool na, .int .i64 ea, .string sa, .int .i64 kb, .bool nb, .int .i64 eb, .string sb] 25)) := (Below.refl _ _).alloc (Nat.le_refl _) _
  obtain ⟨hrw, hlt⟩ := row2_new W ka na ea sa kb nb eb sb
  have hCp : CpR W w.heap.size ka na ea sa kb nb eb sb := ⟨hN.1, hN.2.1⟩
  have HO : Hid (Calls Try.prog 23 #[.int .i64 f, .int .i64 1, .func (.func 24) #[] #[.pointer (some ⟨w.heap.size, 0, none⟩), .pointer (some ⟨w.heap.size + 1, 0, none⟩)], .slice (some ⟨W.heap.size, 0, none⟩) 2 2] (W.alloc (.cells #[.int .i64 ka, .bool na, .int .i64 ea, .string sa, .int .i64 kb, .bool nb, .int .i64 eb, .string sb] 25)) fun x w' => x = .returned (rsD (rmR f ka na ea sa kb nb eb sb).1 (rmR f ka na ea sa kb nb eb sb).2) ∧ Below (W.alloc (.cells #[.int .i64 ka, .bool na, .int .i64 ea, .string sa, .int .i64 kb, .bool nb, .int .i64 eb, .string sb] 25)).heap.size (W.alloc (.cells #[.int .i64 ka, .bool na, .int .i64 ea, .string sa, .int .i64 kb, .bool nb, .int .i64 eb, .string sb] 25)) w') :=
    ofNumbers_any f 1 24 _ HE.out 2 W.heap.size (tw2 ka kb) (tw2 na nb) (tw2 ea eb) (tw2 sa sb) (rmX ka na ea sa kb eb sb) _ (by decide) (by decide) hlt hrw (fun i hi => by match i, hi with
      | 0, _ => exact hsa
      | 1, _ => exact hsb) (fun h1 h2 Y hY => by
      obtain ⟨-, hr, hrb⟩ := rgn_two h1 h2
      exact remainder1_any w.heap.size f ka na ea sa kb nb eb sb Y hr hrb ((hCp.next hb5).next hY))
  have HZ : Hid (At5 (W.alloc (.cells #[.int .i64 ka, .bool na, .int .i64 ea, .string sa, .int .i64 kb, .bool nb, .int .i64 eb, .string sb] 25)) (w.heap.size + 2) (.int .i64 0) (.bool false) (.int .i64 0) (.string { data := #[] }) (.int .i64 0) ∧ Below w.heap.size w (W.alloc (.cells #[.int .i64 ka, .bool na, .int .i64 ea, .string sa, .int .i64 kb, .bool nb, .int .i64 eb, .string sb] 25))) := ⟨hN.2.2.1.below hb5 hN.2.2.1.lt, hN.2.2.2.1.trans (hb5.mono hN.2.2.2.1.size)⟩
  rw [hsz] at HO
  obtain ⟨qa, qb⟩ := hCp
  obtain ⟨a0, a1, a2, a3, -⟩ := qa.cells
  obtain ⟨c0, c1, c2, c3, -⟩ := qb.cells
  rw [← hW] at HO HZ a0 a1 a2 a3 c0 c1 c2 c3
  clear hW hN hb5 hrw hlt hsa hsb HE qa qb hsz
  generalize rmR f ka na ea sa kb nb eb sb = R at *
  obtain ⟨R0, F1, F2, F3, F4⟩ := R
  go_enter Try.func8, Try.ntmps8
  go_wp2_with fail
  refine HO.out.mono ?_
  rintro x w1 ⟨rfl, hb1⟩
  have HZ1 : Hid (At5 w1 (w.heap.size + 2) (.int .i64 0) (.bool false) (.int .i64 0) (.string { data := #[] }) (.int .i64 0) ∧ Below w.heap.size w w1) := ⟨HZ.out.1.below hb1 HZ.out.1.lt, HZ.out.2.trans (hb1.mono HZ.out.2.size)⟩
  clear hb1 HZ HO a0 a1 a2 a3 c0 c1 c2 c3
  go_wp2_with (refine wpList_store_row rfl 27 (.tmp 6) (.tmp 12) rfl (w.heap.size + 2) #[.int .i64 F1, .bool R0, .int .i64 F2, .string F3, .int .i64 F4] rfl rfl _ _ HZ1.out.1 (by kernel_rfl) rfl (one5 _ _ _ _ _) ?_)
  have hP := (HZ1.out.1.row (.int .i64 F1) (.bool R0) (.int .i64 F2) (.string F3) (.int .i64 F4)).cells
  refine bodyPost_ret (results_res rfl _ _ rfl hP.1 hP.2.1 hP.2.2.1 hP.2.2.2.1 hP.2.2.2.2.1) rfl ?_
  exact ⟨rfl, bel_row HZ1.out.2 (by omega) _⟩
end Go.Proofs.Ythhmgghipgcinas
