/-
  What is right in a format, by the program's isRight and NumOk, walked.
-/
import Derived.Test.YtcflomcankcggatDoorIsR
namespace Go.Proofs.YtcflomcankcggatDoor
open Go.RowKit
set_option linter.unusedVariables false
set_option maxRecDepth 100000
set_option linter.unusedSimpArgs false
set_option maxRecDepth 100000 in
set_option maxHeartbeats 4000000 in
theorem isRight_fin64 (b : Bool) (e : Int) (s : ByteArray) (w : World) (hs : s.size ≤ 4611686018427387904) :
    Calls Tryd.prog 32 #[.iface 61 (.agg #[]), numV 1 b e s] w fun r w' => r = .returned (.bool (natB 16 s && (decide (-398 ≤ e) && decide (e ≤ 369)))) ∧ Below w.heap.size w w' := by
  have HX0 : Hid (Below (w.heap.size + 1) (nbq w 1 b e s) (nbq w 1 b e s).drew) := (Below.refl _ _).drew
  have HNt : Hid (∀ X, Calls Tryd.prog 40 #[.string s, .int .i64 16] X fun e w' => e = .returned (.bool (natB 16 s)) ∧ w' = X) := fun X => isNatural_any s 16 X hs
  generalize natB 16 s = nb at *
  cases nb with
  | false =>
    go_enter Tryd.func32, Tryd.ntmps32
    go_upto_region 3 with fail
    refine wp_region_class (C := fun W => Below (w.heap.size + 1) (nbq w 1 b e s) W) (by kernel_rfl) (by kernel_rfl) HX0.out ?_
    repeat (refine wpQuiet_step (fun K hK => ?_); go_simp; first | (refine hK _ ?_; clear hK K) | (apply Exists.intro; refine ⟨fun wx hC => ?_, hK _ ?_⟩; (first | exact rfl | exact (HNt.out wx).mono (fun _ _ h => ⟨h.1, by rw [h.2]; exact hC⟩) | (simp only [md_digitCount_64, md_leastExp_64, md_greatestExp_64]; go_simp; first | exact Calls.class_of (digitCount_64 wx) (fun w' hb => nbq_next hC hb) | exact Calls.class_of (leastExp_64 wx) (fun w' hb => nbq_next hC hb) | exact Calls.class_of (greatestExp_64 wx) (fun w' hb => nbq_next hC hb)) | (obtain ⟨q0, q1, q2, q3⟩ := nbq_cells hC; go_simp; exact rfl)); clear hK K))
    refine wpQuiet_nil ?_
    intro w1 hb1
    go_wp2
    go_ret
    exact ⟨rfl, nbq_out hb1⟩
  | true =>
    by_cases h1 : -398 ≤ e
    · have E : Hid ((true && (decide ((-398 : Int) ≤ e) && decide (e ≤ 369))) = decide (e ≤ 369)) := by show _ = _; rw [decide_eq_true h1]; rfl
      rw [E.out]
      go_enter Tryd.func32, Tryd.ntmps32
      go_upto_region 3 with fail
      refine wp_region_class (C := fun W => Below (w.heap.size + 1) (nbq w 1 b e s) W) (by kernel_rfl) (by kernel_rfl) HX0.out ?_
      repeat (refine wpQuiet_step (fun K hK => ?_); go_simp; first | (refine hK _ ?_; clear hK K) | (apply Exists.intro; refine ⟨fun wx hC => ?_, hK _ ?_⟩; (first | exact rfl | exact (HNt.out wx).mono (fun _ _ h => ⟨h.1, by rw [h.2]; exact hC⟩) | (simp only [md_digitCount_64, md_leastExp_64, md_greatestExp_64]; go_simp; first | exact Calls.class_of (digitCount_64 wx) (fun w' hb => nbq_next hC hb) | exact Calls.class_of (leastExp_64 wx) (fun w' hb => nbq_next hC hb) | exact Calls.class_of (greatestExp_64 wx) (fun w' hb => nbq_next hC hb)) | (obtain ⟨q0, q1, q2, q3⟩ := nbq_cells hC; go_simp; exact rfl)); clear hK K))
      refine wpQuiet_nil ?_
      intro w1 hb1
      go_wp2
      go_ret
      exact ⟨rfl, nbq_out hb1⟩
    · have E : Hid ((true && (decide ((-398 : Int) ≤ e) && decide (e ≤ 369))) = false) := by show _ = _; rw [decide_eq_false h1]; rfl
      rw [E.out]
      go_enter Tryd.func32, Tryd.ntmps32
      go_upto_region 3 with fail
      refine wp_region_class (C := fun W => Below (w.heap.size + 1) (nbq w 1 b e s) W) (by kernel_rfl) (by kernel_rfl) HX0.out ?_
      repeat (refine wpQuiet_step (fun K hK => ?_); go_simp; first | (refine hK _ ?_; clear hK K) | (apply Exists.intro; refine ⟨fun wx hC => ?_, hK _ ?_⟩; (first | exact rfl | exact (HNt.out wx).mono (fun _ _ h => ⟨h.1, by rw [h.2]; exact hC⟩) | (simp only [md_digitCount_64, md_leastExp_64, md_greatestExp_64]; go_simp; first | exact Calls.class_of (digitCount_64 wx) (fun w' hb => nbq_next hC hb) | exact Calls.class_of (leastExp_64 wx) (fun w' hb => nbq_next hC hb) | exact Calls.class_of (greatestExp_64 wx) (fun w' hb => nbq_next hC hb)) | (obtain ⟨q0, q1, q2, q3⟩ := nbq_cells hC; go_simp; exact rfl)); clear hK K))
      refine wpQuiet_nil ?_
      intro w1 hb1
      go_wp2
      go_ret
      exact ⟨rfl, nbq_out hb1⟩
set_option maxRecDepth 100000 in
set_option maxHeartbeats 4000000 in
theorem isRight_fin128 (b : Bool) (e : Int) (s : ByteArray) (w : World) (hs : s.size ≤ 4611686018427387904) :
    Calls Tryd.prog 32 #[.iface 62 (.agg #[]), numV 1 b e s] w fun r w' => r = .returned (.bool (natB 34 s && (decide (-6176 ≤ e) && decide (e ≤ 6111)))) ∧ Below w.heap.size w w' := by
  have HX0 : Hid (Below (w.heap.size + 1) (nbq w 1 b e s) (nbq w 1 b e s).drew) := (Below.refl _ _).drew
  have HNt : Hid (∀ X, Calls Tryd.prog 40 #[.string s, .int .i64 34] X fun e w' => e = .returned (.bool (natB 34 s)) ∧ w' = X) := fun X => isNatural_any s 34 X hs
  generalize natB 34 s = nb at *
  cases nb with
  | false =>
    go_enter Tryd.func32, Tryd.ntmps32
    go_upto_region 3 with fail
    refine wp_region_class (C := fun W => Below (w.heap.size + 1) (nbq w 1 b e s) W) (by kernel_rfl) (by kernel_rfl) HX0.out ?_
    repeat (refine wpQuiet_step (fun K hK => ?_); go_simp; first | (refine hK _ ?_; clear hK K) | (apply Exists.intro; refine ⟨fun wx hC => ?_, hK _ ?_⟩; (first | exact rfl | exact (HNt.out wx).mono (fun _ _ h => ⟨h.1, by rw [h.2]; exact hC⟩) | (simp only [md_digitCount_128, md_leastExp_128, md_greatestExp_128]; go_simp; first | exact Calls.class_of (digitCount_128 wx) (fun w' hb => nbq_next hC hb) | exact Calls.class_of (leastExp_128 wx) (fun w' hb => nbq_next hC hb) | exact Calls.class_of (greatestExp_128 wx) (fun w' hb => nbq_next hC hb)) | (obtain ⟨q0, q1, q2, q3⟩ := nbq_cells hC; go_simp; exact rfl)); clear hK K))
    refine wpQuiet_nil ?_
    intro w1 hb1
    go_wp2
    go_ret
    exact ⟨rfl, nbq_out hb1⟩
  | true =>
    by_cases h1 : -6176 ≤ e
    · have E : Hid ((true && (decide ((-6176 : Int) ≤ e) && decide (e ≤ 6111))) = decide (e ≤ 6111)) := by show _ = _; rw [decide_eq_true h1]; rfl
      rw [E.out]
      go_enter Tryd.func32, Tryd.ntmps32
      go_upto_region 3 with fail
      refine wp_region_class (C := fun W => Below (w.heap.size + 1) (nbq w 1 b e s) W) (by kernel_rfl) (by kernel_rfl) HX0.out ?_
      repeat (refine wpQuiet_step (fun K hK => ?_); go_simp; first | (refine hK _ ?_; clear hK K) | (apply Exists.intro; refine ⟨fun wx hC => ?_, hK _ ?_⟩; (first | exact rfl | exact (HNt.out wx).mono (fun _ _ h => ⟨h.1, by rw [h.2]; exact hC⟩) | (simp only [md_digitCount_128, md_leastExp_128, md_greatestExp_128]; go_simp; first | exact Calls.class_of (digitCount_128 wx) (fun w' hb => nbq_next hC hb) | exact Calls.class_of (leastExp_128 wx) (fun w' hb => nbq_next hC hb) | exact Calls.class_of (greatestExp_128 wx) (fun w' hb => nbq_next hC hb)) | (obtain ⟨q0, q1, q2, q3⟩ := nbq_cells hC; go_simp; exact rfl)); clear hK K))
      refine wpQuiet_nil ?_
      intro w1 hb1
      go_wp2
      go_ret
      exact ⟨rfl, nbq_out hb1⟩
    · have E : Hid ((true && (decide ((-6176 : Int) ≤ e) && decide (e ≤ 6111))) = false) := by show _ = _; rw [decide_eq_false h1]; rfl
      rw [E.out]
      go_enter Tryd.func32, Tryd.ntmps32
      go_upto_region 3 with fail
      refine wp_region_class (C := fun W => Below (w.heap.size + 1) (nbq w 1 b e s) W) (by kernel_rfl) (by kernel_rfl) HX0.out ?_
      repeat (refine wpQuiet_step (fun K hK => ?_); go_simp; first | (refine hK _ ?_; clear hK K) | (apply Exists.intro; refine ⟨fun wx hC => ?_, hK _ ?_⟩; (first | exact rfl | exact (HNt.out wx).mono (fun _ _ h => ⟨h.1, by rw [h.2]; exact hC⟩) | (simp only [md_digitCount_128, md_leastExp_128, md_greatestExp_128]; go_simp; first | exact Calls.class_of (digitCount_128 wx) (fun w' hb => nbq_next hC hb) | exact Calls.class_of (leastExp_128 wx) (fun w' hb => nbq_next hC hb) | exact Calls.class_of (greatestExp_128 wx) (fun w' hb => nbq_next hC hb)) | (obtain ⟨q0, q1, q2, q3⟩ := nbq_cells hC; go_simp; exact rfl)); clear hK K))
      refine wpQuiet_nil ?_
      intro w1 hb1
      go_wp2
      go_ret
      exact ⟨rfl, nbq_out hb1⟩
theorem isRight_oth64 (k : Int) (b : Bool) (e : Int) (s : ByteArray) (w : World) (hs : s.size ≤ 4611686018427387904) (hk : k ≠ 1) :
    Calls Tryd.prog 32 #[.iface 61 (.agg #[]), numV k b e s] w fun r w' => r = .returned (.bool (numB 64 k b e s)) ∧ Below w.heap.size w w' := by
  have HB : Hid (Below w.heap.size w (nbq w k b e s)) := (Below.refl _ _).alloc (Nat.le_refl _) _
  have k1 : (k == 1) = false := beq_eq_false_iff_ne.2 hk
  have h0 : limP 64 ≠ 0 := by decide
  by_cases k2 : k = 2
  · subst k2
    clear hk
    by_cases he : e = 0
    · subst he
      have E : Hid (numB 64 2 b 0 s = s.toList.isEmpty) := by show _ = _; unfold numB; rw [if_neg h0, if_neg (by decide), if_pos rfl]; rfl
      clear h0
      go_enter Tryd.func32, Tryd.ntmps32
      go_wp2
      go_ret
      exact ⟨Ln.ret_bool E.out.symm, HB.out⟩
    · have he' : (e == 0) = false := by simpa using he
      have E : Hid (numB 64 2 b e s = false) := by show _ = _; unfold numB; rw [if_neg h0, if_neg (by decide), if_pos rfl, decide_eq_false he]; rfl
      clear h0
      go_enter Tryd.func32, Tryd.ntmps32
      go_wp2
      go_ret
      exact ⟨Ln.ret_bool E.out.symm, HB.out⟩
  have k2b : (k == 2) = false := beq_eq_false_iff_ne.2 k2
  by_cases k34 : k = 3 ∨ k = 4
  · have E0 : Hid (numB 64 k b e s = (decide (e = 0) && (s.toList.isEmpty && !b))) := by show _ = _; unfold numB; rw [if_neg h0, if_neg hk, if_neg k2, if_pos k34]
    generalize numB 64 k b e s = R at *
    clear h0 hk k2
    by_cases he : e = 0
    · subst he
      cases hb : s.toList.isEmpty with
      | false =>
        have E : Hid (R = false) := by show _ = _; rw [E0.out, hb]; rfl
        rcases k34 with rfl | rfl
        all_goals
          go_enter Tryd.func32, Tryd.ntmps32
          go_wp2
          go_ret
          exact ⟨Ln.ret_bool E.out.symm, HB.out⟩
      | true =>
        have E : Hid (R = !b) := by show _ = _; rw [E0.out, hb]; rfl
        rcases k34 with rfl | rfl
        all_goals
          go_enter Tryd.func32, Tryd.ntmps32
          go_wp2
          go_ret
          exact ⟨Ln.ret_bool E.out.symm, HB.out⟩
    · have he' : (e == 0) = false := by simpa using he
      have E : Hid (R = false) := by show _ = _; rw [E0.out, decide_eq_false he]; rfl
      clear he
      rcases k34 with rfl | rfl
      all_goals
        go_enter Tryd.func32, Tryd.ntmps32
        go_wp2
        go_ret
        exact ⟨Ln.ret_bool E.out.symm, HB.out⟩
  · have k3b : (k == 3) = false := beq_eq_false_iff_ne.2 (fun h => k34 (.inl h))
    have k4b : (k == 4) = false := beq_eq_false_iff_ne.2 (fun h => k34 (.inr h))
    have E : Hid (numB 64 k b e s = false) := by show _ = _; unfold numB; rw [if_neg h0, if_neg hk, if_neg k2, if_neg k34]
    clear h0 hk k2 k34
    go_enter Tryd.func32, Tryd.ntmps32
    go_wp2
    go_ret
    exact ⟨Ln.ret_bool E.out.symm, HB.out⟩
theorem isRight_64 (k : Int) (b : Bool) (e : Int) (s : ByteArray) (w : World) (hs : s.size ≤ 4611686018427387904) :
    Calls Tryd.prog 32 #[.iface 61 (.agg #[]), numV k b e s] w fun r w' => r = .returned (.bool (numB 64 k b e s)) ∧ Below w.heap.size w w' := by
  by_cases hk : k = 1
  · subst hk
    have E : numB 64 1 b e s = (natB 16 s && (decide (-398 ≤ e) && decide (e ≤ 369))) := by unfold numB; rw [if_neg (by decide), if_pos rfl]; rfl
    rw [E]
    exact isRight_fin64 b e s w hs
  · exact isRight_oth64 k b e s w hs hk
theorem iNumOk_64 (k : Int) (b : Bool) (e : Int) (s : ByteArray) (w : World) (hs : s.size ≤ 4611686018427387904) :
    Calls Tryd.prog 16 #[.int .i64 64, numV k b e s] w fun r w' => r = .returned (.bool (numB 64 k b e s)) ∧ Below w.heap.size w w' := by
  have HI : Hid (∀ X, Calls Tryd.prog 32 #[.iface 61 (.agg #[]), numV k b e s] X fun r w' => r = .returned (.bool (numB 64 k b e s)) ∧ Below X.heap.size X w') := fun X => isRight_64 k b e s X hs
  have HB : Hid (Below (w.heap.size + 1) (nbq w k b e s) (nbq w k b e s)) := Below.refl _ _
  generalize numB 64 k b e s = R at *
  go_enter Tryd.func16, Tryd.ntmps16
  go_wp2_with fail
  refine (fmtOf_64 _).mono ?_
  rintro r w1 ⟨rfl, hw⟩
  subst hw
  go_wp2_with fail
  refine (HI.out _).mono ?_
  rintro r w2 ⟨rfl, hb⟩
  have hB2 := nbq_next HB.out hb
  go_wp2
  go_ret
  exact ⟨rfl, nbq_out hB2⟩
theorem isRight_oth128 (k : Int) (b : Bool) (e : Int) (s : ByteArray) (w : World) (hs : s.size ≤ 4611686018427387904) (hk : k ≠ 1) :
    Calls Tryd.prog 32 #[.iface 62 (.agg #[]), numV k b e s] w fun r w' => r = .returned (.bool (numB 128 k b e s)) ∧ Below w.heap.size w w' := by
  have HB : Hid (Below w.heap.size w (nbq w k b e s)) := (Below.refl _ _).alloc (Nat.le_refl _) _
  have k1 : (k == 1) = false := beq_eq_false_iff_ne.2 hk
  have h0 : limP 128 ≠ 0 := by decide
  by_cases k2 : k = 2
  · subst k2
    clear hk
    by_cases he : e = 0
    · subst he
      have E : Hid (numB 128 2 b 0 s = s.toList.isEmpty) := by show _ = _; unfold numB; rw [if_neg h0, if_neg (by decide), if_pos rfl]; rfl
      clear h0
      go_enter Tryd.func32, Tryd.ntmps32
      go_wp2
      go_ret
      exact ⟨Ln.ret_bool E.out.symm, HB.out⟩
    · have he' : (e == 0) = false := by simpa using he
      have E : Hid (numB 128 2 b e s = false) := by show _ = _; unfold numB; rw [if_neg h0, if_neg (by decide), if_pos rfl, decide_eq_false he]; rfl
      clear h0
      go_enter Tryd.func32, Tryd.ntmps32
      go_wp2
      go_ret
      exact ⟨Ln.ret_bool E.out.symm, HB.out⟩
  have k2b : (k == 2) = false := beq_eq_false_iff_ne.2 k2
  by_cases k34 : k = 3 ∨ k = 4
  · have E0 : Hid (numB 128 k b e s = (decide (e = 0) && (s.toList.isEmpty && !b))) := by show _ = _; unfold numB; rw [if_neg h0, if_neg hk, if_neg k2, if_pos k34]
    generalize numB 128 k b e s = R at *
    clear h0 hk k2
    by_cases he : e = 0
    · subst he
      cases hb : s.toList.isEmpty with
      | false =>
        have E : Hid (R = false) := by show _ = _; rw [E0.out, hb]; rfl
        rcases k34 with rfl | rfl
        all_goals
          go_enter Tryd.func32, Tryd.ntmps32
          go_wp2
          go_ret
          exact ⟨Ln.ret_bool E.out.symm, HB.out⟩
      | true =>
        have E : Hid (R = !b) := by show _ = _; rw [E0.out, hb]; rfl
        rcases k34 with rfl | rfl
        all_goals
          go_enter Tryd.func32, Tryd.ntmps32
          go_wp2
          go_ret
          exact ⟨Ln.ret_bool E.out.symm, HB.out⟩
    · have he' : (e == 0) = false := by simpa using he
      have E : Hid (R = false) := by show _ = _; rw [E0.out, decide_eq_false he]; rfl
      clear he
      rcases k34 with rfl | rfl
      all_goals
        go_enter Tryd.func32, Tryd.ntmps32
        go_wp2
        go_ret
        exact ⟨Ln.ret_bool E.out.symm, HB.out⟩
  · have k3b : (k == 3) = false := beq_eq_false_iff_ne.2 (fun h => k34 (.inl h))
    have k4b : (k == 4) = false := beq_eq_false_iff_ne.2 (fun h => k34 (.inr h))
    have E : Hid (numB 128 k b e s = false) := by show _ = _; unfold numB; rw [if_neg h0, if_neg hk, if_neg k2, if_neg k34]
    clear h0 hk k2 k34
    go_enter Tryd.func32, Tryd.ntmps32
    go_wp2
    go_ret
    exact ⟨Ln.ret_bool E.out.symm, HB.out⟩
theorem isRight_128 (k : Int) (b : Bool) (e : Int) (s : ByteArray) (w : World) (hs : s.size ≤ 4611686018427387904) :
    Calls Tryd.prog 32 #[.iface 62 (.agg #[]), numV k b e s] w fun r w' => r = .returned (.bool (numB 128 k b e s)) ∧ Below w.heap.size w w' := by
  by_cases hk : k = 1
  · subst hk
    have E : numB 128 1 b e s = (natB 34 s && (decide (-6176 ≤ e) && decide (e ≤ 6111))) := by unfold numB; rw [if_neg (by decide), if_pos rfl]; rfl
    rw [E]
    exact isRight_fin128 b e s w hs
  · exact isRight_oth128 k b e s w hs hk
theorem iNumOk_128 (k : Int) (b : Bool) (e : Int) (s : ByteArray) (w : World) (hs : s.size ≤ 4611686018427387904) :
    Calls Tryd.prog 16 #[.int .i64 128, numV k b e s] w fun r w' => r = .returned (.bool (numB 128 k b e s)) ∧ Below w.heap.size w w' := by
  have HI : Hid (∀ X, Calls Tryd.prog 32 #[.iface 62 (.agg #[]), numV k b e s] X fun r w' => r = .returned (.bool (numB 128 k b e s)) ∧ Below X.heap.size X w') := fun X => isRight_128 k b e s X hs
  have HB : Hid (Below (w.heap.size + 1) (nbq w k b e s) (nbq w k b e s)) := Below.refl _ _
  generalize numB 128 k b e s = R at *
  go_enter Tryd.func16, Tryd.ntmps16
  go_wp2_with fail
  refine (fmtOf_128 _).mono ?_
  rintro r w1 ⟨rfl, hw⟩
  subst hw
  go_wp2_with fail
  refine (HI.out _).mono ?_
  rintro r w2 ⟨rfl, hb⟩
  have hB2 := nbq_next HB.out hb
  go_wp2
  go_ret
  exact ⟨rfl, nbq_out hB2⟩
theorem iNumOk_any (f k : Int) (b : Bool) (e : Int) (s : ByteArray) (w : World) (hs : s.size ≤ 4611686018427387904) :
    Calls Tryd.prog 16 #[.int .i64 f, numV k b e s] w fun r w' => r = .returned (.bool (numB f k b e s)) ∧ Below w.heap.size w w' := by
  by_cases h1 : f = 64
  · subst h1; exact iNumOk_64 k b e s w hs
  by_cases h2 : f = 128
  · subst h2; exact iNumOk_128 k b e s w hs
  have E : Hid (numB f k b e s = false) := by show _ = _; unfold numB limP; rw [if_neg h1, if_neg h2, if_pos rfl]
  have HB : Hid (Below (w.heap.size + 1) (nbq w k b e s) (nbq w k b e s)) := Below.refl _ _
  go_enter Tryd.func16, Tryd.ntmps16
  go_wp2_with fail
  refine (fmtOf_no f _ h1 h2).mono ?_
  rintro r w1 ⟨rfl, hw⟩
  subst hw
  go_wp2
  go_ret
  exact ⟨Ln.ret_bool E.out.symm, nbq_out HB.out⟩
end Go.Proofs.YtcflomcankcggatDoor
