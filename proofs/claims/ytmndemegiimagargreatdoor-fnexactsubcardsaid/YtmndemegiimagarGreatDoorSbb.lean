/-
  Sub of the model and of the program at any arguments, walked.
-/
import Derived.Test.YtmndemegiimagarGreatDoorSph
import Derived.Test.YtmndemegiimagarGreatDoorSmO
namespace Go.Proofs.YtmndemegiimagarGreatDoor
open Go.RowKit
set_option linter.unusedVariables false
set_option maxRecDepth 100000
/-- The other sign, but for NaNs. -/
def tuB (k : Int) (b : Bool) : Bool := if k = 1 ∨ k = 2 then !b else b
theorem numB_tu (f k : Int) (b : Bool) (e : Int) (s : ByteArray) : numB f k (tuB k b) e s = numB f k b e s := by
  unfold numB tuB
  by_cases h1 : k = 1
  · subst h1; simp
  · by_cases h2 : k = 2
    · subst h2; simp
    · rw [show (if k = 1 ∨ k = 2 then !b else b) = b from if_neg (fun q => q.elim h1 h2)]
def subR (f mode : Int) (ka : Int) (na : Bool) (ea : Int) (sa : ByteArray) (kb : Int) (nb : Bool) (eb : Int) (sb : ByteArray) : R5 := addR f mode ka na ea sa kb (tuB kb nb) eb sb
theorem sub_wrong (f mode : Int) (ka : Int) (na : Bool) (ea : Int) (sa : ByteArray) (kb : Int) (nb : Bool) (eb : Int) (sb : ByteArray) (h : numB f kb nb eb sb = false) : subR f mode ka na ea sa kb nb eb sb = (false, (0, 0, { data := #[] }, 0)) := by
  unfold subR addR addO
  rw [numB_tu, h, Bool.and_false, Bool.and_false]
  rfl
set_option maxRecDepth 100000 in
set_option maxHeartbeats 1000000 in
theorem sSub_ok (f mode : Int) (ka : Int) (na : Bool) (ea : Int) (sa : ByteArray) (kb : Int) (nb : Bool) (eb : Int) (sb : ByteArray) (w : World) (hsa : sa.size ≤ 4611686018427387904) (hsb : sb.size ≤ 4611686018427387904) :
    Calls Tryz.prog 10 #[.int .i64 f, .int .i64 mode, numV ka na ea sa, numV kb nb eb sb] w fun x w' => x = .returned (rsD (subR f mode ka na ea sa kb nb eb sb).1 (subR f mode ka na ea sa kb nb eb sb).2) ∧ Below w.heap.size w w' := by
  have HS : Hid (SU w (suW w ka na ea sa kb nb eb sb) ka na ea sa kb nb eb sb) := su_new w ka na ea sa kb nb eb sb
  have HNo : Hid (∀ X, Calls Tryz.prog 24 #[.int .i64 f, numV kb nb eb sb] X fun e w' => e = .returned (.bool (numB f kb nb eb sb)) ∧ Below X.heap.size X w') := fun X => sNumOk_any f kb nb eb sb X hsb
  have HTu : Hid (∀ X, Calls Tryz.prog 26 #[numV kb nb eb sb] X fun x w' => x = .returned (numV kb (tuB kb nb) eb sb) ∧ Below X.heap.size X w') := fun X => l13Turn_any kb nb eb sb X
  have HAd : Hid (∀ X, Calls Tryz.prog 25 #[.int .i64 f, .int .i64 mode, numV ka na ea sa, numV kb (tuB kb nb) eb sb] X fun x w' => x = .returned (rsD (subR f mode ka na ea sa kb nb eb sb).1 (subR f mode ka na ea sa kb nb eb sb).2) ∧ Below X.heap.size X w') := fun X => sAdd_ok f mode ka na ea sa kb (tuB kb nb) eb sb X hsa hsb
  have HW : Hid (numB f kb nb eb sb = false → subR f mode ka na ea sa kb nb eb sb = (false, (0, 0, { data := #[] }, 0))) := sub_wrong f mode ka na ea sa kb nb eb sb
  generalize subR f mode ka na ea sa kb nb eb sb = R at *
  generalize numB f kb nb eb sb = B at *
  generalize tuB kb nb = tb at *
  obtain ⟨R0, F1, F2, F3, F4⟩ := R
  have hb0 := build_res00
  clear hsa hsb
  go_enter Tryz.func10, Tryz.ntmps10
  go_wp2_with fail
  refine (HNo.out _).mono ?_
  rintro x w1 ⟨rfl, hb1⟩
  have HS1 : Hid (SU w w1 ka na ea sa kb nb eb sb) := HS.out.next hb1
  clear hb1 HS HNo
  cases B with
  | false =>
    have ER : Hid ((R0, F1, F2, F3, F4) = ((false, (0, 0, { data := #[] }, 0)) : R5)) := HW.out rfl
    have HZ3 : Hid (At5 w1 (w.heap.size + 2) (.int .i64 0) (.bool false) (.int .i64 0) (.string { data := #[] }) (.int .i64 0) ∧ Below w.heap.size w w1) := ⟨HS1.out.2.2.1, HS1.out.2.2.2.1⟩
    clear HS1 HTu HAd HW
    go_wp2_with (refine wpList_store_row rfl 27 (.tmp 8) (.tmp 13) rfl (w.heap.size + 2) #[.int .i64 0, .bool false, .int .i64 0, .string { data := #[] }, .int .i64 0] rfl rfl _ _ HZ3.out.1 (by kernel_rfl) rfl (one5 _ _ _ _ _) ?_)
    have hP := (HZ3.out.1.row (.int .i64 0) (.bool false) (.int .i64 0) (.string { data := #[] }) (.int .i64 0)).cells
    refine bodyPost_ret (results_res rfl _ _ rfl hP.1 hP.2.1 hP.2.2.1 hP.2.2.2.1 hP.2.2.2.2.1) rfl ?_
    have := ER.out
    injection this with e0 e
    injection e with e1 e
    injection e with e2 e
    injection e with e3 e4
    subst e0 e1 e2 e3 e4
    exact ⟨rfl, bel_row HZ3.out.2 (by omega) _⟩
  | true =>
    clear HW hb0
    go_upto_region 3 with fail
    have HX0 : Hid (Below w1.heap.size w1 w1.drew) := (Below.refl _ _).drew
    refine wp_region_tail (C := fun W => Below w1.heap.size w1 W) 5 (by kernel_rfl) (by kernel_rfl) HX0.out ?_
    simp only [List.take_succ_cons, List.take_zero, List.drop_succ_cons, List.drop_zero]
    repeat (refine wpQuiet_step (fun K hK => ?_); go_simp; first | (refine hK _ ?_; clear hK K) | (apply Exists.intro; refine ⟨fun wx hC => ?_, hK _ ?_⟩; (first | exact rfl | ((with_reducible refine Calls.class_of (HTu.out wx) ?_); exact fun w' hb => bel1 hC hb) | (obtain ⟨a0, a1, a2, a3, a4⟩ := (HS1.out.next hC).at1.cells; go_simp; exact rfl) | (obtain ⟨a0, a1, a2, a3, a4⟩ := (HS1.out.next hC).at2.cells; go_simp; exact rfl)); clear hK K))
    refine wpQuiet_nil ?_
    intro w2 hb2
    have HS2 : Hid (SU w w2 ka na ea sa kb nb eb sb) := HS1.out.next hb2
    clear hb2 HS1 HX0 HTu
    go_wp2_with fail
    refine (HAd.out _).mono ?_
    rintro x w3 ⟨rfl, hb3⟩
    have HZ3 : Hid (At5 w3 (w.heap.size + 2) (.int .i64 0) (.bool false) (.int .i64 0) (.string { data := #[] }) (.int .i64 0) ∧ Below w.heap.size w w3) := sum_end HS2.out hb3
    clear hb3 HS2 HAd
    go_wp2_with (refine wpList_store_row rfl 27 (.tmp 8) (.tmp 19) rfl (w.heap.size + 2) #[.int .i64 F1, .bool R0, .int .i64 F2, .string F3, .int .i64 F4] rfl rfl _ _ HZ3.out.1 (by kernel_rfl) rfl (one5 _ _ _ _ _) ?_)
    have hP := (HZ3.out.1.row (.int .i64 F1) (.bool R0) (.int .i64 F2) (.string F3) (.int .i64 F4)).cells
    refine bodyPost_ret (results_res rfl _ _ rfl hP.1 hP.2.1 hP.2.2.1 hP.2.2.2.1 hP.2.2.2.2.1) rfl ?_
    exact ⟨rfl, bel_row HZ3.out.2 (by omega) _⟩
set_option maxRecDepth 100000 in
set_option maxHeartbeats 1000000 in
theorem iSub_any (f mode : Int) (ka : Int) (na : Bool) (ea : Int) (sa : ByteArray) (kb : Int) (nb : Bool) (eb : Int) (sb : ByteArray) (w : World) (hsa : sa.size ≤ 4611686018427387904) (hsb : sb.size ≤ 4611686018427387904) :
    Calls Tryz.prog 12 #[.int .i64 f, .int .i64 mode, numV ka na ea sa, numV kb nb eb sb] w fun x w' => x = .returned (rsD (subR f mode ka na ea sa kb nb eb sb).1 (subR f mode ka na ea sa kb nb eb sb).2) ∧ Below w.heap.size w w' := by
  have HS : Hid (SU w (((w.alloc (.cells #[.int .i64 ka, .bool na, .int .i64 ea, .string sa] 25)).alloc (.cells #[.int .i64 kb, .bool nb, .int .i64 eb, .string sb] 25)).alloc (.cells #[.int .i64 0, .bool false, .int .i64 0, .string { data := #[] }, .int .i64 0] 27)) ka na ea sa kb nb eb sb) := su_new w ka na ea sa kb nb eb sb
  have HTu : Hid (∀ X, Calls Tryz.prog 28 #[numV kb nb eb sb] X fun x w' => x = .returned (numV kb (tuB kb nb) eb sb) ∧ Below X.heap.size X w') := fun X => otherSign_any kb nb eb sb X
  have HAd : Hid (∀ X, Calls Tryz.prog 27 #[.int .i64 f, .int .i64 mode, numV ka na ea sa, numV kb (tuB kb nb) eb sb] X fun x w' => x = .returned (rsD (subR f mode ka na ea sa kb nb eb sb).1 (subR f mode ka na ea sa kb nb eb sb).2) ∧ Below X.heap.size X w') := fun X => iAdd_any f mode ka na ea sa kb (tuB kb nb) eb sb X hsa hsb
  generalize subR f mode ka na ea sa kb nb eb sb = R at *
  generalize tuB kb nb = tb at *
  obtain ⟨R0, F1, F2, F3, F4⟩ := R
  clear hsa hsb
  go_enter Tryz.func12, Tryz.ntmps12
  go_upto_region 1 with fail
  generalize ((w.alloc (.cells #[.int .i64 ka, .bool na, .int .i64 ea, .string sa] 25)).alloc (.cells #[.int .i64 kb, .bool nb, .int .i64 eb, .string sb] 25)).alloc (.cells #[.int .i64 0, .bool false, .int .i64 0, .string { data := #[] }, .int .i64 0] 27) = w1 at *
  have HX0 : Hid (Below w1.heap.size w1 w1.drew) := (Below.refl _ _).drew
  refine wp_region_tail (C := fun W => Below w1.heap.size w1 W) 5 (by kernel_rfl) (by kernel_rfl) HX0.out ?_
  simp only [List.take_succ_cons, List.take_zero, List.drop_succ_cons, List.drop_zero]
  repeat (refine wpQuiet_step (fun K hK => ?_); go_simp; first | (refine hK _ ?_; clear hK K) | (apply Exists.intro; refine ⟨fun wx hC => ?_, hK _ ?_⟩; (first | exact rfl | ((with_reducible refine Calls.class_of (HTu.out wx) ?_); exact fun w' hb => bel1 hC hb) | (obtain ⟨a0, a1, a2, a3, a4⟩ := (HS.out.next hC).at1.cells; go_simp; exact rfl) | (obtain ⟨a0, a1, a2, a3, a4⟩ := (HS.out.next hC).at2.cells; go_simp; exact rfl)); clear hK K))
  refine wpQuiet_nil ?_
  intro w2 hb2
  have HS2 : Hid (SU w w2 ka na ea sa kb nb eb sb) := HS.out.next hb2
  clear hb2 HS HX0 HTu
  go_wp2_with fail
  refine (HAd.out _).mono ?_
  rintro x w3 ⟨rfl, hb3⟩
  have HZ3 : Hid (At5 w3 (w.heap.size + 2) (.int .i64 0) (.bool false) (.int .i64 0) (.string { data := #[] }) (.int .i64 0) ∧ Below w.heap.size w w3) := sum_end HS2.out hb3
  clear hb3 HS2 HAd
  go_wp2_with (refine wpList_store_row rfl 27 (.tmp 8) (.tmp 14) rfl (w.heap.size + 2) #[.int .i64 F1, .bool R0, .int .i64 F2, .string F3, .int .i64 F4] rfl rfl _ _ HZ3.out.1 (by kernel_rfl) rfl (one5 _ _ _ _ _) ?_)
  have hP := (HZ3.out.1.row (.int .i64 F1) (.bool R0) (.int .i64 F2) (.string F3) (.int .i64 F4)).cells
  refine bodyPost_ret (results_res rfl _ _ rfl hP.1 hP.2.1 hP.2.2.1 hP.2.2.2.1 hP.2.2.2.2.1) rfl ?_
  exact ⟨rfl, bel_row HZ3.out.2 (by omega) _⟩
end Go.Proofs.YtmndemegiimagarGreatDoor
