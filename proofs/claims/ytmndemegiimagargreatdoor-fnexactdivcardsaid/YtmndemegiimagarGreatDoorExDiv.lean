/-
  FnExactDiv: the law's own walk.
-/
import Derived.Test.YtmndemegiimagarGreatDoorExn
import Derived.Test.YtmndemegiimagarGreatDoorDvj
import Derived.Test.YtmndemegiimagarGreatDoorDvs
namespace Go.Proofs.YtmndemegiimagarGreatDoor
open Go.RowKit
set_option linter.unusedVariables false
set_option maxRecDepth 100000
set_option maxRecDepth 100000 in
set_option maxHeartbeats 2000000 in
theorem exDiv_any (f mode : Int) (ka : Int) (na : Bool) (ea : Int) (sa : ByteArray) (kb : Int) (nb : Bool) (eb : Int) (sb : ByteArray) (w : World) (hma : sa.size ≤ 9223372036854775807) (hmb : sb.size ≤ 9223372036854775807) :
    Calls Tryz.prog 7 #[.int .i64 f, .int .i64 mode, numV ka na ea sa, numV kb nb eb sb] w fun r w' => r = .returned (.bool true) ∧ Below w.heap.size w w' := by
  have HL : Hid (LB w ka na ea sa kb nb eb sb ((w.alloc (.cells #[.int .i64 ka, .bool na, .int .i64 ea, .string sa] 23)).alloc (.cells #[.int .i64 kb, .bool nb, .int .i64 eb, .string sb] 23))) := lb_new w ka na ea sa kb nb eb sb
  by_cases h1 : (sa.size : Int) ≤ 1048576
  case neg =>
    have HZ : Hid (∀ X, Calls Tryz.prog 9 #[numV ka na ea sa, .int .i64 1048576] X fun r w' => r = .returned (.int .i64 (-1)) ∧ Below X.heap.size X w') := fun X => szNum_no ka na ea sa 1048576 X (by decide) (by decide) hma (by omega)
    clear hma hmb h1
    go_enter Tryz.func7, Tryz.ntmps7
    go_wp2_with fail
    refine (HZ.out _).mono ?_
    rintro r u1 ⟨rfl, hb1⟩
    have HB1 := (HL.out.next hb1).2.2.1
    clear hb1 HL HZ
    go_wp2
    go_ret
    exact ⟨rfl, HB1⟩
  have HZ1 : Hid (∀ X, Calls Tryz.prog 9 #[numV ka na ea sa, .int .i64 1048576] X fun r w' => r = .returned (.int .i64 (1048576 - sa.size)) ∧ Below X.heap.size X w') := fun X => szNum_yes ka na ea sa 1048576 X (by decide) (by decide) hma h1
  have hs1 : ¬ (1048576 - (sa.size : Int)) < 0 := by omega
  by_cases h2 : (sb.size : Int) ≤ 1048576 - sa.size
  case neg =>
    have HZ2 : Hid (∀ X, Calls Tryz.prog 9 #[numV kb nb eb sb, .int .i64 (1048576 - sa.size)] X fun r w' => r = .returned (.int .i64 (-1)) ∧ Below X.heap.size X w') := fun X => szNum_no kb nb eb sb (1048576 - sa.size) X (by omega) (by omega) hmb (by omega)
    clear hma hmb h1 h2
    generalize 1048576 - (sa.size : Int) = L1 at *
    go_enter Tryz.func7, Tryz.ntmps7
    go_wp2_with fail
    refine (HZ1.out _).mono ?_
    rintro r u1 ⟨rfl, hb1⟩
    have HL1 : Hid (LB w ka na ea sa kb nb eb sb u1) := HL.out.next hb1
    obtain ⟨c0, c1, c2, c3⟩ := HL1.out.2.1.cells
    clear hb1 HL HZ1
    go_wp2_with fail
    refine (HZ2.out _).mono ?_
    rintro r u2 ⟨rfl, hb2⟩
    have HB2 := (HL1.out.next hb2).2.2.1
    clear hb2 HL1 HZ2 c0 c1 c2 c3
    go_wp2
    go_ret
    exact ⟨rfl, HB2⟩
  have HZ2 : Hid (∀ X, Calls Tryz.prog 9 #[numV kb nb eb sb, .int .i64 (1048576 - sa.size)] X fun r w' => r = .returned (.int .i64 (1048576 - sa.size - sb.size)) ∧ Below X.heap.size X w') := fun X => szNum_yes kb nb eb sb (1048576 - sa.size) X (by omega) (by omega) hmb h2
  have hs2 : ¬ (1048576 - (sa.size : Int) - (sb.size : Int)) < 0 := by omega
  have HTa : Hid (∀ X, Calls Tryz.prog 11 #[numV ka na ea sa] X fun r w' => r = .returned (numV ka na ea sa) ∧ Below X.heap.size X w') := fun X => toNum_any ka na ea sa X
  have HTb : Hid (∀ X, Calls Tryz.prog 11 #[numV kb nb eb sb] X fun r w' => r = .returned (numV kb nb eb sb) ∧ Below X.heap.size X w') := fun X => toNum_any kb nb eb sb X
  have HS : Hid (∀ X, Calls Tryz.prog 20 #[.int .i64 f, .int .i64 mode, numV ka na ea sa, numV kb nb eb sb] X fun r w' => r = .returned (rsD (dvR f mode ka na ea sa kb nb eb sb).1 (dvR f mode ka na ea sa kb nb eb sb).2) ∧ Below X.heap.size X w') := fun X => sDiv_any f mode ka na ea sa kb nb eb sb X (by omega) (by omega)
  have HI : Hid (∀ X, Calls Tryz.prog 21 #[.int .i64 f, .int .i64 mode, numV ka na ea sa, numV kb nb eb sb] X fun r w' => r = .returned (rsD (dvR f mode ka na ea sa kb nb eb sb).1 (dvR f mode ka na ea sa kb nb eb sb).2) ∧ Below X.heap.size X w') := fun X => iDiv_any f mode ka na ea sa kb nb eb sb X (by omega) (by omega)
  generalize dvR f mode ka na ea sa kb nb eb sb = R at *
  obtain ⟨R0, F1, F2, F3, F4⟩ := R
  have HEq : Hid (∀ X, Calls Tryz.prog 13 #[resV F1 R0 F2 F3 F4, resV F1 R0 F2 F3 F4] X fun r w' => r = .returned (.bool true) ∧ Below X.heap.size X w') := fun X => eqResult_same F1 R0 F2 F3 F4 X
  clear hma hmb h1 h2
  generalize 1048576 - (sa.size : Int) - (sb.size : Int) = L2 at *
  generalize 1048576 - (sa.size : Int) = L1 at *
  go_enter Tryz.func7, Tryz.ntmps7
  go_wp2_with fail
  refine (HZ1.out _).mono ?_
  rintro r u1 ⟨rfl, hb1⟩
  have HL1 : Hid (LB w ka na ea sa kb nb eb sb u1) := HL.out.next hb1
  obtain ⟨c0, c1, c2, c3⟩ := HL1.out.2.1.cells
  clear hb1 HL HZ1
  go_wp2_with fail
  refine (HZ2.out _).mono ?_
  rintro r u2 ⟨rfl, hb2⟩
  have HL2 : Hid (LB w ka na ea sa kb nb eb sb u2) := HL1.out.next hb2
  clear hb2 HL1 HZ2 c0 c1 c2 c3
  go_upto_region 8 with fail
  have HX8 : Hid (LC w ka na ea sa kb nb eb sb (fun _ => True) none u2.drew) := ⟨HL2.out.drew, (fun p h => by cases h), trivial⟩
  refine wp_region_laid (C := LC w ka na ea sa kb nb eb sb (fun _ => True)) 8 7 10 _ (.cells #[.int .i64 0, .bool false, .int .i64 0, .string { data := #[] }, .int .i64 0] 27) rfl rfl rfl rfl ?_ (fun W hW => hW.lay (fun _ _ _ => trivial)) (by kernel_rfl) (by kernel_rfl) HX8.out ?_
  · intro a W
    go_simp
  simp only [List.take_succ_cons, List.take_zero, List.drop_succ_cons, List.drop_zero]
  repeat (refine wpQuietF_step (fun K hK => ?_); go_simp; first | (refine hK _ ?_; clear hK K) | (apply Exists.intro; refine ⟨fun bb wx hC => ?_, hK _ ?_⟩; (first | exact rfl | ((with_reducible refine Calls.class_of (HTa.out wx) ?_); exact fun w' hb => LC.next hC hb (fun _ _ _ => trivial)) | ((with_reducible refine Calls.class_of (HTb.out wx) ?_); exact fun w' hb => LC.next hC hb (fun _ _ _ => trivial)) | ((with_reducible refine Calls.class_of (HS.out wx) ?_); exact fun w' hb => LC.next hC hb (fun _ _ _ => trivial)) | (obtain ⟨a0, a1, a2, a3⟩ := hC.1.1.cells; go_simp; exact rfl) | (obtain ⟨a0, a1, a2, a3⟩ := hC.1.2.1.cells; go_simp; exact rfl)); clear hK K))
  refine wpQuietF_nil ?_
  intro p1 u3 hC3
  obtain ⟨hA3, hp3⟩ := hC3.2.1 p1 rfl
  have HL3 : Hid (LB w ka na ea sa kb nb eb sb u3 ∧ At5 u3 p1 (.int .i64 0) (.bool false) (.int .i64 0) (.string { data := #[] }) (.int .i64 0) ∧ w.heap.size + 2 ≤ p1) := ⟨hC3.1, hA3, hp3⟩
  clear hC3 hA3 hp3 HX8 HL2 HS
  simp only [Act.put]
  go_wp2_with (refine wpList_store_row rfl 27 (.tmp 10) (.tmp 28) rfl p1 #[.int .i64 F1, .bool R0, .int .i64 F2, .string F3, .int .i64 F4] rfl rfl _ _ HL3.out.2.1 (by kernel_rfl) rfl (one5 _ _ _ _ _) ?_)
  have HL4 : Hid (LB w ka na ea sa kb nb eb sb (u3.setRow p1 #[.int .i64 F1, .bool R0, .int .i64 F2, .string F3, .int .i64 F4]) ∧ At5 (u3.setRow p1 #[.int .i64 F1, .bool R0, .int .i64 F2, .string F3, .int .i64 F4]) p1 (.int .i64 F1) (.bool R0) (.int .i64 F2) (.string F3) (.int .i64 F4)) := ⟨HL3.out.1.row HL3.out.2.2 _, HL3.out.2.1.row _ _ _ _ _⟩
  generalize u3.setRow p1 #[.int .i64 F1, .bool R0, .int .i64 F2, .string F3, .int .i64 F4] = u4 at *
  clear HL3
  have HX9 : Hid (LC w ka na ea sa kb nb eb sb (fun W => At5 W p1 (.int .i64 F1) (.bool R0) (.int .i64 F2) (.string F3) (.int .i64 F4)) none u4.drew) := ⟨HL4.out.1.drew, (fun p h => by cases h), HL4.out.2⟩
  refine wp_region_laid (C := LC w ka na ea sa kb nb eb sb (fun W => At5 W p1 (.int .i64 F1) (.bool R0) (.int .i64 F2) (.string F3) (.int .i64 F4))) 8 7 11 _ (.cells #[.int .i64 0, .bool false, .int .i64 0, .string { data := #[] }, .int .i64 0] 27) rfl rfl rfl rfl ?_ (fun W hW => hW.lay (fun h hb _ => h.below hb h.lt)) (by kernel_rfl) (by kernel_rfl) HX9.out ?_
  · intro a W
    go_simp
  simp only [List.take_succ_cons, List.take_zero, List.drop_succ_cons, List.drop_zero]
  repeat (refine wpQuietF_step (fun K hK => ?_); go_simp; first | (refine hK _ ?_; clear hK K) | (apply Exists.intro; refine ⟨fun bb wx hC => ?_, hK _ ?_⟩; (first | exact rfl | ((with_reducible refine Calls.class_of (HTa.out wx) ?_); exact fun w' hb => LC.next hC hb (fun h hb _ => h.below hb h.lt)) | ((with_reducible refine Calls.class_of (HTb.out wx) ?_); exact fun w' hb => LC.next hC hb (fun h hb _ => h.below hb h.lt)) | ((with_reducible refine Calls.class_of (HI.out wx) ?_); exact fun w' hb => LC.next hC hb (fun h hb _ => h.below hb h.lt)) | (obtain ⟨a0, a1, a2, a3⟩ := hC.1.1.cells; go_simp; exact rfl) | (obtain ⟨a0, a1, a2, a3⟩ := hC.1.2.1.cells; go_simp; exact rfl)); clear hK K))
  refine wpQuietF_nil ?_
  intro p2 u5 hC5
  obtain ⟨hA5, hp5⟩ := hC5.2.1 p2 rfl
  have HB5 : Hid (Below w.heap.size w u5 ∧ w.heap.size ≤ p2) := ⟨hC5.1.2.2.1, by omega⟩
  have HA5 : Hid (At5 u5 p2 (.int .i64 0) (.bool false) (.int .i64 0) (.string { data := #[] }) (.int .i64 0)) := hA5
  have HA6 : Hid (At5 (u5.setRow p2 #[.int .i64 F1, .bool R0, .int .i64 F2, .string F3, .int .i64 F4]) p1 (.int .i64 F1) (.bool R0) (.int .i64 F2) (.string F3) (.int .i64 F4)) := by
    by_cases hpp : p1 = p2
    · subst hpp; exact hA5.row _ _ _ _ _
    · exact (setRow_other u5 p2 p1 _ hpp).trans hC5.2.2
  have HA7 : Hid (At5 (u5.setRow p2 #[.int .i64 F1, .bool R0, .int .i64 F2, .string F3, .int .i64 F4]) p2 (.int .i64 F1) (.bool R0) (.int .i64 F2) (.string F3) (.int .i64 F4)) := hA5.row _ _ _ _ _
  have HB6 : Hid (Below w.heap.size w (u5.setRow p2 #[.int .i64 F1, .bool R0, .int .i64 F2, .string F3, .int .i64 F4])) := bel_row HB5.out.1 HB5.out.2 _
  obtain ⟨a0, a1, a2, a3, a4, -⟩ := HA6.out.cells
  obtain ⟨c0, c1, c2, c3, c4, -⟩ := HA7.out.cells
  clear hC5 hA5 hp5 HX9 HI HL4 HTa HTb
  simp only [Act.put]
  go_wp2_with (refine wpList_store_row rfl 27 (.tmp 11) (.tmp 35) rfl p2 #[.int .i64 F1, .bool R0, .int .i64 F2, .string F3, .int .i64 F4] rfl rfl _ _ HA5.out (by kernel_rfl) rfl (one5 _ _ _ _ _) ?_)
  refine (HEq.out _).mono ?_
  rintro r u7 ⟨rfl, hb7⟩
  have HB7 := HB6.out.trans (hb7.mono HB6.out.size)
  clear hb7 HA5 HA6 HA7 HB5 HB6 HEq a0 a1 a2 a3 a4 c0 c1 c2 c3 c4
  go_wp2
  go_ret
  exact ⟨rfl, HB7⟩
end Go.Proofs.YtmndemegiimagarGreatDoor
