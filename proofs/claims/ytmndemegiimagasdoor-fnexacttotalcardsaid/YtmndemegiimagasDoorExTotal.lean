/-
  FnExactTotal: the law's own walk.
-/
import Derived.Test.YtmndemegiimagasDoorExb
import Derived.Test.YtmndemegiimagasDoorOru
namespace Go.Proofs.YtmndemegiimagasDoor
open Go.RowKit
set_option linter.unusedVariables false
set_option maxRecDepth 100000 in
set_option maxHeartbeats 2000000 in
theorem exTotal_any (f : Int) (ka : Int) (na : Bool) (ea : Int) (sa : ByteArray) (kb : Int) (nb : Bool) (eb : Int) (sb : ByteArray) (w : World) (hma : sa.size ≤ 9223372036854775807) (hmb : sb.size ≤ 9223372036854775807) (hT : KTab w) :
    Calls Tryd.prog 4 #[.int .i64 f, numV ka na ea sa, numV kb nb eb sb] w fun r w' => r = .returned (.bool true) ∧ Below w.heap.size w w' := by
  have HT : Hid (KTab w) := hT
  clear hT
  have HL : Hid (LM w ka na ea sa kb nb eb sb ((w.alloc (.cells #[.int .i64 ka, .bool na, .int .i64 ea, .string sa] 23)).alloc (.cells #[.int .i64 kb, .bool nb, .int .i64 eb, .string sb] 23))) := lm_new w ka na ea sa kb nb eb sb
  by_cases h1 : (sa.size : Int) ≤ 1048576
  case neg =>
    have HZ : Hid (∀ X, Calls Tryd.prog 5 #[numV ka na ea sa, .int .i64 1048576] X fun r w' => r = .returned (.int .i64 (-1)) ∧ Below X.heap.size X w') := fun X => szNum_no ka na ea sa 1048576 X (by decide) (by decide) hma (by omega)
    clear hma hmb h1
    go_enter Tryd.func4, Tryd.ntmps4
    go_wp2_with fail
    refine (HZ.out _).mono ?_
    rintro r u1 ⟨rfl, hb1⟩
    have HB1 := (HL.out.next hb1).2.2
    clear hb1 HL HZ
    go_wp2
    go_ret
    exact ⟨rfl, HB1⟩
  have HZ1 : Hid (∀ X, Calls Tryd.prog 5 #[numV ka na ea sa, .int .i64 1048576] X fun r w' => r = .returned (.int .i64 (1048576 - sa.size)) ∧ Below X.heap.size X w') := fun X => szNum_yes ka na ea sa 1048576 X (by decide) (by decide) hma h1
  have hs1 : ¬ (1048576 - (sa.size : Int)) < 0 := by omega
  by_cases h2 : (sb.size : Int) ≤ 1048576 - sa.size
  case neg =>
    have HZ2 : Hid (∀ X, Calls Tryd.prog 5 #[numV kb nb eb sb, .int .i64 (1048576 - sa.size)] X fun r w' => r = .returned (.int .i64 (-1)) ∧ Below X.heap.size X w') := fun X => szNum_no kb nb eb sb (1048576 - sa.size) X (by omega) (by omega) hmb (by omega)
    clear hma hmb h1 h2
    generalize 1048576 - (sa.size : Int) = L1 at *
    go_enter Tryd.func4, Tryd.ntmps4
    go_wp2_with fail
    refine (HZ1.out _).mono ?_
    rintro r u1 ⟨rfl, hb1⟩
    have HL1 : Hid (LM w ka na ea sa kb nb eb sb u1) := HL.out.next hb1
    obtain ⟨c0, c1, c2, c3⟩ := HL1.out.2.1.cells
    clear hb1 HL HZ1
    go_wp2_with fail
    refine (HZ2.out _).mono ?_
    rintro r u2 ⟨rfl, hb2⟩
    have HB2 := (HL1.out.next hb2).2.2
    clear hb2 HL1 HZ2 c0 c1 c2 c3
    go_wp2
    go_ret
    exact ⟨rfl, HB2⟩
  have HZ2 : Hid (∀ X, Calls Tryd.prog 5 #[numV kb nb eb sb, .int .i64 (1048576 - sa.size)] X fun r w' => r = .returned (.int .i64 (1048576 - sa.size - sb.size)) ∧ Below X.heap.size X w') := fun X => szNum_yes kb nb eb sb (1048576 - sa.size) X (by omega) (by omega) hmb h2
  have hs2 : ¬ (1048576 - (sa.size : Int) - (sb.size : Int)) < 0 := by omega
  have HTa : Hid (∀ X, Calls Tryd.prog 7 #[numV ka na ea sa] X fun r w' => r = .returned (numV ka na ea sa) ∧ Below X.heap.size X w') := fun X => toNum_any ka na ea sa X
  have HTb : Hid (∀ X, Calls Tryd.prog 7 #[numV kb nb eb sb] X fun r w' => r = .returned (numV kb nb eb sb) ∧ Below X.heap.size X w') := fun X => toNum_any kb nb eb sb X
  have HS : Hid (∀ X, Calls Tryd.prog 9 #[.int .i64 f, numV ka na ea sa, numV kb nb eb sb] X fun r w' => r = .returned (.int .i64 (ttR f ka na ea sa kb nb eb sb)) ∧ Below X.heap.size X w') := fun X => sTotal_any f ka na ea sa kb nb eb sb X (by omega) (by omega)
  have HI : Hid (∀ X, KTab X → Calls Tryd.prog 10 #[.int .i64 f, numV ka na ea sa, numV kb nb eb sb] X fun r w' => r = .returned (.int .i64 (ttR f ka na ea sa kb nb eb sb)) ∧ Below X.heap.size X w') := fun X hK => iTotal_any f ka na ea sa kb nb eb sb X (by omega) (by omega) hK
  generalize ttR f ka na ea sa kb nb eb sb = R at *
  clear hma hmb h1 h2
  generalize 1048576 - (sa.size : Int) - (sb.size : Int) = L2 at *
  generalize 1048576 - (sa.size : Int) = L1 at *
  go_enter Tryd.func4, Tryd.ntmps4
  go_wp2_with fail
  refine (HZ1.out _).mono ?_
  rintro r u1 ⟨rfl, hb1⟩
  have HL1 : Hid (LM w ka na ea sa kb nb eb sb u1) := HL.out.next hb1
  obtain ⟨c0, c1, c2, c3⟩ := HL1.out.2.1.cells
  clear hb1 HL HZ1
  go_wp2_with fail
  refine (HZ2.out _).mono ?_
  rintro r u2 ⟨rfl, hb2⟩
  have HL2 : Hid (LM w ka na ea sa kb nb eb sb u2) := HL1.out.next hb2
  clear hb2 HL1 HZ2 c0 c1 c2 c3
  go_upto_region 8 with fail
  have HX8 : Hid (LM w ka na ea sa kb nb eb sb u2.drew) := HL2.out.drew
  refine wp_region_class (C := LM w ka na ea sa kb nb eb sb) (by kernel_rfl) (by kernel_rfl) HX8.out ?_
  repeat (refine wpQuiet_step (fun K hK => ?_); go_simp; first | (refine hK _ ?_; clear hK K) | (apply Exists.intro; refine ⟨fun wx hC => ?_, hK _ ?_⟩; (first | exact rfl | ((with_reducible refine Calls.class_of (HTa.out wx) ?_); exact fun w' hb => LM.next hC hb) | ((with_reducible refine Calls.class_of (HTb.out wx) ?_); exact fun w' hb => LM.next hC hb) | ((with_reducible refine Calls.class_of (HS.out wx) ?_); exact fun w' hb => LM.next hC hb) | (obtain ⟨a0, a1, a2, a3⟩ := hC.1.cells; go_simp; exact rfl) | (obtain ⟨a0, a1, a2, a3⟩ := hC.2.1.cells; go_simp; exact rfl)); clear hK K))
  refine wpQuiet_nil ?_
  intro u3 hC3
  have HL3 : Hid (LM w ka na ea sa kb nb eb sb u3) := hC3
  clear hC3 HX8 HL2 HS
  go_upto_region 9 with fail
  have HX9 : Hid (LM w ka na ea sa kb nb eb sb u3.drew) := HL3.out.drew
  refine wp_region_class (C := LM w ka na ea sa kb nb eb sb) (by kernel_rfl) (by kernel_rfl) HX9.out ?_
  repeat (refine wpQuiet_step (fun K hK => ?_); go_simp; first | (refine hK _ ?_; clear hK K) | (apply Exists.intro; refine ⟨fun wx hC => ?_, hK _ ?_⟩; (first | exact rfl | ((with_reducible refine Calls.class_of (HTa.out wx) ?_); exact fun w' hb => LM.next hC hb) | ((with_reducible refine Calls.class_of (HTb.out wx) ?_); exact fun w' hb => LM.next hC hb) | ((with_reducible refine Calls.class_of (HI.out wx (HT.out.next hC.bel)) ?_); exact fun w' hb => LM.next hC hb) | (obtain ⟨a0, a1, a2, a3⟩ := hC.1.cells; go_simp; exact rfl) | (obtain ⟨a0, a1, a2, a3⟩ := hC.2.1.cells; go_simp; exact rfl)); clear hK K))
  refine wpQuiet_nil ?_
  intro u5 hC5
  have HB5 : Hid (Below w.heap.size w u5) := hC5.2.2
  clear hC5 HX9 HI HL3 HTa HTb
  go_wp2
  go_ret
  exact ⟨rfl, HB5.out⟩
end Go.Proofs.YtmndemegiimagasDoor
