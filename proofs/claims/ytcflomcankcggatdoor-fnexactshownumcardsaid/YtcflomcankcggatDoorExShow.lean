/-
  FnExactShowNum: the law's own walk.
-/
import Derived.Test.YtcflomcankcggatDoorShc
import Derived.Test.YtcflomcankcggatDoorNumL
namespace Go.Proofs.YtcflomcankcggatDoor
open Go.RowKit
set_option linter.unusedVariables false
set_option maxRecDepth 100000
set_option maxRecDepth 100000 in
theorem exShowNum_any (K : Int) (B : Bool) (E : Int) (S : ByteArray) (w : World) (hm : S.size ≤ 9223372036854775807) (ht : PTab w) :
    Calls Tryd.prog 3 #[numV K B E S] w fun r w' => r = .returned (.bool true) ∧ Below w.heap.size w w' := by
  have HT : Hid (PTab w) := ht
  clear ht
  have HX0 : Hid (Below (w.heap.size + 1) (nbl w K B E S) (nbl w K B E S)) := Below.refl _ _
  obtain ⟨c0, c1, c2, c3⟩ := nbl_cells HX0.out
  by_cases hs : (S.size : Int) ≤ 1048576
  case neg =>
    have HZ : Hid (∀ X, Calls Tryd.prog 5 #[numV K B E S, .int .i64 1048576] X fun r w' => r = .returned (.int .i64 (-1)) ∧ Below X.heap.size X w') := fun X => szNum_no K B E S 1048576 X (by decide) (by decide) hm (by omega)
    clear hm hs
    go_enter Tryd.func3, Tryd.ntmps3
    go_wp2_with fail
    refine (HZ.out _).mono ?_
    rintro r u1 ⟨rfl, hb1⟩
    have HX1 : Hid (Below (w.heap.size + 1) (nbl w K B E S) u1) := nbl_next HX0.out hb1
    clear hb1 HX0 c0 c1 c2 c3
    go_wp2
    go_ret
    exact ⟨rfl, nbl_out HX1.out⟩
  have HZ : Hid (∀ X, Calls Tryd.prog 5 #[numV K B E S, .int .i64 1048576] X fun r w' => r = .returned (.int .i64 (1048576 - S.size)) ∧ Below X.heap.size X w') := fun X => szNum_yes K B E S 1048576 X (by decide) (by decide) hm hs
  have HTo : Hid (∀ X, Calls Tryd.prog 7 #[numV K B E S] X fun r w' => r = .returned (numV K B E S) ∧ Below X.heap.size X w') := fun X => toNum_any K B E S X
  have hs2 : S.size ≤ 4611686018427387904 := by omega
  have hs3 : ¬ (1048576 - (S.size : Int)) < 0 := by omega
  have HS : Hid (∀ X, Calls Tryd.prog 6 #[numV K B E S] X fun r w' => r = .returned (.string (shT K B E S)) ∧ Below X.heap.size X w') := fun X => sShowNum_any K B E S X hs2
  have HI : Hid (∀ X, PTab X → Calls Tryd.prog 8 #[numV K B E S] X fun r w' => r = .returned (.string (shT K B E S)) ∧ Below X.heap.size X w') := fun X q => iShowNum_any K B E S X hs2 q
  generalize shT K B E S = R at *
  clear hm hs hs2
  go_enter Tryd.func3, Tryd.ntmps3
  go_wp2_with fail
  refine (HZ.out _).mono ?_
  rintro r u1 ⟨rfl, hb1⟩
  have HX1 : Hid (Below (w.heap.size + 1) (nbl w K B E S) u1) := nbl_next HX0.out hb1
  clear hb1 HX0 c0 c1 c2 c3
  obtain ⟨c0, c1, c2, c3⟩ := nbl_cells HX1.out
  go_wp2_with fail
  refine (HTo.out _).mono ?_
  rintro r u2 ⟨rfl, hb2⟩
  have HX2 : Hid (Below (w.heap.size + 1) (nbl w K B E S) u2) := nbl_next HX1.out hb2
  clear hb2 HX1 c0 c1 c2 c3
  obtain ⟨c0, c1, c2, c3⟩ := nbl_cells HX2.out
  go_wp2_with fail
  refine (HS.out _).mono ?_
  rintro r u3 ⟨rfl, hb3⟩
  have HX3 : Hid (Below (w.heap.size + 1) (nbl w K B E S) u3) := nbl_next HX2.out hb3
  clear hb3 HX2 c0 c1 c2 c3
  obtain ⟨c0, c1, c2, c3⟩ := nbl_cells HX3.out
  go_wp2_with fail
  refine (HTo.out _).mono ?_
  rintro r u4 ⟨rfl, hb4⟩
  have HX4 : Hid (Below (w.heap.size + 1) (nbl w K B E S) u4) := nbl_next HX3.out hb4
  clear hb4 HX3 c0 c1 c2 c3
  obtain ⟨c0, c1, c2, c3⟩ := nbl_cells HX4.out
  go_wp2_with fail
  refine (HI.out _ (HT.out.next (nbl_out HX4.out))).mono ?_
  rintro r u5 ⟨rfl, hb5⟩
  have HX5 : Hid (Below (w.heap.size + 1) (nbl w K B E S) u5) := nbl_next HX4.out hb5
  clear hb5 HX4 c0 c1 c2 c3
  obtain ⟨c0, c1, c2, c3⟩ := nbl_cells HX5.out
  go_wp2
  go_ret
  exact ⟨rfl, nbl_out HX5.out⟩
end Go.Proofs.YtcflomcankcggatDoor
