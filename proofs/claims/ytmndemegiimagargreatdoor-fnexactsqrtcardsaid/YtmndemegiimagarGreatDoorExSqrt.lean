/-
  FnExactSqrt: the law's own walk.
-/
import Derived.Test.YtmndemegiimagarGreatDoorExn
import Derived.Test.YtmndemegiimagarGreatDoorSqi
import Derived.Test.YtmndemegiimagarGreatDoorSqs
namespace Go.Proofs.YtmndemegiimagarGreatDoor
open Go.RowKit
set_option linter.unusedVariables false
set_option maxRecDepth 100000
set_option maxRecDepth 100000 in
set_option maxHeartbeats 2000000 in
theorem exSqrt_any (f mode : Int) (ka : Int) (na : Bool) (ea : Int) (sa : ByteArray) (w : World) (hma : sa.size ≤ 9223372036854775807) :
    Calls Tryz.prog 8 #[.int .i64 f, .int .i64 mode, numV ka na ea sa] w fun r w' => r = .returned (.bool true) ∧ Below w.heap.size w w' := by
  have HL : Hid (At4l (w.alloc (.cells #[.int .i64 ka, .bool na, .int .i64 ea, .string sa] 23)) w.heap.size (.int .i64 ka) (.bool na) (.int .i64 ea) (.string sa) ∧ Below w.heap.size w (w.alloc (.cells #[.int .i64 ka, .bool na, .int .i64 ea, .string sa] 23))) := ⟨(MapKept.heap_alloc w _).1, (Below.refl _ _).alloc (Nat.le_refl _) _⟩
  by_cases h1 : (sa.size : Int) ≤ 1048576
  case neg =>
    have HZ : Hid (∀ X, Calls Tryz.prog 9 #[numV ka na ea sa, .int .i64 1048576] X fun r w' => r = .returned (.int .i64 (-1)) ∧ Below X.heap.size X w') := fun X => szNum_no ka na ea sa 1048576 X (by decide) (by decide) hma (by omega)
    clear hma h1
    go_enter Tryz.func8, Tryz.ntmps8
    go_wp2_with fail
    refine (HZ.out _).mono ?_
    rintro r u1 ⟨rfl, hb1⟩
    have HB1 := HL.out.2.trans (hb1.mono HL.out.2.size)
    clear hb1 HL HZ
    go_wp2
    go_ret
    exact ⟨rfl, HB1⟩
  have HZ1 : Hid (∀ X, Calls Tryz.prog 9 #[numV ka na ea sa, .int .i64 1048576] X fun r w' => r = .returned (.int .i64 (1048576 - sa.size)) ∧ Below X.heap.size X w') := fun X => szNum_yes ka na ea sa 1048576 X (by decide) (by decide) hma h1
  have hs1 : ¬ (1048576 - (sa.size : Int)) < 0 := by omega
  obtain ⟨S, zz, hS⟩ := sq_some f ea sa
  have HTa : Hid (∀ X, Calls Tryz.prog 11 #[numV ka na ea sa] X fun r w' => r = .returned (numV ka na ea sa) ∧ Below X.heap.size X w') := fun X => toNum_any ka na ea sa X
  have HS : Hid (∀ X, Calls Tryz.prog 22 #[.int .i64 f, .int .i64 mode, numV ka na ea sa] X fun r w' => r = .returned (rsD (sqR f mode ka na ea sa S zz).1 (sqR f mode ka na ea sa S zz).2) ∧ Below X.heap.size X w') := fun X => sSqrt_any f mode ka na ea sa S zz X (by omega) hS
  have HI : Hid (∀ X, Calls Tryz.prog 23 #[.int .i64 f, .int .i64 mode, numV ka na ea sa] X fun r w' => r = .returned (rsD (sqR f mode ka na ea sa S zz).1 (sqR f mode ka na ea sa S zz).2) ∧ Below X.heap.size X w') := fun X => iSqrt_any f mode ka na ea sa S zz X (by omega) hS
  generalize sqR f mode ka na ea sa S zz = R at *
  obtain ⟨R0, F1, F2, F3, F4⟩ := R
  have HEq : Hid (∀ X, Calls Tryz.prog 13 #[resV F1 R0 F2 F3 F4, resV F1 R0 F2 F3 F4] X fun r w' => r = .returned (.bool true) ∧ Below X.heap.size X w') := fun X => eqResult_same F1 R0 F2 F3 F4 X
  clear hma h1 hS
  generalize 1048576 - (sa.size : Int) = L1 at *
  go_enter Tryz.func8, Tryz.ntmps8
  go_wp2_with fail
  refine (HZ1.out _).mono ?_
  rintro r u1 ⟨rfl, hb1⟩
  have HL1 : Hid (At4l u1 w.heap.size (.int .i64 ka) (.bool na) (.int .i64 ea) (.string sa) ∧ Below w.heap.size w u1) := ⟨HL.out.1.below hb1 HL.out.1.lt, HL.out.2.trans (hb1.mono HL.out.2.size)⟩
  obtain ⟨c0, c1, c2, c3⟩ := HL1.out.1.cells
  clear hb1 HL HZ1
  go_wp2_with fail
  refine (HTa.out _).mono ?_
  rintro r u2 ⟨rfl, hb2⟩
  have HL2 : Hid (At4l u2 w.heap.size (.int .i64 ka) (.bool na) (.int .i64 ea) (.string sa) ∧ Below w.heap.size w u2) := ⟨HL1.out.1.below hb2 HL1.out.1.lt, HL1.out.2.trans (hb2.mono HL1.out.2.size)⟩
  clear hb2 HL1 c0 c1 c2 c3
  go_wp2_with fail
  refine (HS.out _).mono ?_
  rintro r u3 ⟨rfl, hb3⟩
  have hL3 : At4l u3 w.heap.size (.int .i64 ka) (.bool na) (.int .i64 ea) (.string sa) ∧ Below w.heap.size w u3 := ⟨HL2.out.1.below hb3 HL2.out.1.lt, HL2.out.2.trans (hb3.mono HL2.out.2.size)⟩
  have hba : Below u3.heap.size u3 (u3.alloc (.cells #[.int .i64 F1, .bool R0, .int .i64 F2, .string F3, .int .i64 F4] 27)) := (Below.refl _ _).alloc (Nat.le_refl _) _
  have HL4 : Hid (At4l (u3.alloc (.cells #[.int .i64 F1, .bool R0, .int .i64 F2, .string F3, .int .i64 F4] 27)) w.heap.size (.int .i64 ka) (.bool na) (.int .i64 ea) (.string sa) ∧ Below w.heap.size w (u3.alloc (.cells #[.int .i64 F1, .bool R0, .int .i64 F2, .string F3, .int .i64 F4] 27)) ∧ At5 (u3.alloc (.cells #[.int .i64 F1, .bool R0, .int .i64 F2, .string F3, .int .i64 F4] 27)) u3.heap.size (.int .i64 F1) (.bool R0) (.int .i64 F2) (.string F3) (.int .i64 F4)) := ⟨hL3.1.below hba hL3.1.lt, hL3.2.trans (hba.mono hL3.2.size), at5_new u3 _ _ _ _ _⟩
  obtain ⟨c0, c1, c2, c3⟩ := HL4.out.1.cells
  clear hb3 HL2 HS hL3 hba
  go_wp2_with fail
  refine (HTa.out _).mono ?_
  rintro r u5 ⟨rfl, hb5⟩
  have HL5 : Hid (Below w.heap.size w u5 ∧ At5 u5 u3.heap.size (.int .i64 F1) (.bool R0) (.int .i64 F2) (.string F3) (.int .i64 F4)) := ⟨HL4.out.2.1.trans (hb5.mono HL4.out.2.1.size), HL4.out.2.2.below hb5 HL4.out.2.2.lt⟩
  clear hb5 HL4 HTa c0 c1 c2 c3
  generalize u3.heap.size = p1 at *
  go_wp2_with fail
  refine (HI.out _).mono ?_
  rintro r u6 ⟨rfl, hb6⟩
  have hL6 : Below w.heap.size w u6 ∧ At5 u6 p1 (.int .i64 F1) (.bool R0) (.int .i64 F2) (.string F3) (.int .i64 F4) := ⟨HL5.out.1.trans (hb6.mono HL5.out.1.size), HL5.out.2.below hb6 HL5.out.2.lt⟩
  have hbb : Below u6.heap.size u6 (u6.alloc (.cells #[.int .i64 F1, .bool R0, .int .i64 F2, .string F3, .int .i64 F4] 27)) := (Below.refl _ _).alloc (Nat.le_refl _) _
  have HL7 : Hid (Below w.heap.size w (u6.alloc (.cells #[.int .i64 F1, .bool R0, .int .i64 F2, .string F3, .int .i64 F4] 27)) ∧ At5 (u6.alloc (.cells #[.int .i64 F1, .bool R0, .int .i64 F2, .string F3, .int .i64 F4] 27)) p1 (.int .i64 F1) (.bool R0) (.int .i64 F2) (.string F3) (.int .i64 F4) ∧ At5 (u6.alloc (.cells #[.int .i64 F1, .bool R0, .int .i64 F2, .string F3, .int .i64 F4] 27)) u6.heap.size (.int .i64 F1) (.bool R0) (.int .i64 F2) (.string F3) (.int .i64 F4)) := ⟨hL6.1.trans (hbb.mono hL6.1.size), hL6.2.below hbb hL6.2.lt, at5_new u6 _ _ _ _ _⟩
  obtain ⟨a0, a1, a2, a3, a4, -⟩ := HL7.out.2.1.cells
  obtain ⟨c0, c1, c2, c3, c4, -⟩ := HL7.out.2.2.cells
  clear hb6 HL5 HI hL6 hbb
  go_wp2_with fail
  refine (HEq.out _).mono ?_
  rintro r u8 ⟨rfl, hb8⟩
  have HB8 := HL7.out.1.trans (hb8.mono HL7.out.1.size)
  clear hb8 HL7 HEq a0 a1 a2 a3 a4 c0 c1 c2 c3 c4
  go_wp2
  go_ret
  exact ⟨rfl, HB8⟩
end Go.Proofs.YtmndemegiimagarGreatDoor
