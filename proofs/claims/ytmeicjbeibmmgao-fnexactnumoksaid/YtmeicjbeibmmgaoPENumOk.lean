/-
  NumOk of the program answers as NumOk of its model, whatever the format and the number.
-/
import Derived.Test.YtmeicjbeibmmgaoRows
import Derived.WalkKit
import Derived.ProofKit
import Derived.OpenShut
import Derived.ShutString
import Derived.ChangeOld
import Derived.Below
import Derived.Test.YtmeicjbeibmmgaoIsR2
import Derived.Test.YtmeicjbeibmmgaoNumL
namespace Go.Proofs.Ytmeicjbeibmmgao.fnExactNumOk
open Go.ChangeShapes Go.WideShapes Go.ChangeAt Go.RowKit
open Go.ChangeMaps (open_string shut_string)
set_option linter.unusedVariables false

theorem own : ownKnob Try.prog.godebug = none := by kernel_rfl
theorem laidOut : laidOutB Try.prog = true := by kernel_rfl

/-- WHAT THE WALK IS TOLD OF A SLICE OF INTEGERS THAT CAME IN: it is nil; or it leads to a row of 'cap' cells, the numbers 'zs' (the first 'len' are its elements, the rest its spare room), each fitting its kind. -/
def IsRow (k : IntKind) (w : World) (a : Option Addr) (len cap : Nat) (zs : List Int) : Prop :=
  (a = none ∧ len = 0 ∧ cap = 0 ∧ zs = []) ∨
  ∃ x, a = some x ∧ len ≤ cap ∧ cap ≤ maxLen ∧ zs.length = cap ∧ (∀ i, i < zs.length → w.cell? (x.add i) = some (.int k (zs.getD i 0))) ∧ ∀ n ∈ zs, (Lit.int k n).wf = true

theorem walk (a0 : Int) (kd1 : Int) (ng1 : Bool) (ex1 : Int) (dg1 : ByteArray) (w : World) (w0 : (Lit.int .i64 a0).wf = true) (w1 : (Lit.int .i64 kd1).wf = true ∧ (Lit.int .i64 ex1).wf = true ∧ dg1.size ≤ maxLen) :
    Calls Try.prog 3 #[.int .i64 a0, numV kd1 ng1 ex1 dg1] w fun e w' => e = .returned (.bool true) ∧ Below w.heap.size w w' := by
  have hm : dg1.size ≤ 9223372036854775807 := by have := w1.2.2; unfold maxLen at this; omega
  generalize kd1 = K at *
  generalize ng1 = B at *
  generalize ex1 = E at *
  generalize dg1 = S at *
  have HX0 : Hid (Below (w.heap.size + 1) (nbl w K B E S) (nbl w K B E S)) := Below.refl _ _
  obtain ⟨c0, c1, c2, c3⟩ := nbl_cells HX0.out
  by_cases hs : (S.size : Int) ≤ 1048576
  case neg =>
    have HZ : Hid (∀ X, Calls Try.prog 4 #[numV K B E S, .int .i64 1048576] X fun r w' => r = .returned (.int .i64 (-1)) ∧ Below X.heap.size X w') := fun X => szNum_no K B E S 1048576 X (by decide) (by decide) hm (by omega)
    clear w1 hm hs
    go_enter Try.func3, Try.ntmps3
    go_wp2_with fail
    refine (HZ.out _).mono ?_
    rintro r u1 ⟨rfl, hb1⟩
    have HX1 : Hid (Below (w.heap.size + 1) (nbl w K B E S) u1) := nbl_next HX0.out hb1
    clear hb1 HX0 c0 c1 c2 c3
    go_wp2
    go_ret
    exact ⟨rfl, nbl_out HX1.out⟩
  have HZ : Hid (∀ X, Calls Try.prog 4 #[numV K B E S, .int .i64 1048576] X fun r w' => r = .returned (.int .i64 (1048576 - S.size)) ∧ Below X.heap.size X w') := fun X => szNum_yes K B E S 1048576 X (by decide) (by decide) hm hs
  have HTo : Hid (∀ X, Calls Try.prog 6 #[numV K B E S] X fun r w' => r = .returned (numV K B E S) ∧ Below X.heap.size X w') := fun X => toNum_any K B E S X
  have hs2 : S.size ≤ 4611686018427387904 := by omega
  have hs3 : ¬ (1048576 - (S.size : Int)) < 0 := by omega
  have HS : Hid (∀ X, Calls Try.prog 5 #[.int .i64 a0, numV K B E S] X fun r w' => r = .returned (.bool (numB a0 K B E S)) ∧ Below X.heap.size X w') := fun X => sNumOk_any a0 K B E S X hs2
  have HI : Hid (∀ X, Calls Try.prog 7 #[.int .i64 a0, numV K B E S] X fun r w' => r = .returned (.bool (numB a0 K B E S)) ∧ Below X.heap.size X w') := fun X => iNumOk_any a0 K B E S X hs2
  generalize numB a0 K B E S = R at *
  clear w1 hm hs hs2
  go_enter Try.func3, Try.ntmps3
  go_wp2_with fail
  refine (HZ.out _).mono ?_
  rintro r u1 ⟨rfl, hb1⟩
  have HX1 : Hid (Below (w.heap.size + 1) (nbl w K B E S) u1) := nbl_next HX0.out hb1
  clear hb1 HX0 c0 c1 c2 c3
  obtain ⟨c0, c1, c2, c3⟩ := nbl_cells HX1.out
  go_wp2_with fail
  refine (HTo.out _).mono ?_
  rintro r u2 ⟨rfl, hb2⟩
  have HX2 : Hid (Below (w.heap.size + 1) (nbl w K B E S) u2) := nbl_next HX1.out hb2
  clear hb2 HX1 c0 c1 c2 c3
  obtain ⟨c0, c1, c2, c3⟩ := nbl_cells HX2.out
  go_wp2_with fail
  refine (HS.out _).mono ?_
  rintro r u3 ⟨rfl, hb3⟩
  have HX3 : Hid (Below (w.heap.size + 1) (nbl w K B E S) u3) := nbl_next HX2.out hb3
  clear hb3 HX2 c0 c1 c2 c3
  obtain ⟨c0, c1, c2, c3⟩ := nbl_cells HX3.out
  go_wp2_with fail
  refine (HTo.out _).mono ?_
  rintro r u4 ⟨rfl, hb4⟩
  have HX4 : Hid (Below (w.heap.size + 1) (nbl w K B E S) u4) := nbl_next HX3.out hb4
  clear hb4 HX3 c0 c1 c2 c3
  obtain ⟨c0, c1, c2, c3⟩ := nbl_cells HX4.out
  go_wp2_with fail
  refine (HI.out _).mono ?_
  rintro r u5 ⟨rfl, hb5⟩
  have HX5 : Hid (Below (w.heap.size + 1) (nbl w K B E S) u5) := nbl_next HX4.out hb5
  clear hb5 HX4 c0 c1 c2 c3
  obtain ⟨c0, c1, c2, c3⟩ := nbl_cells HX5.out
  go_wp2
  go_ret
  exact ⟨rfl, nbl_out HX5.out⟩

/-! ### THE ROW's STEP: WRITTEN OUT: LEAVE IT -/
set_option maxRecDepth 100000 in
theorem lifted (os : Os) (started : os.Started) (H : Type) (enc : TypeId × Value → H) :
    ReturnsInHanded {} Try.checked os 3 .any (Rows.fnExactNumOkSpec.pre6 enc Try.prog Try.f3 Rows.fnExactNumOkRow.domain false) (Rows.fnExactNumOkSpec.post enc Try.prog Try.f3 false true false false) := by
  refine returnsInHanded_of_change (C := Try.checked) own started (by kernel_rfl) Try.func3
    (ChangeSpec.witness6 (enc := enc) (C := Try.checked) false ⟨#[], #[.int .i64 0, .agg #[.int .i64 0, .bool false, .int .i64 0, .string ⟨#[]⟩]], []⟩ 8 (by kernel_rfl) (by kernel_rfl) (by kernel_rfl) (by kernel_rfl)) ?_
  intro W base args ds gs before hval0 hW hcnd _
  have hval : ∀ (j : Nat) t v, Try.f3.params[j]? = some t → args[j]? = some v → Value.okWide Try.prog W .any base t v := hval0
  have hW' := hW
  obtain ⟨p, q, hA0, hV, rfl, hfz, hnd⟩ := hW
  have hA : DataW.TrodAll enc Try.prog W 0 (fun _ => true) true Try.f3.params.toList args.toList ds p := hA0
  rw [Try.params3] at hA hval
  obtain ⟨v0, vs0, d0, ds0, p0, q0, hargs, rfl, rfl, h0, r0⟩ := trodAll_cons hA
  obtain ⟨v1, vs1, d1, ds1, p1, q1, rfl, rfl, rfl, h1, r1⟩ := trodAll_cons r0
  obtain ⟨rfl, rfl, rfl⟩ := trodAll_nil r1
  obtain rfl : args = #[v0, v1] := by cases args; simp_all
  obtain ⟨rfl, rfl⟩ := trodVars_none hV
  obtain ⟨a0, rfl, rfl, rfl, w0⟩ := open_int Try.underlying2 (hval 0 2 v0 rfl rfl) h0
  have k1 := h1
  have lt1 : ∀ x ∈ p1, x.block < W.heap.size := by obtain ⟨m, hm⟩ := k1; exact DataW.trod_lt m _ _ _ hm
  obtain ⟨kd1, ng1, ex1, dg1, rfl, w1⟩ := open_num (hval 1 23 v1 rfl rfl) h1
  clear hA0 hval0
  refine (walk a0 kd1 ng1 ex1 dg1 W w0 w1).mono fun e W' ⟨he, bel⟩ => ?_
  subst he
  exact ⟨_, rfl, _, _, _, [], _, [], hW', trodAll_mk1 (shut_bool Try.underlying4 _), (trodAll_cons_mk (shut_int Try.underlying2 w0) (trodAll_cons_mk (Below.trod laidOut (by kernel_rfl) (of_decide_eq_true (by kernel_rfl)) k1 bel lt1) trodAll_mk0)), rfl, bel.frame _, fun h => by cases h⟩

theorem over : Rows.fnExactNumOkRow.holds Try.pinned (OpenSpec.ofChange Rows.fnExactNumOkSpec) :=
  OpenClaim.holds_of_wide 3 Try.f3 rfl rfl rfl rfl rfl rfl rfl ⟨rfl, rfl, rfl, rfl, rfl⟩ rfl rfl rfl rfl rfl (by kernel_rfl) Try.func3 (by kernel_rfl)
    (of_decide_eq_true (by kernel_rfl)) (by unfold Func.isWrapper; first | (rw [if_pos (by decide +kernel)]; kernel_rfl) | (rw [if_neg (by decide +kernel)]; exact ⟨rfl, rfl⟩))
    (fun os started H enc _ => lifted os started H enc)

/-- ████ THE STATEMENT ████ -/
theorem proved : Rows.FnExactNumOkSaid := over
#print axioms proved
end Go.Proofs.Ytmeicjbeibmmgao.fnExactNumOk
namespace Go.Proofs.Ytmeicjbeibmmgao
/-- The given statement. -/
theorem fnExactNumOk_holds : Rows.FnExactNumOkSaid := fnExactNumOk.proved
end Go.Proofs.Ytmeicjbeibmmgao
