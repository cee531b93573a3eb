/-
  Root of the program answers as Root of its model, whatever the number and how many digits are asked for behind the point, and its answer is memory of its own: what is written there stays, behind another call too.
-/
import Derived.Test.YtlbkhiphnllfpamRows
import Derived.WalkKit
import Derived.ProofKit
import Derived.OpenShut
import Derived.ShutString
import Derived.ChangeOld
import Derived.Below
import Derived.Test.YtlbkhiphnllfpamRos
namespace Go.Proofs.Ytlbkhiphnllfpam.fnExactRoot
open Go.ChangeShapes Go.WideShapes Go.ChangeAt Go.RowKit
open Go.ChangeMaps (open_string shut_string)
set_option linter.unusedVariables false      -- a walk need not use every 'w<i>' (that an integer argument fits its kind)

theorem own : ownKnob Try.prog.godebug = none := by kernel_rfl

theorem walk (a0 : Int) (a1 : Int) (w0 : (Lit.int .i64 a0).wf = true) (w1 : (Lit.int .i64 a1).wf = true) (w : World) :
    Calls Try.prog 7 #[.int .i64 a0, .int .i64 a1] w fun e w' => e = .returned (.bool true) ∧ Below w.heap.size w w' := by
  have b0 : -9223372036854775808 ≤ a0 ∧ a0 ≤ 9223372036854775807 := by simp only [Lit.wf, IntKind.min, IntKind.max, IntKind.signed, IntKind.bits, Bool.and_eq_true, decide_eq_true_eq, if_true] at w0; omega
  have b1 : -9223372036854775808 ≤ a1 ∧ a1 ≤ 9223372036854775807 := by simp only [Lit.wf, IntKind.min, IntKind.max, IntKind.signed, IntKind.bits, Bool.and_eq_true, decide_eq_true_eq, if_true] at w1; omega
  have Hs : Hid (∀ W, Calls Try.prog 25 #[.int .i64 a0, .int .i64 a1] W fun e w' => ∃ u, e = .returned (.tuple #[u, .int .i64 (rtR a0 a1), .bool (rok a0 a1)]) ∧ Has w' W.heap.size u (rtL a0 a1) ∧ Below W.heap.size W w') := fun W => sRoot_any a0 a1 W
  have Hi : Hid (∀ W, Calls Try.prog 26 #[.int .i64 a0, .int .i64 a1] W fun e w' => ∃ u, e = .returned (.tuple #[u, .int .i64 (rtR a0 a1), .bool (rok a0 a1)]) ∧ Has w' W.heap.size u (rtL a0 a1) ∧ Below W.heap.size W w') := fun W => iRoot_any a0 a1 W b0 b1
  have hD : (rtL a0 a1).length ≤ 8 := rtL_len a0 a1
  clear b0 b1
  generalize rtL a0 a1 = D at *
  generalize rtR a0 a1 = R at *
  generalize rok a0 a1 = b at *
  go_enter Try.func7, Try.ntmps7
  go_wp2_with fail
  refine (Hs.out _).mono ?_
  rintro e w1 ⟨v0, rfl, hv0, hb1⟩
  have hs1 := hb1.size
  go_wp2_with fail
  refine (Hi.out _).mono ?_
  rintro e w2 ⟨v1, rfl, hv1, hb2⟩
  have hs2 := hb2.size
  go_wp2_with fail
  refine (eq_same _ _ D _ _ _ hv1 (hv0.below hb2 (Nat.le_refl _))).mono ?_
  rintro e w3 ⟨rfl, hb3⟩
  have hs3 := hb3.size
  have hb13 : Below w1.heap.size w1 w3 := hb2.trans (hb3.mono hs2)
  have hv3 := hv1.below hb3 (Nat.le_refl _)
  clear hv1 hb2 hb3
  go_wp2_with fail
  refine (mark_any _ D 1 _ _ hv3 (by decide) (by omega)).mono ?_
  rintro e w4 ⟨rfl, hv4, hb4⟩
  have hs4 := hb4.size
  have hheld : ∀ i, i < (marked 1 D D.length).length → (marked 1 D D.length).getD i 0 = 1 + i := fun i hi => by
    rw [marked_length] at hi; exact marked_at 1 D D.length i hi hi
  have hml : (marked 1 D D.length).length = D.length := marked_length 1 D D.length
  generalize marked 1 D D.length = M at *
  have HM : Hid (∀ i, i < M.length → M.getD i 0 = 1 + i) := hheld
  clear hheld
  have hb14 : Below w1.heap.size w1 w4 := hb13.trans hb4
  go_wp2_with fail
  refine (held_any _ M 1 _ _ hv4 (by decide) (by omega) HM.out).mono ?_
  rintro e w' ⟨rfl, hw⟩
  obtain rfl := hw.symm
  rw [hml]
  go_wp2_with fail
  refine (Hi.out _).mono ?_
  rintro e w5 ⟨v2, rfl, hv2, hb5⟩
  have hs5 := hb5.size
  have hb15 : Below w1.heap.size w1 w5 := hb14.trans (hb5.mono (by omega))
  go_wp2_with fail
  refine (eq_same _ _ D _ _ _ hv2 (hv0.below hb15 (Nat.le_refl _))).mono ?_
  rintro e w6 ⟨rfl, hb6⟩
  have hs6 := hb6.size
  have hv6 := (hv4.below hb5 (Nat.le_refl _)).below hb6 (Nat.le_refl _)
  go_wp2_with fail
  refine (held_any _ M 1 _ _ hv6 (by decide) (by omega) HM.out).mono ?_
  rintro e w' ⟨rfl, hw⟩
  obtain rfl := hw.symm
  rw [hml]
  go_wp2
  go_ret
  exact ⟨rfl, hb1.trans ((hb15.trans (hb6.mono (by omega))).mono hs1)⟩

/-! ### THE ROW's STEP: WRITTEN OUT: LEAVE IT -/
set_option maxRecDepth 100000 in
theorem lifted (os : Os) (started : os.Started) (H : Type) (enc : TypeId × Value → H) :
    ReturnsInHanded {} Try.checked os 7 .any (Rows.fnExactRootSpec.pre6 enc Try.prog Try.f7 Rows.fnExactRootRow.domain false) (Rows.fnExactRootSpec.post enc Try.prog Try.f7 false true false false) := by
  refine returnsInHanded_of_change (C := Try.checked) own started (by kernel_rfl) Try.func7
    (ChangeSpec.witness6 (enc := enc) (C := Try.checked) false ⟨#[], #[.int .i64 0, .int .i64 0], []⟩ 8 (by kernel_rfl) (by kernel_rfl) (by kernel_rfl) (by kernel_rfl)) ?_
  intro W base args ds gs before hval0 hW hcnd _
  have hval : ∀ (j : Nat) t v, Try.f7.params[j]? = some t → args[j]? = some v → Value.okWide Try.prog W .any base t v := hval0
  have hW' := hW
  obtain ⟨p, q, hA0, hV, rfl, hfz, hnd⟩ := hW
  have hA : DataW.TrodAll enc Try.prog W 0 (fun _ => true) true Try.f7.params.toList args.toList ds p := hA0
  rw [Try.params7] at hA hval
  obtain ⟨v0, vs0, d0, ds0, p0, q0, hargs, rfl, rfl, h0, r0⟩ := trodAll_cons hA
  obtain ⟨v1, vs1, d1, ds1, p1, q1, rfl, rfl, rfl, h1, r1⟩ := trodAll_cons r0
  obtain ⟨rfl, rfl, rfl⟩ := trodAll_nil r1
  obtain rfl : args = #[v0, v1] := by cases args; simp_all
  obtain ⟨rfl, rfl⟩ := trodVars_none hV
  obtain ⟨a0, rfl, rfl, rfl, w0⟩ := open_int Try.underlying2 (hval 0 2 v0 rfl rfl) h0
  obtain ⟨a1, rfl, rfl, rfl, w1⟩ := open_int Try.underlying2 (hval 1 2 v1 rfl rfl) h1
  clear hA0 hval0
  simp only [List.append_nil] at hW'
  refine (walk a0 a1 w0 w1 W).mono fun e W' ⟨he, hg⟩ => ?_
  subst he
  exact ⟨_, rfl, _, _, _, [], _, [], hW', (trodAll_cons_mk (shut_bool Try.underlying4 _) trodAll_mk0), (trodAll_cons_mk (shut_int Try.underlying2 w0) (trodAll_cons_mk (shut_int Try.underlying2 w1) trodAll_mk0)), rfl, hg.frame _, fun h => by cases h⟩

theorem over : Rows.fnExactRootRow.holds Try.pinned (OpenSpec.ofChange Rows.fnExactRootSpec) :=
  OpenClaim.holds_of_wide 7 Try.f7 rfl rfl rfl rfl rfl rfl rfl ⟨rfl, rfl, rfl, rfl, rfl⟩ rfl rfl rfl rfl rfl (by kernel_rfl) Try.func7 (by kernel_rfl)
    (of_decide_eq_true (by kernel_rfl)) (by unfold Func.isWrapper; first | (rw [if_pos (by decide +kernel)]; kernel_rfl) | (rw [if_neg (by decide +kernel)]; exact ⟨rfl, rfl⟩))
    (fun os started H enc _ => lifted os started H enc)

/-- ████ THE STATEMENT ████ -/
theorem proved : Rows.FnExactRootSaid :=
  over
#print axioms proved
end Go.Proofs.Ytlbkhiphnllfpam.fnExactRoot
namespace Go.Proofs.Ytlbkhiphnllfpam
/-- The given statement. -/
theorem fnExactRoot_holds : Rows.FnExactRootSaid := fnExactRoot.proved
end Go.Proofs.Ytlbkhiphnllfpam
