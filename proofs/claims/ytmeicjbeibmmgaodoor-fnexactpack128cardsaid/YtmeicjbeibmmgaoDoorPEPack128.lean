/-
  Pack128 of the program answers as Pack128 of its model, whatever the number.
  The card ties the listed package-level variables to the program's text, in the pruned copy that the seat holds; it says nothing of the project's other packages, commands or tests.
-/
import Derived.Test.YtmeicjbeibmmgaoDoorCards
import Derived.Test.YtmeicjbeibmmgaoDoorTie
import Derived.WalkKit
import Derived.ProofKit
import Derived.OpenShut
import Derived.ShutString
import Derived.ChangeOld
import Derived.Below
import Derived.OpenVars
import Derived.LaidMore
import Derived.Stop.Joined
import Derived.Test.YtmeicjbeibmmgaoDoorPkm
import Derived.Test.YtmeicjbeibmmgaoDoorWdL
import Derived.Test.YtmeicjbeibmmgaoDoorDoor2
namespace Go.Proofs.YtmeicjbeibmmgaoDoor.fnExactPack128
open Go.ChangeShapes Go.WideShapes Go.ChangeAt Go.RowKit
set_option linter.unusedVariables false

theorem walk (kd0 : Int) (ng0 : Bool) (ex0 : Int) (dg0 : ByteArray) (w : World) (w0 : (Lit.int .i64 kd0).wf = true ∧ (Lit.int .i64 ex0).wf = true ∧ dg0.size ≤ maxLen) (ht : Tabs w) :
    Calls Tryd.prog 4 #[numV kd0 ng0 ex0 dg0] w fun e w' => e = .returned (.bool true) ∧ Below w.heap.size w w' := by
  have HT : Hid (Tabs w) := ht
  clear ht
  have hm : dg0.size ≤ 9223372036854775807 := by have := w0.2.2; unfold maxLen at this; omega
  generalize kd0 = K at *
  generalize ng0 = B at *
  generalize ex0 = E at *
  generalize dg0 = S at *
  have HX0 : Hid (Below (w.heap.size + 1) (nbl w K B E S) (nbl w K B E S)) := Below.refl _ _
  obtain ⟨c0, c1, c2, c3⟩ := nbl_cells HX0.out
  by_cases hs : (S.size : Int) ≤ 1048576
  case neg =>
    have HZ : Hid (∀ X, Calls Tryd.prog 8 #[numV K B E S, .int .i64 1048576] X fun r w' => r = .returned (.int .i64 (-1)) ∧ Below X.heap.size X w') := fun X => szNum_no K B E S 1048576 X (by decide) (by decide) hm (by omega)
    clear w0 hm hs
    go_enter Tryd.func4, Tryd.ntmps4
    go_wp2_with fail
    refine (HZ.out _).mono ?_
    rintro r u1 ⟨rfl, hb1⟩
    have HX1 : Hid (Below (w.heap.size + 1) (nbl w K B E S) u1) := nbl_next HX0.out hb1
    clear hb1 HX0 c0 c1 c2 c3
    go_wp2
    go_ret
    exact ⟨rfl, nbl_out HX1.out⟩
  have HZ : Hid (∀ X, Calls Tryd.prog 8 #[numV K B E S, .int .i64 1048576] X fun r w' => r = .returned (.int .i64 (1048576 - S.size)) ∧ Below X.heap.size X w') := fun X => szNum_yes K B E S 1048576 X (by decide) (by decide) hm hs
  have HTo : Hid (∀ X, Calls Tryd.prog 10 #[numV K B E S] X fun r w' => r = .returned (numV K B E S) ∧ Below X.heap.size X w') := fun X => toNum_any K B E S X
  have hs2 : S.size ≤ 4611686018427387904 := by omega
  have hs3 : ¬ (1048576 - (S.size : Int)) < 0 := by omega
  obtain ⟨Y, Z, c, HS, HI⟩ : ∃ (Y Z : Int) (c : Bool), Hid (∀ X, Calls Tryd.prog 12 #[numV K B E S] X fun x w' => x = .returned (.tuple #[(wpV Y Z), .bool c]) ∧ Below X.heap.size X w') ∧ Hid (∀ X, Below w.heap.size w X → Calls Tryd.prog 13 #[numV K B E S] X fun x w' => x = .returned (.tuple #[(wpV Y Z), .bool c]) ∧ Below X.heap.size X w') := by
    cases hk : numB 128 K B E S with
    | false => exact ⟨0, 0, false, fun X => sPack128_no K B E S X hs2 hk, fun X _ => iPack128_no K B E S X hs2 hk⟩
    | true =>
      obtain ⟨ds, rfl, hR⟩ := numB_right 128 K B E S 12 11 6176 (.inr ⟨rfl, rfl, rfl, rfl⟩) hk
      exact ⟨_, _, true, fun X => sPack128_yes K B E ds X hR, fun X hb => iPack128_yes K B E ds X (HT.out.below hb (Nat.le_refl _)) hR⟩
  clear w0 hm hs hs2 HT
  go_enter Tryd.func4, Tryd.ntmps4
  go_wp2_with fail
  refine (HZ.out _).mono ?_
  rintro r u1 ⟨rfl, hb1⟩
  have HX1 : Hid (Below (w.heap.size + 1) (nbl w K B E S) u1) := nbl_next HX0.out hb1
  clear hb1 HX0 c0 c1 c2 c3
  obtain ⟨c0, c1, c2, c3⟩ := nbl_cells HX1.out
  go_wp2_with fail
  refine (HTo.out _).mono ?_
  rintro r u2 ⟨rfl, hb2⟩
  have HX2 : Hid (Below (w.heap.size + 1) (nbl w K B E S) u2) := nbl_next HX1.out hb2
  clear hb2 HX1 c0 c1 c2 c3
  obtain ⟨c0, c1, c2, c3⟩ := nbl_cells HX2.out
  go_wp2_with fail
  refine (HS.out _).mono ?_
  rintro r u3 ⟨rfl, hb3⟩
  have HX3 : Hid (Below (w.heap.size + 1) (nbl w K B E S) u3) := nbl_next HX2.out hb3
  clear hb3 HX2 c0 c1 c2 c3
  obtain ⟨c0, c1, c2, c3⟩ := nbl_cells HX3.out
  have y0 := al_of c0
  have y1 := al_of c1
  have y2 := al_of c2
  have y3 := al_of c3
  have HXA : Hid (∀ o, Below (w.heap.size + 1) (nbl w K B E S) (u3.alloc o)) := fun o => HX3.out.alloc (by have := HX3.out.size; simpa using this) o
  clear c0 c1 c2 c3 HX3
  go_wp2_with fail
  refine (HTo.out _).mono ?_
  rintro r u4 ⟨rfl, hb4⟩
  have HX4 : Hid (Below (w.heap.size + 1) (nbl w K B E S) u4) := nbl_next (HXA.out _) hb4
  have HQ4 : Hid (At2 u4 u3.heap.size (.int .u64 Y) (.int .u64 Z)) := ⟨cell_of hb4 (by simp), cell_of hb4 (by simp)⟩
  clear hb4 HXA y0 y1 y2 y3
  generalize u3.heap.size = q at *
  clear u3
  go_wp2_with fail
  refine (HI.out _ (nbl_out HX4.out)).mono ?_
  rintro r u5 ⟨rfl, hb5⟩
  have HX5 : Hid (Below (w.heap.size + 1) (nbl w K B E S) u5) := nbl_next HX4.out hb5
  have HQ5 : Hid (At2 u5 q (.int .u64 Y) (.int .u64 Z)) := At2.below HQ4.out hb5
  have z0 := al_of HQ5.out.1
  have z1 := al_of HQ5.out.2
  have HXB : Hid (∀ o, Below (w.heap.size + 1) (nbl w K B E S) (u5.alloc o)) := fun o => HX5.out.alloc (by have := HX5.out.size; simpa using this) o
  clear hb5 HX4 HQ4 HX5 HQ5
  go_wp2_with fail
  refine (eqWide_same Y Z _).mono ?_
  rintro r u6 ⟨rfl, hb6⟩
  have HX6 : Hid (Below (w.heap.size + 1) (nbl w K B E S) u6) := nbl_next (HXB.out _) hb6
  clear hb6 HXB z0 z1
  go_wp2
  go_ret
  exact ⟨rfl, nbl_out HX6.out⟩

/-- The door's own heap meets the condition. -/
theorem door_met (os : Os) (args : Array Value) : laidMetH Tryd.prog Rows.fnExactPack128Row.laid ((World.doorLaid Tryd.prog 400 os).forCall (fun _ _ => 0) ⟨#[], args, []⟩).memory :=
  laidMetH_of_parts3 (fuel := 8) (laidMet_of_run' 8 (by kernel_rfl) (by kernel_rfl)) (by kernel_rfl) (by kernel_rfl)

set_option maxRecDepth 100000 in
theorem lifted (os : Os) (started : os.Started) (H : Type) (enc : TypeId × Value → H) :
    ReturnsInHanded {} Tryd.checked os 4 .any (fun w args => (Rows.fnExactPack128Spec.pre enc Tryd.prog Tryd.f4 [] false w args ∧ laidMetH Tryd.prog Rows.fnExactPack128Row.laid w) ∧ sizedMet enc Tryd.prog Tryd.f4 (OpenSpec.ofChange Rows.fnExactPack128Spec) false w args)
      (Rows.fnExactPack128Spec.post enc Tryd.prog Tryd.f4 false true false false) := by
  refine returnsInHanded_of_change_and (C := Tryd.checked) (X := fun w _ => laidMetH Tryd.prog Rows.fnExactPack128Row.laid w) (fun _ _ _ hh h => h.of_heap hh) own started (by kernel_rfl) Tryd.func4
    (ChangeSpec.witness_shaped (enc := enc) (C := Tryd.checked) (os := os) (X := fun w _ => laidMetH Tryd.prog Rows.fnExactPack128Row.laid w) false (World.doorLaid Tryd.prog 400 os) #[.agg #[.int .i64 0, .bool false, .int .i64 0, .string ⟨#[]⟩]] 8 rfl (World.shaped_of_RefB (by kernel_rfl) (by kernel_rfl)) (by kernel_rfl) (by kernel_rfl) (by kernel_rfl) (door_met os _)) ?_
  intro W base args ds gs before hval0 hW _ _ hL _
  have hval : ∀ (j : Nat) t v, Tryd.f4.params[j]? = some t → args[j]? = some v → Value.okWide Tryd.prog W .any base t v := hval0
  have hW' := hW
  obtain ⟨p, q, hA0, hV, rfl, hfz, hnd⟩ := hW
  have hA : DataW.TrodAll enc Tryd.prog W 0 (fun _ => true) true Tryd.f4.params.toList args.toList ds p := hA0
  rw [Tryd.params4] at hA hval
  obtain ⟨v0, vs0, d0, ds0, p0, q0, hargs, rfl, rfl, h0, r0⟩ := trodAll_cons hA
  obtain ⟨rfl, rfl, rfl⟩ := trodAll_nil r0
  obtain rfl : args = #[v0] := by cases args; simp_all
  have k0 := h0
  have lt0 : ∀ x ∈ p0, x.block < W.heap.size := by obtain ⟨m, hm⟩ := k0; exact DataW.trod_lt m _ _ _ hm
  obtain ⟨kd0, ng0, ex0, dg0, rfl, w0⟩ := open_num (hval 0 23 v0 rfl rfl) h0
  rw [MakeChecks.laidMetH_plain _ _ _ (by kernel_rfl)] at hL
  have ht := tabs_of_laid hL
  obtain ⟨g0, g1, rfl⟩ : ∃ g0 g1, gs = [g0, g1] := vars2 hV
  clear hA0 hval0
  refine (walk kd0 ng0 ex0 dg0 W w0 ht).mono fun e W' ⟨he, bel⟩ => ?_
  subst he
  exact ⟨_, rfl, _, _, _, [], _, _, hW', trodAll_mk1 (shut_bool Tryd.underlying4 _), (trodAll_cons_mk (Below.trod laidOut (by kernel_rfl) (of_decide_eq_true (by kernel_rfl)) k0 bel lt0) trodAll_mk0), Below.trodVars laidOut bel (by kernel_rfl) hV, bel.frame _, fun h => by cases h⟩

theorem said : Rows.FnExactPack128Said :=
  OpenClaim.holds_of_wide 4 Tryd.f4 rfl rfl rfl rfl rfl rfl rfl ⟨rfl, rfl, rfl, rfl, rfl⟩ rfl rfl rfl rfl rfl (by kernel_rfl) Tryd.func4 (by kernel_rfl)
    (of_decide_eq_true (by kernel_rfl)) (by unfold Func.isWrapper; first | (rw [if_pos (by decide +kernel)]; kernel_rfl) | (rw [if_neg (by decide +kernel)]; exact ⟨rfl, rfl⟩))
    (fun os started H enc _ => lifted os started H enc)

/-- No parameter wants a stand-in; the program's own looks are off. -/
theorem plain (f : FuncId) (fn : Func) (hf : Tryd.pinned.checked.prog.funcNamed "loop.example/g00085/laws.FnExactPack128" = some f) (hfn : Tryd.pinned.checked.prog.funcs[f]? = some fn) :
    false = Tryd.pinned.checked.prog.looks [] ∧ ∀ (j : Nat) t, fn.params[j]? = some t → Tryd.pinned.checked.prog.wantsStandIn t = false := by
  obtain rfl : f = 4 := Option.some.inj ((show Tryd.prog.funcNamed "loop.example/g00085/laws.FnExactPack128" = some 4 by kernel_rfl).symm.trans hf) |>.symm
  obtain rfl : fn = Tryd.f4 := (Option.some.inj (Tryd.func4.symm.trans hfn)).symm
  refine ⟨by kernel_rfl, fun j t ht => ?_⟩
  rw [Tryd.params4] at ht
  have hm : t = 23 := by simpa using Array.mem_of_getElem? ht
  subst hm
  · exact (show Tryd.prog.wantsStandIn 23 = false by kernel_rfl)
end Go.Proofs.YtmeicjbeibmmgaoDoor.fnExactPack128
namespace Go.Proofs.YtmeicjbeibmmgaoDoor
/-- The given statement: the card. -/
theorem fnExactPack128_card : Rows.FnExactPack128CardSaid :=
  Claim7.holds_tied_plain_at .later [] _ _ _ _ fnExactPack128.said (fun _ h => by cases h) (by kernel_rfl) (fun _ h => by cases h) fnExactPack128_row_tie rfl ⟨rfl, rfl⟩ (by kernel_rfl) rfl fnExactPack128.plain (by kernel_rfl)
#print axioms fnExactPack128_card
end Go.Proofs.YtmeicjbeibmmgaoDoor
