/-
  Unpack128 of the program answers as Unpack128 of its model, whatever the two words.
  The card ties the listed package-level variables to the program's text, in the pruned copy that the seat holds; it says nothing of the project's other packages, commands or tests.
-/
import Derived.Test.YtmeicjbeibmmgaoDoorCards
import Derived.Test.YtmeicjbeibmmgaoDoorTie
import Derived.WalkKit
import Derived.ProofKit
import Derived.OpenShut
import Derived.ShutString
import Derived.ChangeOld
import Derived.Below
import Derived.OpenVars
import Derived.LaidMore
import Derived.Stop.Joined
import Derived.Lay
import Derived.Test.YtmeicjbeibmmgaoDoorUpn
import Derived.Test.YtmeicjbeibmmgaoDoorWdL
import Derived.Test.YtmeicjbeibmmgaoDoorNumE
import Derived.Test.YtmeicjbeibmmgaoDoorDoor2
namespace Go.Proofs.YtmeicjbeibmmgaoDoor.fnExactUnpack128
open Go.ChangeShapes Go.WideShapes Go.ChangeAt Go.RowKit
set_option linter.unusedVariables false

theorem walk (hi0 lo0 : Int) (w : World) (w0 : (Lit.int .u64 hi0).wf = true ∧ (Lit.int .u64 lo0).wf = true) (ht : Tabs w) :
    Calls Tryd.prog 6 #[.agg #[.int .u64 hi0, .int .u64 lo0]] w fun e w' => e = .returned (.bool true) ∧ Below w.heap.size w w' := by
  have b0 := bounds_u64 w0.1
  have b1 := bounds_u64 w0.2
  have HT : Hid (Tabs w) := ht
  have HTo : Hid (∀ X, Calls Tryd.prog 19 #[wpV hi0 lo0] X fun r w' => r = .returned (wpV hi0 lo0) ∧ Below X.heap.size X w') := fun X => toWide_any hi0 lo0 X
  have HS : Hid (∀ X, Calls Tryd.prog 18 #[wpV hi0 lo0] X fun x w' => x = .returned (numV (uK 12 11 (hi0 * 18446744073709551616 + lo0)) (uB 12 11 (hi0 * 18446744073709551616 + lo0)) (uX 12 11 6176 (hi0 * 18446744073709551616 + lo0)) (tx (uL 12 11 (hi0 * 18446744073709551616 + lo0)))) ∧ Below X.heap.size X w') := fun X => sUnpack128_any hi0 lo0 X b0.1 (by omega) b1.1 (by omega)
  have HI : Hid (∀ X, Below w.heap.size w X → Calls Tryd.prog 20 #[wpV hi0 lo0] X fun x w' => x = .returned (numV (uK 12 11 (hi0 * 18446744073709551616 + lo0)) (uB 12 11 (hi0 * 18446744073709551616 + lo0)) (uX 12 11 6176 (hi0 * 18446744073709551616 + lo0)) (tx (uL 12 11 (hi0 * 18446744073709551616 + lo0)))) ∧ Below X.heap.size X w') := fun X hb => iUnpack128_any hi0 lo0 X (HT.out.below hb (Nat.le_refl _)) b0.1 (by omega) b1.1 (by omega)
  have HX0 : Hid ((w.alloc (.cells #[.int .u64 hi0, .int .u64 lo0] 39)).cell? ⟨w.heap.size, 0, none⟩ = some (.int .u64 hi0) ∧ (w.alloc (.cells #[.int .u64 hi0, .int .u64 lo0] 39)).cell? ⟨w.heap.size, 1, none⟩ = some (.int .u64 lo0) ∧ Below w.heap.size w (w.alloc (.cells #[.int .u64 hi0, .int .u64 lo0] 39))) := ⟨by simp, by simp, (Below.refl _ _).alloc (Nat.le_refl _) _⟩
  clear ht HT w0
  generalize hi0 * 18446744073709551616 + lo0 = a0 at *
  generalize uK 12 11 a0 = k at *
  generalize uB 12 11 a0 = b at *
  generalize uX 12 11 6176 a0 = e at *
  generalize tx (uL 12 11 a0) = s at *
  go_enter Tryd.func6, Tryd.ntmps6
  go_wp2_with fail
  refine (HTo.out _).mono ?_
  rintro r w1 ⟨rfl, hb1⟩
  have HY1 : Hid (w1.cell? ⟨w.heap.size, 0, none⟩ = some (.int .u64 hi0) ∧ w1.cell? ⟨w.heap.size, 1, none⟩ = some (.int .u64 lo0) ∧ Below w.heap.size w w1) := ⟨cell_of hb1 HX0.out.1, cell_of hb1 HX0.out.2.1, HX0.out.2.2.trans (hb1.mono HX0.out.2.2.size)⟩
  clear hb1 HX0
  go_wp2_with fail
  refine (HS.out _).mono ?_
  rintro r w2 ⟨rfl, hb2⟩
  have HY2 : Hid (w2.cell? ⟨w.heap.size, 0, none⟩ = some (.int .u64 hi0) ∧ w2.cell? ⟨w.heap.size, 1, none⟩ = some (.int .u64 lo0)) := ⟨cell_of hb2 HY1.out.1, cell_of hb2 HY1.out.2.1⟩
  have HB2 : Hid (Below w.heap.size w w2) := HY1.out.2.2.trans (hb2.mono HY1.out.2.2.size)
  have y0 := al_of HY2.out.1
  have y1 := al_of HY2.out.2
  clear hb2 HY1
  go_wp2_with fail
  refine (HTo.out _).mono ?_
  rintro r w4 ⟨rfl, hb4⟩
  clear y0 y1
  have HB4 : Hid (Below w.heap.size w w4) := (HB2.out.alloc HB2.out.size _).trans (hb4.mono (by have := HB2.out.size; simp; omega))
  go_wp2_with fail
  refine (HI.out _ HB4.out).mono ?_
  rintro r w5 ⟨rfl, hb5'⟩
  have hb5 := hb4.trans (hb5'.mono hb4.size)
  clear hb4 hb5' HB4
  have HA : Hid (At4 w5 w2.heap.size (.int .i64 k) (.bool b) (.int .i64 e) (.string s)) := At4.same (at4_new w2 _ _ _ _) hb5
  have HB5 : Hid (Below w.heap.size w w5) := ((HB2.out.alloc HB2.out.size _).trans (hb5.mono (by have := HB2.out.size; simp; omega)))
  have u0 := al_of HA.out.1
  have u1 := al_of HA.out.2.1
  have u2 := al_of HA.out.2.2.1
  have u3 := al_of HA.out.2.2.2.1
  have HB6 : Hid (∀ o, Below w.heap.size w (w5.alloc o)) := fun o => HB5.out.alloc HB5.out.size o
  clear hb5 HA HB5
  go_wp2_with fail
  refine (eqNum_same k b e s _).mono ?_
  rintro r w6 ⟨rfl, hb6⟩
  have HB7 : Hid (Below w.heap.size w w6) := (HB6.out _).trans (hb6.mono (HB6.out _).size)
  clear hb6 u0 u1 u2 u3
  go_wp2
  go_ret
  exact ⟨rfl, HB7.out⟩


set_option maxRecDepth 100000 in
theorem lifted (os : Os) (started : os.Started) (H : Type) (enc : TypeId × Value → H) :
    ReturnsInHanded {} Tryd.checked os 6 .any (fun w args => (Rows.fnExactUnpack128Spec.pre enc Tryd.prog Tryd.f6 [] false w args ∧ laidMetH Tryd.prog Rows.fnExactUnpack128Row.laid w) ∧ sizedMet enc Tryd.prog Tryd.f6 (OpenSpec.ofChange Rows.fnExactUnpack128Spec) false w args)
      (Rows.fnExactUnpack128Spec.post enc Tryd.prog Tryd.f6 false true false false) := by
  refine returnsInHanded_of_change_and (C := Tryd.checked) (X := fun w _ => laidMetH Tryd.prog Rows.fnExactUnpack128Row.laid w) (fun _ _ _ hh h => h.of_heap hh) own started (by kernel_rfl) Tryd.func6
    (ChangeSpec.witness_shaped (enc := enc) (C := Tryd.checked) (os := os) (X := fun w _ => laidMetH Tryd.prog Rows.fnExactUnpack128Row.laid w) false (World.laidAll Tryd.prog os Rows.fnExactUnpack128Row.laid) #[.agg #[.int .u64 0, .int .u64 0]] 8 (World.laidAll_os _ _ _) (World.shaped_of_ZipB (by kernel_rfl) (by kernel_rfl)) (by kernel_rfl) (by kernel_rfl) (by kernel_rfl)
      (by rw [MakeChecks.laidMetH_plain _ _ _ (by kernel_rfl)]; exact laidMet_laidAll _ (by kernel_rfl) (by kernel_rfl))) ?_
  intro W base args ds gs before hval0 hW _ _ hL _
  have hval : ∀ (j : Nat) t v, Tryd.f6.params[j]? = some t → args[j]? = some v → Value.okWide Tryd.prog W .any base t v := hval0
  have hW' := hW
  obtain ⟨p, q, hA0, hV, rfl, hfz, hnd⟩ := hW
  have hA : DataW.TrodAll enc Tryd.prog W 0 (fun _ => true) true Tryd.f6.params.toList args.toList ds p := hA0
  rw [Tryd.params6] at hA hval
  obtain ⟨v0, vs0, d0, ds0, p0, q0, hargs, rfl, rfl, h0, r0⟩ := trodAll_cons hA
  obtain ⟨rfl, rfl, rfl⟩ := trodAll_nil r0
  obtain rfl : args = #[v0] := by cases args; simp_all
  have k0 := h0
  have lt0 : ∀ x ∈ p0, x.block < W.heap.size := by obtain ⟨m, hm⟩ := k0; exact DataW.trod_lt m _ _ _ hm
  obtain ⟨hi0, lo0, rfl, w0⟩ := open_wide (hval 0 39 v0 rfl rfl) h0
  rw [MakeChecks.laidMetH_plain _ _ _ (by kernel_rfl)] at hL
  have ht := tabs_of_laid4 hL
  obtain ⟨g0, g1, rfl⟩ : ∃ g0 g1, gs = [g0, g1] := vars2 hV
  clear hA0 hval0
  refine (walk hi0 lo0 W w0 ht).mono fun e W' ⟨he, bel⟩ => ?_
  subst he
  exact ⟨_, rfl, _, _, _, [], _, _, hW', trodAll_mk1 (shut_bool Tryd.underlying4 _), (trodAll_cons_mk (Below.trod laidOut (by kernel_rfl) (of_decide_eq_true (by kernel_rfl)) k0 bel lt0) trodAll_mk0), Below.trodVars laidOut bel (by kernel_rfl) hV, bel.frame _, fun h => by cases h⟩

theorem said : Rows.FnExactUnpack128Said :=
  OpenClaim.holds_of_wide 6 Tryd.f6 rfl rfl rfl rfl rfl rfl rfl ⟨rfl, rfl, rfl, rfl, rfl⟩ rfl rfl rfl rfl rfl (by kernel_rfl) Tryd.func6 (by kernel_rfl)
    (of_decide_eq_true (by kernel_rfl)) (by unfold Func.isWrapper; first | (rw [if_pos (by decide +kernel)]; kernel_rfl) | (rw [if_neg (by decide +kernel)]; exact ⟨rfl, rfl⟩))
    (fun os started H enc _ => lifted os started H enc)

/-- No parameter wants a stand-in; the program's own looks are off. -/
theorem plain (f : FuncId) (fn : Func) (hf : Tryd.pinned.checked.prog.funcNamed "loop.example/g00085/laws.FnExactUnpack128" = some f) (hfn : Tryd.pinned.checked.prog.funcs[f]? = some fn) :
    false = Tryd.pinned.checked.prog.looks [] ∧ ∀ (j : Nat) t, fn.params[j]? = some t → Tryd.pinned.checked.prog.wantsStandIn t = false := by
  obtain rfl : f = 6 := Option.some.inj ((show Tryd.prog.funcNamed "loop.example/g00085/laws.FnExactUnpack128" = some 6 by kernel_rfl).symm.trans hf) |>.symm
  obtain rfl : fn = Tryd.f6 := (Option.some.inj (Tryd.func6.symm.trans hfn)).symm
  refine ⟨by kernel_rfl, fun j t ht => ?_⟩
  rw [Tryd.params6] at ht
  have hm : t = 39 := by simpa using Array.mem_of_getElem? ht
  subst hm
  · exact (show Tryd.prog.wantsStandIn 39 = false by kernel_rfl)
end Go.Proofs.YtmeicjbeibmmgaoDoor.fnExactUnpack128
namespace Go.Proofs.YtmeicjbeibmmgaoDoor
/-- The given statement: the card. -/
theorem fnExactUnpack128_card : Rows.FnExactUnpack128CardSaid :=
  Claim7.holds_tied_plain_at .later [] _ _ _ _ fnExactUnpack128.said (fun _ h => by cases h) (by kernel_rfl) (fun _ h => by cases h) fnExactUnpack128_row_tie rfl ⟨rfl, rfl⟩ (by kernel_rfl) rfl fnExactUnpack128.plain (by kernel_rfl)
#print axioms fnExactUnpack128_card
end Go.Proofs.YtmeicjbeibmmgaoDoor
