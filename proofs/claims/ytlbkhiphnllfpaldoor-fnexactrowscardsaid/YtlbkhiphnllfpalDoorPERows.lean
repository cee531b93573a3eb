/-
  Rows of the program answers as Rows of its model, whatever the two words, and its answer is memory of its own: what is written there stays, behind another call too.
  The card ties the listed package-level variables to the program's text, in the pruned copy that the seat holds; it says nothing of the project's other packages, commands or tests.
-/
import Derived.Test.YtlbkhiphnllfpalDoorCards
import Derived.Test.YtlbkhiphnllfpalDoorTie
import Derived.WalkKit
import Derived.ProofKit
import Derived.OpenShut
import Derived.ShutString
import Derived.ChangeOld
import Derived.Below
import Derived.OpenVars
import Derived.LaidMore
import Derived.Stop.Joined
import Derived.Test.YtlbkhiphnllfpalDoorPrdL
import Derived.Test.YtlbkhiphnllfpalDoorMarkU
import Derived.Test.YtlbkhiphnllfpalDoorDoor
namespace Go.Proofs.YtlbkhiphnllfpalDoor.fnExactRows
open Go.ChangeShapes Go.WideShapes Go.ChangeAt Go.RowKit
set_option linter.unusedVariables false

theorem walk (a0 : Int) (a1 : Int) (w : World) (w0 : (Lit.int .u64 a0).wf = true) (w1 : (Lit.int .u64 a1).wf = true) (ht : Tab w ∧ 0 < w.heap.size) :
    Calls Tryd.prog 3 #[.int .u64 a0, .int .u64 a1] w fun e w' => e = .returned (.bool true) ∧ Below w.heap.size w w' := by
  have b0 := bounds_u64 w0
  have b1 := bounds_u64 w1
  have hS : ∃ (D : List Int) (b : Bool), D.length ≤ 16 ∧ (∀ W, Calls Tryd.prog 7 #[.int .u64 a0, .int .u64 a1] W fun e w' => ∃ v, e = .returned (.tuple #[v, .bool b]) ∧ HasU w' W.heap.size v D ∧ Below W.heap.size W w') ∧
      (∀ W, Tab W → 0 < W.heap.size → Calls Tryd.prog 8 #[.int .u64 a0, .int .u64 a1] W fun e w' => ∃ v, e = .returned (.tuple #[v, .bool b]) ∧ HasU w' W.heap.size v D ∧ Below W.heap.size W w') := by
    by_cases h : Ln.okB 0 a0 = false ∨ Ln.okB 0 a1 = false
    · exact ⟨[], false, by simp, fun W => srows_no a0 a1 W b0.1 b0.2 b1.1 b1.2 h, fun W hT _ => irows_no a0 a1 W hT b0.1 b0.2 b1.1 b1.2 h⟩
    · have k0 : Ln.okB 0 a0 = true := by cases h' : Ln.okB 0 a0 with
        | true => rfl
        | false => exact absurd (.inl h') h
      have k1 : Ln.okB 0 a1 = true := by cases h' : Ln.okB 0 a1 with
        | true => rfl
        | false => exact absurd (.inr h') h
      exact ⟨rowsL a0 a1 16, true, Nat.le_of_eq (rowsL_length a0 a1 16), fun W => srows_yes a0 a1 W b0.1 b0.2 b1.1 b1.2 k0 k1, fun W hT hz => irows_yes a0 a1 W hT hz b0.1 b0.2 b1.1 b1.2 k0 k1⟩
  obtain ⟨D, b, hD, hs, hi⟩ := hS
  have Hs : Hid (∀ W, Calls Tryd.prog 7 #[.int .u64 a0, .int .u64 a1] W fun e w' => ∃ v, e = .returned (.tuple #[v, .bool b]) ∧ HasU w' W.heap.size v D ∧ Below W.heap.size W w') := hs
  have Hi : Hid (∀ W, Tab W → 0 < W.heap.size → Calls Tryd.prog 8 #[.int .u64 a0, .int .u64 a1] W fun e w' => ∃ v, e = .returned (.tuple #[v, .bool b]) ∧ HasU w' W.heap.size v D ∧ Below W.heap.size W w') := hi
  clear hs hi
  go_enter Tryd.func3, Tryd.ntmps3
  go_wp2_with fail
  refine (Hs.out _).mono ?_
  rintro e w1 ⟨v0, rfl, hv0, hb1⟩
  have hs1 := hb1.size
  have ht1 := ht.1.below hb1 ht.2
  go_wp2_with fail
  refine (Hi.out _ ht1 (by omega)).mono ?_
  rintro e w2 ⟨v1, rfl, hv1, hb2⟩
  have hs2 := hb2.size
  go_wp2_with fail
  refine (eqU_same _ _ D _ _ _ hv1 (hv0.below hb2 (Nat.le_refl _))).mono ?_
  rintro e w3 ⟨rfl, hb3⟩
  have hs3 := hb3.size
  go_wp2_with fail
  refine (markU_any _ D 1 _ _ (hv1.below hb3 (Nat.le_refl _)) (by decide) (by omega)).mono ?_
  rintro e w4 ⟨rfl, hv4, hb4⟩
  have hs4 := hb4.size
  have hheld : ∀ i, i < (marked 1 D D.length).length → (marked 1 D D.length).getD i 0 = 1 + i := fun i hi => by
    rw [marked_length] at hi; exact marked_at 1 D D.length i hi hi
  have hml : (marked 1 D D.length).length = D.length := marked_length 1 D D.length
  generalize marked 1 D D.length = M at *
  have HM : Hid (∀ i, i < M.length → M.getD i 0 = 1 + i) := hheld
  clear hheld
  have hb14 : Below w1.heap.size w1 w4 := (hb2.trans (hb3.mono hs2)).trans hb4
  go_wp2_with fail
  refine (heldU_any _ M 1 _ _ hv4 (by decide) (by omega) HM.out).mono ?_
  rintro e w' ⟨rfl, rfl⟩
  rw [hml]
  go_wp2_with fail
  refine (Hi.out _ (ht1.below hb14 (by omega)) (by omega)).mono ?_
  rintro e w5 ⟨v2, rfl, hv2, hb5⟩
  have hs5 := hb5.size
  have hb15 : Below w1.heap.size w1 w5 := hb14.trans (hb5.mono (by omega))
  go_wp2_with fail
  refine (eqU_same _ _ D _ _ _ hv2 (hv0.below hb15 (Nat.le_refl _))).mono ?_
  rintro e w6 ⟨rfl, hb6⟩
  have hs6 := hb6.size
  have hv6 := (hv4.below hb5 (Nat.le_refl _)).below hb6 (Nat.le_refl _)
  go_wp2_with fail
  refine (heldU_any _ M 1 _ _ hv6 (by decide) (by omega) HM.out).mono ?_
  rintro e w' ⟨rfl, rfl⟩
  rw [hml]
  go_wp2
  go_ret
  exact ⟨rfl, hb1.trans ((hb15.trans (hb6.mono (by omega))).mono hs1)⟩

/-- The door's own heap meets the condition. -/
theorem door_met (os : Os) (args : Array Value) : laidMetH Tryd.prog Rows.fnExactRowsRow.laid ((World.doorLaid Tryd.prog 400 os).forCall (fun _ _ => 0) ⟨#[], args, []⟩).memory :=
  laidMetH_of_parts3 (fuel := 8) (laidMet_of_run' 8 (by kernel_rfl) (by kernel_rfl)) (by kernel_rfl) (by kernel_rfl)

set_option maxRecDepth 100000 in
theorem lifted (os : Os) (started : os.Started) (H : Type) (enc : TypeId × Value → H) :
    ReturnsInHanded {} Tryd.checked os 3 .any (fun w args => (Rows.fnExactRowsSpec.pre enc Tryd.prog Tryd.f3 [] false w args ∧ laidMetH Tryd.prog Rows.fnExactRowsRow.laid w) ∧ sizedMet enc Tryd.prog Tryd.f3 (OpenSpec.ofChange Rows.fnExactRowsSpec) false w args)
      (Rows.fnExactRowsSpec.post enc Tryd.prog Tryd.f3 false true false false) := by
  refine returnsInHanded_of_change_and (C := Tryd.checked) (X := fun w _ => laidMetH Tryd.prog Rows.fnExactRowsRow.laid w) (fun _ _ _ hh h => h.of_heap hh) own started (by kernel_rfl) Tryd.func3
    (ChangeSpec.witness_shaped (enc := enc) (C := Tryd.checked) (os := os) (X := fun w _ => laidMetH Tryd.prog Rows.fnExactRowsRow.laid w) false (World.doorLaid Tryd.prog 400 os) #[.int .u64 0, .int .u64 0] 8 rfl (World.shaped_of_RefB (by kernel_rfl) (by kernel_rfl)) (by kernel_rfl) (by kernel_rfl) (by kernel_rfl) (door_met os _)) ?_
  intro W base args ds gs before hval0 hW _ _ hL _
  have hval : ∀ (j : Nat) t v, Tryd.f3.params[j]? = some t → args[j]? = some v → Value.okWide Tryd.prog W .any base t v := hval0
  have hW' := hW
  obtain ⟨p, q, hA0, hV, rfl, hfz, hnd⟩ := hW
  have hA : DataW.TrodAll enc Tryd.prog W 0 (fun _ => true) true Tryd.f3.params.toList args.toList ds p := hA0
  rw [Tryd.params3] at hA hval
  obtain ⟨v0, vs0, d0, ds0, p0, q0, hargs, rfl, rfl, h0, r0⟩ := trodAll_cons hA
  obtain ⟨v1, vs1, d1, ds1, p1, q1, rfl, rfl, rfl, h1, r1⟩ := trodAll_cons r0
  obtain ⟨rfl, rfl, rfl⟩ := trodAll_nil r1
  obtain rfl : args = #[v0, v1] := by cases args; simp_all
  obtain ⟨a0, rfl, rfl, rfl, w0⟩ := open_int Tryd.underlying22 (hval 0 22 v0 rfl rfl) h0
  obtain ⟨a1, rfl, rfl, rfl, w1⟩ := open_int Tryd.underlying22 (hval 1 22 v1 rfl rfl) h1
  rw [MakeChecks.laidMetH_plain _ _ _ (by kernel_rfl)] at hL
  have ht := tab_of_laid hL
  obtain ⟨g0, rfl⟩ : ∃ g0, gs = [g0] := vars1 hV
  clear hA0 hval0
  refine (walk a0 a1 W w0 w1 ht).mono fun e W' ⟨he, bel⟩ => ?_
  subst he
  exact ⟨_, rfl, _, _, _, [], _, _, hW', trodAll_mk1 (shut_bool Tryd.underlying4 _), (trodAll_cons_mk (shut_int Tryd.underlying22 w0) (trodAll_cons_mk (shut_int Tryd.underlying22 w1) trodAll_mk0)), Below.trodVars laidOut bel (by kernel_rfl) hV, bel.frame _, fun h => by cases h⟩

theorem said : Rows.FnExactRowsSaid :=
  OpenClaim.holds_of_wide 3 Tryd.f3 rfl rfl rfl rfl rfl rfl rfl ⟨rfl, rfl, rfl, rfl, rfl⟩ rfl rfl rfl rfl rfl (by kernel_rfl) Tryd.func3 (by kernel_rfl)
    (of_decide_eq_true (by kernel_rfl)) (by unfold Func.isWrapper; first | (rw [if_pos (by decide +kernel)]; kernel_rfl) | (rw [if_neg (by decide +kernel)]; exact ⟨rfl, rfl⟩))
    (fun os started H enc _ => lifted os started H enc)

/-- No parameter wants a stand-in; the program's own looks are off. -/
theorem plain (f : FuncId) (fn : Func) (hf : Tryd.pinned.checked.prog.funcNamed "loop.example/g00085/laws.FnExactRows" = some f) (hfn : Tryd.pinned.checked.prog.funcs[f]? = some fn) :
    false = Tryd.pinned.checked.prog.looks [] ∧ ∀ (j : Nat) t, fn.params[j]? = some t → Tryd.pinned.checked.prog.wantsStandIn t = false := by
  obtain rfl : f = 3 := Option.some.inj ((show Tryd.prog.funcNamed "loop.example/g00085/laws.FnExactRows" = some 3 by kernel_rfl).symm.trans hf) |>.symm
  obtain rfl : fn = Tryd.f3 := (Option.some.inj (Tryd.func3.symm.trans hfn)).symm
  refine ⟨by kernel_rfl, fun j t ht => ?_⟩
  rw [Tryd.params3] at ht
  have hm : t = 22 := by simpa using Array.mem_of_getElem? ht
  subst hm
  · exact (show Tryd.prog.wantsStandIn 22 = false by kernel_rfl)
end Go.Proofs.YtlbkhiphnllfpalDoor.fnExactRows
namespace Go.Proofs.YtlbkhiphnllfpalDoor
/-- The given statement: the card. -/
theorem fnExactRows_card : Rows.FnExactRowsCardSaid :=
  Claim7.holds_tied_plain_at .later [] _ _ _ _ fnExactRows.said (fun _ h => by cases h) (by kernel_rfl) (fun _ h => by cases h) fnExactRows_row_tie rfl ⟨rfl, rfl⟩ (by kernel_rfl) rfl fnExactRows.plain (by kernel_rfl)
#print axioms fnExactRows_card
end Go.Proofs.YtlbkhiphnllfpalDoor
