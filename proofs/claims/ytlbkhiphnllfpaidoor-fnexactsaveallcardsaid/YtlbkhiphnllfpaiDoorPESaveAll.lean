/-
  SaveAll of the program answers as SaveAll of its model, whatever the words, and writes nothing into them.
  The card ties the listed package-level variables to the program's text, in the pruned copy that the seat holds; it says nothing of the project's other packages, commands or tests.
-/
import Derived.Test.YtlbkhiphnllfpaiDoorCards
import Derived.Test.YtlbkhiphnllfpaiDoorTie
import Derived.WalkKit
import Derived.ProofKit
import Derived.OpenShut
import Derived.ShutString
import Derived.ChangeOld
import Derived.Below
import Derived.OpenVars
import Derived.LaidMore
import Derived.Stop.Joined
import Derived.Test.YtlbkhiphnllfpaiDoorSaveAll
import Derived.Test.YtlbkhiphnllfpaiDoorDoor
namespace Go.Proofs.YtlbkhiphnllfpaiDoor.fnExactSaveAll
open Go.ChangeShapes Go.WideShapes Go.ChangeAt Go.RowKit
set_option linter.unusedVariables false

theorem walk (a0 : Option Addr) (len0 cap0 : Nat) (z0 : List Int) (w : World) (w0 : IsRow .u64 w a0 len0 cap0 z0) (ht : Tab w ∧ 0 < w.heap.size) :
    Calls Tryd.prog 5 #[.slice a0 len0 cap0] w fun e w' => e = .returned (.bool true) ∧ Below w.heap.size w w' := by
  by_cases hbig : 1048576 < len0
  · have hb' : (1048576 : Int) < (len0 : Int) := by omega
    clear w0
    go_enter Tryd.func5, Tryd.ntmps5
    go_wp2
    go_ret
    exact ⟨rfl, Below.refl _ _⟩
  · have hb' : ¬ (1048576 : Int) < (len0 : Int) := by omega
    generalize hds : z0.take len0 = ds at *
    have Hds : Hid (z0.take len0 = ds) := hds
    clear hds
    have hS : ∃ (r k n : Int), (∀ W v base, HasU W base v ds → Calls Tryd.prog 10 #[v] W fun e w' => e = .returned (.tuple #[.int .u64 r, .int .u64 k, .int .i64 n]) ∧ Below W.heap.size W w') ∧
        (∀ W v base, Tab W → 0 < W.heap.size → HasU W base v ds → Calls Tryd.prog 12 #[v] W fun e w' => e = .returned (.tuple #[.int .u64 r, .int .u64 k, .int .i64 n]) ∧ Below W.heap.size W w') := by
      by_cases hn : 64 < ds.length
      · refine ⟨0, 0, 0, fun W v base h => (sall_big v ds base W h hn).mono ?_, fun W v base _ _ h => (iall_big v ds base W h hn).mono ?_⟩
        · rintro e w' ⟨rfl, rfl⟩; exact ⟨rfl, Below.refl _ _⟩
        · rintro e w' ⟨rfl, rfl⟩; exact ⟨rfl, Below.refl _ _⟩
      · exact ⟨_, _, _, fun W v base h => sall_any v ds base W h (by omega), fun W v base hT hz h => iall_any v ds base W h hT hz (by omega)⟩
    obtain ⟨r, k, n, hs, hi⟩ := hS
    have Hs : Hid (∀ W v base, HasU W base v ds → Calls Tryd.prog 10 #[v] W fun e w' => e = .returned (.tuple #[.int .u64 r, .int .u64 k, .int .i64 n]) ∧ Below W.heap.size W w') := hs
    have Hi : Hid (∀ W v base, Tab W → 0 < W.heap.size → HasU W base v ds → Calls Tryd.prog 12 #[v] W fun e w' => e = .returned (.tuple #[.int .u64 r, .int .u64 k, .int .i64 n]) ∧ Below W.heap.size W w') := hi
    have Hc : Hid (∀ W, Below w.heap.size w W → Calls Tryd.prog 11 #[.slice a0 len0 cap0] W fun e w' => ∃ v, e = .returned v ∧ HasU w' W.heap.size v ds ∧ Below W.heap.size W w') := fun W hb => by
      have := toUint64S_any a0 len0 cap0 z0 W (w0.below hb) (by omega)
      rw [Hds.out] at this
      exact this
    clear hs hi w0
    go_enter Tryd.func5, Tryd.ntmps5
    go_wp2_with fail
    refine (Hc.out _ (Below.refl _ _)).mono ?_
    rintro e w1 ⟨v0, rfl, hv0, hb1⟩
    have hs1 := hb1.size
    go_wp2_with fail
    refine (Hs.out _ _ _ hv0).mono ?_
    rintro e w2 ⟨rfl, hb2⟩
    have hs2 := hb2.size
    have hb02 : Below w.heap.size w w2 := hb1.trans (hb2.mono hs1)
    go_wp2_with fail
    refine (Hc.out _ hb02).mono ?_
    rintro e w3 ⟨v1, rfl, hv1, hb3⟩
    have hs3 := hb3.size
    have hb03 : Below w.heap.size w w3 := hb02.trans (hb3.mono (by omega))
    have hs03 := hb03.size
    have hz := ht.2
    go_wp2_with fail
    refine (Hi.out _ _ _ (ht.1.below hb03 ht.2) (by omega) hv1).mono ?_
    rintro e w4 ⟨rfl, hb4⟩
    have hs4 := hb4.size
    have hb04 : Below w.heap.size w w4 := hb03.trans (hb4.mono (by omega))
    have hv1' := hv1.below hb4 (Nat.le_refl _)
    clear hv1
    go_wp2_with fail
    refine (Hc.out _ hb04).mono ?_
    rintro e w5 ⟨v2, rfl, hv2, hb5⟩
    have hs5 := hb5.size
    have hb05 : Below w.heap.size w w5 := hb04.trans (hb5.mono (by omega))
    go_wp2_with fail
    refine (eqU_same _ _ ds _ _ _ (hv1'.below hb5 (Nat.le_refl _)) hv2).mono ?_
    rintro e w6 ⟨rfl, hb6⟩
    go_wp2
    go_ret
    exact ⟨rfl, hb05.trans (hb6.mono (by omega))⟩

/-- The door's own heap meets the condition. -/
theorem door_met (os : Os) (args : Array Value) : laidMetH Tryd.prog Rows.fnExactSaveAllRow.laid ((World.doorLaid Tryd.prog 400 os).forCall (fun _ _ => 0) ⟨#[], args, []⟩).memory :=
  laidMetH_of_parts3 (fuel := 8) (laidMet_of_run' 8 (by kernel_rfl) (by kernel_rfl)) (by kernel_rfl) (by kernel_rfl)

set_option maxRecDepth 100000 in
theorem lifted (os : Os) (started : os.Started) (H : Type) (enc : TypeId × Value → H) :
    ReturnsInHanded {} Tryd.checked os 5 .any (fun w args => (Rows.fnExactSaveAllSpec.pre enc Tryd.prog Tryd.f5 [] false w args ∧ laidMetH Tryd.prog Rows.fnExactSaveAllRow.laid w) ∧ sizedMet enc Tryd.prog Tryd.f5 (OpenSpec.ofChange Rows.fnExactSaveAllSpec) false w args)
      (Rows.fnExactSaveAllSpec.post enc Tryd.prog Tryd.f5 false true false false) := by
  refine returnsInHanded_of_change_and (C := Tryd.checked) (X := fun w _ => laidMetH Tryd.prog Rows.fnExactSaveAllRow.laid w) (fun _ _ _ hh h => h.of_heap hh) own started (by kernel_rfl) Tryd.func5
    (ChangeSpec.witness_shaped (enc := enc) (C := Tryd.checked) (os := os) (X := fun w _ => laidMetH Tryd.prog Rows.fnExactSaveAllRow.laid w) false (World.doorLaid Tryd.prog 400 os) #[.slice none 0 0] 8 rfl (World.shaped_of_RefB (by kernel_rfl) (by kernel_rfl)) (by kernel_rfl) (by kernel_rfl) (by kernel_rfl) (door_met os _)) ?_
  intro W base args ds gs before hval0 hW _ _ hL _
  have hval : ∀ (j : Nat) t v, Tryd.f5.params[j]? = some t → args[j]? = some v → Value.okWide Tryd.prog W .any base t v := hval0
  have hW' := hW
  obtain ⟨p, q, hA0, hV, rfl, hfz, hnd⟩ := hW
  have hA : DataW.TrodAll enc Tryd.prog W 0 (fun _ => true) true Tryd.f5.params.toList args.toList ds p := hA0
  rw [Tryd.params5] at hA hval
  obtain ⟨v0, vs0, d0, ds0, p0, q0, hargs, rfl, rfl, h0, r0⟩ := trodAll_cons hA
  obtain ⟨rfl, rfl, rfl⟩ := trodAll_nil r0
  obtain rfl : args = #[v0] := by cases args; simp_all
  obtain ⟨a0, len0, cap0, rfl⟩ := okWide_slice Tryd.underlying29 (hval 0 29 v0 rfl rfl)
  have k0 := h0
  have lt0 : ∀ x ∈ p0, x.block < W.heap.size := by obtain ⟨m, hm⟩ := k0; exact DataW.trod_lt m _ _ _ hm
  obtain ⟨z0, w0⟩ : ∃ zs, IsRow .u64 W a0 len0 cap0 zs := by
    obtain ⟨fuel, hf⟩ := h0
    rcases open_ints Tryd.underlying29 Tryd.underlying22 (by kernel_rfl) hf with ⟨hcs, _⟩ | ⟨x, l, c, zs, hcs, _, hl, hm, hz, _, hcell, hwz⟩
    · simp [Value.cells] at hcs
      obtain ⟨rfl, rfl, rfl⟩ := hcs
      exact ⟨[], .inl ⟨rfl, rfl, rfl, rfl⟩⟩
    · simp [Value.cells] at hcs
      obtain ⟨rfl, rfl, rfl⟩ := hcs
      exact ⟨zs, .inr ⟨_, rfl, hl, hm, by simpa using hz, hcell, hwz⟩⟩
  rw [MakeChecks.laidMetH_plain _ _ _ (by kernel_rfl)] at hL
  have ht := tab_of_laid hL
  obtain ⟨g0, rfl⟩ : ∃ g0, gs = [g0] := vars1 hV
  clear hA0 hval0
  refine (walk a0 len0 cap0 z0 W w0 ht).mono fun e W' ⟨he, bel⟩ => ?_
  subst he
  exact ⟨_, rfl, _, _, _, [], _, _, hW', trodAll_mk1 (shut_bool Tryd.underlying4 _), (trodAll_cons_mk (Below.trod laidOut (by kernel_rfl) (of_decide_eq_true (by kernel_rfl)) k0 bel lt0) trodAll_mk0), Below.trodVars laidOut bel (by kernel_rfl) hV, bel.frame _, fun h => by cases h⟩

theorem said : Rows.FnExactSaveAllSaid :=
  OpenClaim.holds_of_wide 5 Tryd.f5 rfl rfl rfl rfl rfl rfl rfl ⟨rfl, rfl, rfl, rfl, rfl⟩ rfl rfl rfl rfl rfl (by kernel_rfl) Tryd.func5 (by kernel_rfl)
    (of_decide_eq_true (by kernel_rfl)) (by unfold Func.isWrapper; first | (rw [if_pos (by decide +kernel)]; kernel_rfl) | (rw [if_neg (by decide +kernel)]; exact ⟨rfl, rfl⟩))
    (fun os started H enc _ => lifted os started H enc)

/-- No parameter wants a stand-in; the program's own looks are off. -/
theorem plain (f : FuncId) (fn : Func) (hf : Tryd.pinned.checked.prog.funcNamed "loop.example/g00085/laws.FnExactSaveAll" = some f) (hfn : Tryd.pinned.checked.prog.funcs[f]? = some fn) :
    false = Tryd.pinned.checked.prog.looks [] ∧ ∀ (j : Nat) t, fn.params[j]? = some t → Tryd.pinned.checked.prog.wantsStandIn t = false := by
  obtain rfl : f = 5 := Option.some.inj ((show Tryd.prog.funcNamed "loop.example/g00085/laws.FnExactSaveAll" = some 5 by kernel_rfl).symm.trans hf) |>.symm
  obtain rfl : fn = Tryd.f5 := (Option.some.inj (Tryd.func5.symm.trans hfn)).symm
  refine ⟨by kernel_rfl, fun j t ht => ?_⟩
  rw [Tryd.params5] at ht
  have hm : t = 29 := by simpa using Array.mem_of_getElem? ht
  subst hm
  · exact (show Tryd.prog.wantsStandIn 29 = false by kernel_rfl)
end Go.Proofs.YtlbkhiphnllfpaiDoor.fnExactSaveAll
namespace Go.Proofs.YtlbkhiphnllfpaiDoor
/-- The given statement: the card. -/
theorem fnExactSaveAll_card : Rows.FnExactSaveAllCardSaid :=
  Claim7.holds_tied_plain_at .later [] _ _ _ _ fnExactSaveAll.said (fun _ h => by cases h) (by kernel_rfl) (fun _ h => by cases h) fnExactSaveAll_row_tie rfl ⟨rfl, rfl⟩ (by kernel_rfl) rfl fnExactSaveAll.plain (by kernel_rfl)
#print axioms fnExactSaveAll_card
end Go.Proofs.YtlbkhiphnllfpaiDoor
