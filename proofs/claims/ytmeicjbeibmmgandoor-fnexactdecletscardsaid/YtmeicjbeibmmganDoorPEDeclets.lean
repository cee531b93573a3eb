/-
  Declets of the program answers as Declets of its model, whatever the digits; it writes nothing into them, and its answer is memory of its own: what is written there stays, behind another call too.
  The card ties the listed package-level variables to the program's text, in the pruned copy that the seat holds; it says nothing of the project's other packages, commands or tests.
-/
import Derived.Test.YtmeicjbeibmmganDoorCards
import Derived.Test.YtmeicjbeibmmganDoorTie
import Derived.WalkKit
import Derived.ProofKit
import Derived.OpenShut
import Derived.ShutString
import Derived.ChangeOld
import Derived.Below
import Derived.OpenVars
import Derived.LaidMore
import Derived.Stop.Joined
import Derived.Test.YtmeicjbeibmmganDoorDcU
import Derived.Test.YtmeicjbeibmmganDoorCopy
import Derived.Test.YtmeicjbeibmmganDoorMark
import Derived.Test.YtmeicjbeibmmganDoorDoor2
namespace Go.Proofs.YtmeicjbeibmmganDoor.fnExactDeclets
open Go.ChangeShapes Go.WideShapes Go.ChangeAt Go.RowKit
set_option linter.unusedVariables false

theorem walk (a0 : Option Addr) (len0 cap0 : Nat) (z0 : List Int) (w : World) (w0 : IsRow .i64 w a0 len0 cap0 z0) (ht : Tabs w) :
    Calls Tryd.prog 5 #[.slice a0 len0 cap0] w fun e w' => e = .returned (.bool true) ∧ Below w.heap.size w w' := by
  have HT : Hid (Tabs w) := ht
  clear ht
  by_cases hbig : 1048576 < len0
  · have hb' : (1048576 : Int) < (len0 : Int) := by omega
    clear w0
    go_enter Tryd.func5, Tryd.ntmps5
    go_wp2
    go_ret
    exact ⟨rfl, Below.refl _ _⟩
  · have hb' : ¬ (1048576 : Int) < (len0 : Int) := by omega
    generalize hds : z0.take len0 = ds at *
    have Hds : Hid (z0.take len0 = ds) := hds
    have hlen : ds.length ≤ 1048576 := by rw [← hds, List.length_take]; omega
    clear hds
    have Hc : Hid (∀ W, Below w.heap.size w W → Calls Tryd.prog 11 #[.slice a0 len0 cap0] W fun e w' => ∃ v, e = .returned v ∧ Has w' W.heap.size v ds ∧ Below W.heap.size W w') := fun W hb => by
      have := toInt64S_any a0 len0 cap0 z0 W (IsRow.below (k := .i64) w0 hb) (by omega)
      rw [Hds.out] at this
      exact this
    clear w0 Hds
    have hol : (dsL ds).length ≤ 41 := dsL_length ds
    have Hs : Hid (∀ W v base, Has W base v ds → Calls Tryd.prog 10 #[v] W fun e w' => ∃ u0, e = .returned (.tuple #[u0, .bool (dso ds)]) ∧ Has w' W.heap.size u0 (dsL ds) ∧ Below W.heap.size W w') := fun W v base h => by
      exact sDeclets_any v ds base W h
    have Hi : Hid (∀ W v base, Below w.heap.size w W → Has W base v ds → Calls Tryd.prog 12 #[v] W fun e w' => ∃ u0, e = .returned (.tuple #[u0, .bool (dso ds)]) ∧ Has w' W.heap.size u0 (dsL ds) ∧ Below W.heap.size W w') := fun W v base hb h => by
      exact iDeclets_any v ds base W (HT.out.below hb (Nat.le_refl _)) h
    generalize (dsL ds) = D0 at *
    generalize dso ds = b at *
    go_enter Tryd.func5, Tryd.ntmps5
    go_wp2_with fail
    refine (Hc.out _ (Below.refl _ _)).mono ?_
    rintro e w1 ⟨v0, rfl, hv0, hb⟩
    have hs_w1 := hb.size
    have hB_w1 : Below w.heap.size w w1 := hb
    clear hb
    go_wp2_with fail
    refine (Hs.out _ _ _ hv0).mono ?_
    rintro e w2 ⟨u0, rfl, hu0, hb⟩
    have hs_w2 := hb.size
    have hB_w2 : Below w.heap.size w w2 := hB_w1.trans (hb.mono (by omega))
    clear hB_w1
    clear hb hv0
    have Ou0 : Hid (∀ k, u0.ownBlock = some k → k < w2.heap.size) := fun k hk => (hu0.own k hk).2
    go_wp2_with fail
    refine (Hc.out _ hB_w2).mono ?_
    rintro e w3 ⟨x0, rfl, hx, hb⟩
    have hs_w3 := hb.size
    have hB_w3 : Below w.heap.size w w3 := hB_w2.trans (hb.mono (by omega))
    have hu0_w3 := hu0.below hb (Nat.le_refl _)
    clear hu0 hB_w2
    clear hb
    have Ox : Hid (∀ k, x0.ownBlock = some k → w2.heap.size ≤ k ∧ k < w3.heap.size) := fun k hk => hx.own k hk
    go_wp2_with fail
    refine (Hi.out _ _ _ hB_w3 hx).mono ?_
    rintro e w4 ⟨g0, rfl, hg0, hb⟩
    have hs_w4 := hb.size
    have hB_w4 : Below w.heap.size w w4 := hB_w3.trans (hb.mono (by omega))
    have hu0_w4 := hu0_w3.below hb (Nat.le_refl _)
    have hx_w4 := hx.below hb (Nat.le_refl _)
    clear hu0_w3 hx hB_w3
    clear hb
    have Og0 : Hid (∀ k, g0.ownBlock = some k → w3.heap.size ≤ k) := fun k hk => (hg0.own k hk).1
    go_wp2_with fail
    refine (eq_same _ _ D0 _ _ _ hg0 hu0_w4).mono ?_
    rintro e w5 ⟨rfl, hb⟩
    have hs_w5 := hb.size
    have hB_w5 : Below w.heap.size w w5 := hB_w4.trans (hb.mono (by omega))
    have hu0_w5 := hu0_w4.below hb (Nat.le_refl _)
    have hx_w5 := hx_w4.below hb (Nat.le_refl _)
    have hg0_w5 := hg0.below hb (Nat.le_refl _)
    clear hu0_w4 hx_w4 hg0 hB_w4
    clear hb
    go_wp2_with fail
    refine (Hc.out _ hB_w5).mono ?_
    rintro e w6 ⟨x1, rfl, hx1, hb⟩
    have hs_w6 := hb.size
    have hB_w6 : Below w.heap.size w w6 := hB_w5.trans (hb.mono (by omega))
    have hu0_w6 := hu0_w5.below hb (Nat.le_refl _)
    have hx_w6 := hx_w5.below hb (Nat.le_refl _)
    have hg0_w6 := hg0_w5.below hb (Nat.le_refl _)
    clear hu0_w5 hx_w5 hg0_w5 hB_w5
    clear hb
    go_wp2_with fail
    refine (eq_same _ _ ds _ _ _ hx_w6 hx1).mono ?_
    rintro e w7 ⟨rfl, hb⟩
    have hs_w7 := hb.size
    have hB_w7 : Below w.heap.size w w7 := hB_w6.trans (hb.mono (by omega))
    have hu0_w7 := hu0_w6.below hb (Nat.le_refl _)
    have hx_w7 := hx_w6.below hb (Nat.le_refl _)
    have hg0_w7 := hg0_w6.below hb (Nat.le_refl _)
    have hx1_w7 := hx1.below hb (Nat.le_refl _)
    clear hu0_w6 hx_w6 hg0_w6 hx1 hB_w6
    clear hb
    clear hx1_w7
    go_wp2_with fail
    refine (mark_own _ ds 1 _ _ hx_w7 (by omega) (by omega)).mono ?_
    rintro e w8 ⟨rfl, hmk, hgr⟩
    have hs_w8 := hgr.size
    have hB_w8 : Below w.heap.size w w8 := Below.grown hB_w7 hgr (by omega) (fun k hk => (by have := (Ox.out k hk).1; omega))
    have hu0_w8 := hu0_w7.apart hgr (fun k hk e => (by have := (Ox.out k e).1; have := Ou0.out k hk; omega))
    have hg0_w8 := hg0_w7.apart hgr (fun k hk e => (by have := (Ox.out k e).2; have := Og0.out k hk; omega))
    clear hu0_w7 hx_w7 hg0_w7 hB_w7 hgr
    clear hmk
    have hk0 : ¬ (1 + (ds.length : Int)) < 0 := by omega
    go_wp2_with fail
    refine (eq_same _ _ D0 _ _ _ hg0_w8 hu0_w8).mono ?_
    rintro e w9 ⟨rfl, hb⟩
    have hs_w9 := hb.size
    have hB_w9 : Below w.heap.size w w9 := hB_w8.trans (hb.mono (by omega))
    have hu0_w9 := hu0_w8.below hb (Nat.le_refl _)
    have hg0_w9 := hg0_w8.below hb (Nat.le_refl _)
    clear hu0_w8 hg0_w8 hB_w8
    clear hb
    go_wp2_with fail
    refine (mark_own _ D0 1 _ _ hg0_w9 (by omega) (by omega)).mono ?_
    rintro e w10 ⟨rfl, hmk, hgr⟩
    have hs_w10 := hgr.size
    have hB_w10 : Below w.heap.size w w10 := Below.grown hB_w9 hgr (by omega) (fun k hk => (by have := Og0.out k hk; omega))
    have hu0_w10 := hu0_w9.apart hgr (fun k hk e => (by have := Og0.out k e; have := Ou0.out k hk; omega))
    clear hu0_w9 hg0_w9 hB_w9 hgr
    have hheld0 : ∀ j, j < (marked 1 D0 D0.length).length → (marked 1 D0 D0.length).getD j 0 = 1 + j := fun j hj => by
      rw [marked_length] at hj; exact marked_at 1 D0 D0.length j hj hj
    have hml0 : (marked 1 D0 D0.length).length = D0.length := marked_length 1 D0 D0.length
    generalize marked 1 D0 D0.length = M0 at *
    have HM0 : Hid (∀ j, j < M0.length → M0.getD j 0 = 1 + j) := hheld0
    clear hheld0
    have hm0 := hmk
    clear hmk
    go_wp2_with fail
    refine (held_any _ M0 1 _ _ hm0 (by omega) (by omega) HM0.out).mono ?_
    rintro e w' ⟨rfl, hw⟩
    obtain rfl := hw.symm
    rw [hml0]
    have hq0 : ¬ (1 + (D0.length : Int)) < 0 := by omega
    go_wp2_with fail
    refine (Hc.out _ hB_w10).mono ?_
    rintro e w11 ⟨x2, rfl, hx2, hb⟩
    have hs_w11 := hb.size
    have hB_w11 : Below w.heap.size w w11 := hB_w10.trans (hb.mono (by omega))
    have hu0_w11 := hu0_w10.below hb (Nat.le_refl _)
    have hm0_w11 := hm0.below hb (Nat.le_refl _)
    clear hu0_w10 hm0 hB_w10
    clear hb
    go_wp2_with fail
    refine (Hi.out _ _ _ hB_w11 hx2).mono ?_
    rintro e w12 ⟨h0, rfl, hh0, hb⟩
    have hs_w12 := hb.size
    have hB_w12 : Below w.heap.size w w12 := hB_w11.trans (hb.mono (by omega))
    have hu0_w12 := hu0_w11.below hb (Nat.le_refl _)
    have hm0_w12 := hm0_w11.below hb (Nat.le_refl _)
    clear hu0_w11 hm0_w11 hB_w11
    clear hb hx2
    go_wp2_with fail
    refine (eq_same _ _ D0 _ _ _ hh0 hu0_w12).mono ?_
    rintro e w13 ⟨rfl, hb⟩
    have hs_w13 := hb.size
    have hB_w13 : Below w.heap.size w w13 := hB_w12.trans (hb.mono (by omega))
    have hu0_w13 := hu0_w12.below hb (Nat.le_refl _)
    have hm0_w13 := hm0_w12.below hb (Nat.le_refl _)
    have hh0_w13 := hh0.below hb (Nat.le_refl _)
    clear hu0_w12 hm0_w12 hh0 hB_w12
    clear hb
    go_wp2_with fail
    refine (held_any _ M0 1 _ _ hm0_w13 (by omega) (by omega) HM0.out).mono ?_
    rintro e w' ⟨rfl, hw⟩
    obtain rfl := hw.symm
    rw [hml0]
    skip
    go_wp2
    go_ret
    exact ⟨rfl, hB_w13⟩

/-- The door's own heap meets the condition. -/
theorem door_met (os : Os) (args : Array Value) : laidMetH Tryd.prog Rows.fnExactDecletsRow.laid ((World.doorLaid Tryd.prog 400 os).forCall (fun _ _ => 0) ⟨#[], args, []⟩).memory :=
  laidMetH_of_parts3 (fuel := 8) (laidMet_of_run' 8 (by kernel_rfl) (by kernel_rfl)) (by kernel_rfl) (by kernel_rfl)

set_option maxRecDepth 100000 in
theorem lifted (os : Os) (started : os.Started) (H : Type) (enc : TypeId × Value → H) :
    ReturnsInHanded {} Tryd.checked os 5 .any (fun w args => (Rows.fnExactDecletsSpec.pre enc Tryd.prog Tryd.f5 [] false w args ∧ laidMetH Tryd.prog Rows.fnExactDecletsRow.laid w) ∧ sizedMet enc Tryd.prog Tryd.f5 (OpenSpec.ofChange Rows.fnExactDecletsSpec) false w args)
      (Rows.fnExactDecletsSpec.post enc Tryd.prog Tryd.f5 false true false false) := by
  refine returnsInHanded_of_change_and (C := Tryd.checked) (X := fun w _ => laidMetH Tryd.prog Rows.fnExactDecletsRow.laid w) (fun _ _ _ hh h => h.of_heap hh) own started (by kernel_rfl) Tryd.func5
    (ChangeSpec.witness_shaped (enc := enc) (C := Tryd.checked) (os := os) (X := fun w _ => laidMetH Tryd.prog Rows.fnExactDecletsRow.laid w) false (World.doorLaid Tryd.prog 400 os) #[.slice none 0 0] 8 rfl (World.shaped_of_RefB (by kernel_rfl) (by kernel_rfl)) (by kernel_rfl) (by kernel_rfl) (by kernel_rfl) (door_met os _)) ?_
  intro W base args ds gs before hval0 hW _ _ hL _
  have hval : ∀ (j : Nat) t v, Tryd.f5.params[j]? = some t → args[j]? = some v → Value.okWide Tryd.prog W .any base t v := hval0
  have hW' := hW
  obtain ⟨p, q, hA0, hV, rfl, hfz, hnd⟩ := hW
  have hA : DataW.TrodAll enc Tryd.prog W 0 (fun _ => true) true Tryd.f5.params.toList args.toList ds p := hA0
  rw [Tryd.params5] at hA hval
  obtain ⟨v0, vs0, d0, ds0, p0, q0, hargs, rfl, rfl, h0, r0⟩ := trodAll_cons hA
  obtain ⟨rfl, rfl, rfl⟩ := trodAll_nil r0
  obtain rfl : args = #[v0] := by cases args; simp_all
  obtain ⟨a0, len0, cap0, rfl⟩ := okWide_slice Tryd.underlying24 (hval 0 24 v0 rfl rfl)
  have k0 := h0
  have lt0 : ∀ x ∈ p0, x.block < W.heap.size := by obtain ⟨m, hm⟩ := k0; exact DataW.trod_lt m _ _ _ hm
  obtain ⟨z0, w0⟩ : ∃ zs, IsRow .i64 W a0 len0 cap0 zs := by
    obtain ⟨fuel, hf⟩ := h0
    rcases open_ints Tryd.underlying24 Tryd.underlying2 (by kernel_rfl) hf with ⟨hcs, _⟩ | ⟨x, l, c, zs, hcs, _, hl, hm, hz, _, hcell, hwz⟩
    · simp [Value.cells] at hcs
      obtain ⟨rfl, rfl, rfl⟩ := hcs
      exact ⟨[], .inl ⟨rfl, rfl, rfl, rfl⟩⟩
    · simp [Value.cells] at hcs
      obtain ⟨rfl, rfl, rfl⟩ := hcs
      exact ⟨zs, .inr ⟨_, rfl, hl, hm, by simpa using hz, hcell, hwz⟩⟩
  rw [MakeChecks.laidMetH_plain _ _ _ (by kernel_rfl)] at hL
  have ht := tabs_of_laid hL
  obtain ⟨g0, g1, rfl⟩ : ∃ g0 g1, gs = [g0, g1] := vars2 hV
  clear hA0 hval0
  refine (walk a0 len0 cap0 z0 W w0 ht).mono fun e W' ⟨he, bel⟩ => ?_
  subst he
  exact ⟨_, rfl, _, _, _, [], _, _, hW', trodAll_mk1 (shut_bool Tryd.underlying4 _), (trodAll_cons_mk (Below.trod laidOut (by kernel_rfl) (of_decide_eq_true (by kernel_rfl)) k0 bel lt0) trodAll_mk0), Below.trodVars laidOut bel (by kernel_rfl) hV, bel.frame _, fun h => by cases h⟩

theorem said : Rows.FnExactDecletsSaid :=
  OpenClaim.holds_of_wide 5 Tryd.f5 rfl rfl rfl rfl rfl rfl rfl ⟨rfl, rfl, rfl, rfl, rfl⟩ rfl rfl rfl rfl rfl (by kernel_rfl) Tryd.func5 (by kernel_rfl)
    (of_decide_eq_true (by kernel_rfl)) (by unfold Func.isWrapper; first | (rw [if_pos (by decide +kernel)]; kernel_rfl) | (rw [if_neg (by decide +kernel)]; exact ⟨rfl, rfl⟩))
    (fun os started H enc _ => lifted os started H enc)

/-- No parameter wants a stand-in; the program's own looks are off. -/
theorem plain (f : FuncId) (fn : Func) (hf : Tryd.pinned.checked.prog.funcNamed "loop.example/g00085/laws.FnExactDeclets" = some f) (hfn : Tryd.pinned.checked.prog.funcs[f]? = some fn) :
    false = Tryd.pinned.checked.prog.looks [] ∧ ∀ (j : Nat) t, fn.params[j]? = some t → Tryd.pinned.checked.prog.wantsStandIn t = false := by
  obtain rfl : f = 5 := Option.some.inj ((show Tryd.prog.funcNamed "loop.example/g00085/laws.FnExactDeclets" = some 5 by kernel_rfl).symm.trans hf) |>.symm
  obtain rfl : fn = Tryd.f5 := (Option.some.inj (Tryd.func5.symm.trans hfn)).symm
  refine ⟨by kernel_rfl, fun j t ht => ?_⟩
  rw [Tryd.params5] at ht
  have hm : t = 24 := by simpa using Array.mem_of_getElem? ht
  subst hm
  · exact (show Tryd.prog.wantsStandIn 24 = false by kernel_rfl)
end Go.Proofs.YtmeicjbeibmmganDoor.fnExactDeclets
namespace Go.Proofs.YtmeicjbeibmmganDoor
/-- The given statement: the card. -/
theorem fnExactDeclets_card : Rows.FnExactDecletsCardSaid :=
  Claim7.holds_tied_plain_at .later [] _ _ _ _ fnExactDeclets.said (fun _ h => by cases h) (by kernel_rfl) (fun _ h => by cases h) fnExactDeclets_row_tie rfl ⟨rfl, rfl⟩ (by kernel_rfl) rfl fnExactDeclets.plain (by kernel_rfl)
#print axioms fnExactDeclets_card
end Go.Proofs.YtmeicjbeibmmganDoor
