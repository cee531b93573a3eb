/-
  LanePack of the program answers as LanePack of its model, whatever the weighting and the digits, and writes nothing into the digits.
  The card ties the listed package-level variables to the program's text, in the pruned copy that the seat holds; it says nothing of the project's other packages, commands or tests.
-/
import Derived.Test.YtlbkhiphnllfpahDoorCards
import Derived.Test.YtlbkhiphnllfpahDoorTie
import Derived.WalkKit
import Derived.ProofKit
import Derived.OpenShut
import Derived.ShutString
import Derived.ChangeOld
import Derived.Below
import Derived.OpenVars
import Derived.LaidMore
import Derived.Stop.Joined
import Derived.Test.YtlbkhiphnllfpahDoorCopy
import Derived.Test.YtlbkhiphnllfpahDoorPack2
import Derived.Test.YtlbkhiphnllfpahDoorDoor
namespace Go.Proofs.YtlbkhiphnllfpahDoor.fnExactLanePack
open Go.ChangeShapes Go.WideShapes Go.ChangeAt Go.RowKit
set_option linter.unusedVariables false

theorem walk (a0 : Int) (a1 : Option Addr) (len1 cap1 : Nat) (z1 : List Int) (w : World) (w0 : (Lit.int .i64 a0).wf = true) (w1 : IsRow .i64 w a1 len1 cap1 z1) (ht : Tab w ∧ 0 < w.heap.size) :
    Calls Tryd.prog 5 #[.int .i64 a0, .slice a1 len1 cap1] w fun e w' => e = .returned (.bool true) ∧ Below w.heap.size w w' := by
  by_cases hbig : 1048576 < len1
  · have hb' : (1048576 : Int) < (len1 : Int) := by omega
    clear w1
    go_enter Tryd.func5, Tryd.ntmps5
    go_wp2
    go_ret
    exact ⟨rfl, Below.refl _ _⟩
  · have hb' : ¬ (1048576 : Int) < (len1 : Int) := by omega
    generalize hds : z1.take len1 = ds at *
    have Hds : Hid (z1.take len1 = ds) := hds
    clear hds
    have hS : ∃ (r : Int) (o : Bool), (∀ W v base, Has W base v ds → Calls Tryd.prog 15 #[.int .i64 a0, v] W fun e w' => e = .returned (.tuple #[.int .u64 r, .bool o]) ∧ Below W.heap.size W w') ∧
        (∀ W v base, Tab W → Has W base v ds → Calls Tryd.prog 17 #[.int .i64 a0, v] W fun e w' => e = .returned (.tuple #[.int .u64 r, .bool o]) ∧ w' = W) := by
      by_cases hn : a0 < 1 ∨ 3 < a0
      · exact ⟨0, false, fun W v base h => spack_no _ v ds base W hn h, fun W v base _ h => ipack_no _ v ds base W hn h⟩
      · obtain ⟨m, hm0⟩ := Int.eq_ofNat_of_zero_le (show 0 ≤ a0 - 1 by omega)
        obtain rfl : a0 = (m : Int) + 1 := by omega
        have hm : m < 3 := by omega
        exact ⟨_, _, fun W v base h => spack_any m v ds base W hm h, fun W v base hT h => ipack_any m v ds base W hT hm h⟩
    obtain ⟨r, o, hs, hi⟩ := hS
    have Hs : Hid (∀ W v base, Has W base v ds → Calls Tryd.prog 15 #[.int .i64 a0, v] W fun e w' => e = .returned (.tuple #[.int .u64 r, .bool o]) ∧ Below W.heap.size W w') := hs
    have Hi : Hid (∀ W v base, Tab W → Has W base v ds → Calls Tryd.prog 17 #[.int .i64 a0, v] W fun e w' => e = .returned (.tuple #[.int .u64 r, .bool o]) ∧ w' = W) := hi
    have Hc : Hid (∀ W, Below w.heap.size w W → Calls Tryd.prog 16 #[.slice a1 len1 cap1] W fun e w' => ∃ v, e = .returned v ∧ Has w' W.heap.size v ds ∧ Below W.heap.size W w') := fun W hb => by
      have := toInt64S_any a1 len1 cap1 z1 W (w1.below hb) (by omega)
      rw [Hds.out] at this
      exact this
    clear hs hi w1
    go_enter Tryd.func5, Tryd.ntmps5
    go_wp2_with fail
    refine (Hc.out _ (Below.refl _ _)).mono ?_
    rintro e w1 ⟨v0, rfl, hv0, hb1⟩
    have hs1 := hb1.size
    go_wp2_with fail
    refine (Hs.out _ _ _ hv0).mono ?_
    rintro e w2 ⟨rfl, hb2⟩
    have hs2 := hb2.size
    have hb02 : Below w.heap.size w w2 := hb1.trans (hb2.mono hs1)
    go_wp2_with fail
    refine (Hc.out _ hb02).mono ?_
    rintro e w3 ⟨v1, rfl, hv1, hb3⟩
    have hs3 := hb3.size
    have hb03 : Below w.heap.size w w3 := hb02.trans (hb3.mono (by omega))
    go_wp2_with fail
    refine (Hi.out _ _ _ (ht.1.below hb03 ht.2) hv1).mono ?_
    rintro e w' ⟨rfl, rfl⟩
    go_wp2_with fail
    refine (Hc.out _ hb03).mono ?_
    rintro e w4 ⟨v2, rfl, hv2, hb4⟩
    have hs4 := hb4.size
    have hb04 : Below w.heap.size w w4 := hb03.trans (hb4.mono (by omega))
    go_wp2_with fail
    refine (eq_same _ _ ds _ _ _ (hv1.below hb4 (Nat.le_refl _)) hv2).mono ?_
    rintro e w5 ⟨rfl, hb5⟩
    go_wp2
    go_ret
    exact ⟨rfl, hb04.trans (hb5.mono (by omega))⟩

/-- The door's own heap meets the condition. -/
theorem door_met (os : Os) (args : Array Value) : laidMetH Tryd.prog Rows.fnExactLanePackRow.laid ((World.doorLaid Tryd.prog 400 os).forCall (fun _ _ => 0) ⟨#[], args, []⟩).memory :=
  laidMetH_of_parts3 (fuel := 8) (laidMet_of_run' 8 (by kernel_rfl) (by kernel_rfl)) (by kernel_rfl) (by kernel_rfl)

set_option maxRecDepth 100000 in
theorem lifted (os : Os) (started : os.Started) (H : Type) (enc : TypeId × Value → H) :
    ReturnsInHanded {} Tryd.checked os 5 .any (fun w args => (Rows.fnExactLanePackSpec.pre enc Tryd.prog Tryd.f5 [] false w args ∧ laidMetH Tryd.prog Rows.fnExactLanePackRow.laid w) ∧ sizedMet enc Tryd.prog Tryd.f5 (OpenSpec.ofChange Rows.fnExactLanePackSpec) false w args)
      (Rows.fnExactLanePackSpec.post enc Tryd.prog Tryd.f5 false true false false) := by
  refine returnsInHanded_of_change_and (C := Tryd.checked) (X := fun w _ => laidMetH Tryd.prog Rows.fnExactLanePackRow.laid w) (fun _ _ _ hh h => h.of_heap hh) own started (by kernel_rfl) Tryd.func5
    (ChangeSpec.witness_shaped (enc := enc) (C := Tryd.checked) (os := os) (X := fun w _ => laidMetH Tryd.prog Rows.fnExactLanePackRow.laid w) false (World.doorLaid Tryd.prog 400 os) #[.int .i64 0, .slice none 0 0] 8 rfl (World.shaped_of_RefB (by kernel_rfl) (by kernel_rfl)) (by kernel_rfl) (by kernel_rfl) (by kernel_rfl) (door_met os _)) ?_
  intro W base args ds gs before hval0 hW _ _ hL _
  have hval : ∀ (j : Nat) t v, Tryd.f5.params[j]? = some t → args[j]? = some v → Value.okWide Tryd.prog W .any base t v := hval0
  have hW' := hW
  obtain ⟨p, q, hA0, hV, rfl, hfz, hnd⟩ := hW
  have hA : DataW.TrodAll enc Tryd.prog W 0 (fun _ => true) true Tryd.f5.params.toList args.toList ds p := hA0
  rw [Tryd.params5] at hA hval
  obtain ⟨v0, vs0, d0, ds0, p0, q0, hargs, rfl, rfl, h0, r0⟩ := trodAll_cons hA
  obtain ⟨v1, vs1, d1, ds1, p1, q1, rfl, rfl, rfl, h1, r1⟩ := trodAll_cons r0
  obtain ⟨rfl, rfl, rfl⟩ := trodAll_nil r1
  obtain rfl : args = #[v0, v1] := by cases args; simp_all
  obtain ⟨a0, rfl, rfl, rfl, w0⟩ := open_int Tryd.underlying2 (hval 0 2 v0 rfl rfl) h0
  obtain ⟨a1, len1, cap1, rfl⟩ := okWide_slice Tryd.underlying24 (hval 1 24 v1 rfl rfl)
  have k1 := h1
  have lt1 : ∀ x ∈ p1, x.block < W.heap.size := by obtain ⟨m, hm⟩ := k1; exact DataW.trod_lt m _ _ _ hm
  obtain ⟨z1, w1⟩ : ∃ zs, IsRow .i64 W a1 len1 cap1 zs := by
    obtain ⟨fuel, hf⟩ := h1
    rcases open_ints Tryd.underlying24 Tryd.underlying2 (by kernel_rfl) hf with ⟨hcs, _⟩ | ⟨x, l, c, zs, hcs, _, hl, hm, hz, _, hcell, hwz⟩
    · simp [Value.cells] at hcs
      obtain ⟨rfl, rfl, rfl⟩ := hcs
      exact ⟨[], .inl ⟨rfl, rfl, rfl, rfl⟩⟩
    · simp [Value.cells] at hcs
      obtain ⟨rfl, rfl, rfl⟩ := hcs
      exact ⟨zs, .inr ⟨_, rfl, hl, hm, by simpa using hz, hcell, hwz⟩⟩
  rw [MakeChecks.laidMetH_plain _ _ _ (by kernel_rfl)] at hL
  have ht := tab_of_laid hL
  obtain ⟨g0, rfl⟩ : ∃ g0, gs = [g0] := vars1 hV
  clear hA0 hval0
  refine (walk a0 a1 len1 cap1 z1 W w0 w1 ht).mono fun e W' ⟨he, bel⟩ => ?_
  subst he
  exact ⟨_, rfl, _, _, _, [], _, _, hW', trodAll_mk1 (shut_bool Tryd.underlying4 _), (trodAll_cons_mk (shut_int Tryd.underlying2 w0) (trodAll_cons_mk (Below.trod laidOut (by kernel_rfl) (of_decide_eq_true (by kernel_rfl)) k1 bel lt1) trodAll_mk0)), Below.trodVars laidOut bel (by kernel_rfl) hV, bel.frame _, fun h => by cases h⟩

theorem said : Rows.FnExactLanePackSaid :=
  OpenClaim.holds_of_wide 5 Tryd.f5 rfl rfl rfl rfl rfl rfl rfl ⟨rfl, rfl, rfl, rfl, rfl⟩ rfl rfl rfl rfl rfl (by kernel_rfl) Tryd.func5 (by kernel_rfl)
    (of_decide_eq_true (by kernel_rfl)) (by unfold Func.isWrapper; first | (rw [if_pos (by decide +kernel)]; kernel_rfl) | (rw [if_neg (by decide +kernel)]; exact ⟨rfl, rfl⟩))
    (fun os started H enc _ => lifted os started H enc)

/-- No parameter wants a stand-in; the program's own looks are off. -/
theorem plain (f : FuncId) (fn : Func) (hf : Tryd.pinned.checked.prog.funcNamed "loop.example/g00085/laws.FnExactLanePack" = some f) (hfn : Tryd.pinned.checked.prog.funcs[f]? = some fn) :
    false = Tryd.pinned.checked.prog.looks [] ∧ ∀ (j : Nat) t, fn.params[j]? = some t → Tryd.pinned.checked.prog.wantsStandIn t = false := by
  obtain rfl : f = 5 := Option.some.inj ((show Tryd.prog.funcNamed "loop.example/g00085/laws.FnExactLanePack" = some 5 by kernel_rfl).symm.trans hf) |>.symm
  obtain rfl : fn = Tryd.f5 := (Option.some.inj (Tryd.func5.symm.trans hfn)).symm
  refine ⟨by kernel_rfl, fun j t ht => ?_⟩
  rw [Tryd.params5] at ht
  have hm : t = 2 ∨ t = 24 := by simpa using Array.mem_of_getElem? ht
  rcases hm with rfl | rfl
  · exact (show Tryd.prog.wantsStandIn 2 = false by kernel_rfl)
  · exact (show Tryd.prog.wantsStandIn 24 = false by kernel_rfl)
end Go.Proofs.YtlbkhiphnllfpahDoor.fnExactLanePack
namespace Go.Proofs.YtlbkhiphnllfpahDoor
/-- The given statement: the card. -/
theorem fnExactLanePack_card : Rows.FnExactLanePackCardSaid :=
  Claim7.holds_tied_plain_at .later [] _ _ _ _ fnExactLanePack.said (fun _ h => by cases h) (by kernel_rfl) (fun _ h => by cases h) fnExactLanePack_row_tie rfl ⟨rfl, rfl⟩ (by kernel_rfl) rfl fnExactLanePack.plain (by kernel_rfl)
#print axioms fnExactLanePack_card
end Go.Proofs.YtlbkhiphnllfpahDoor
