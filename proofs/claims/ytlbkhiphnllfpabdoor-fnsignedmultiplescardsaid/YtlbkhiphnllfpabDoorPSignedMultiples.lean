/-
  A drawn multiple and that with the other sign are together nought, whatever the code that they are drawn from.
  The card ties the listed package-level variables to the program's text, in the pruned copy that the seat holds; it says nothing of the project's other packages, commands or tests.
-/
import Derived.Test.YtlbkhiphnllfpabDoorCards
import Derived.Test.YtlbkhiphnllfpabDoorTie
import Derived.WalkKit
import Derived.ProofKit
import Derived.OpenShut
import Derived.ShutString
import Derived.ChangeOld
import Derived.Below
import Derived.OpenVars
import Derived.LaidMore
import Derived.Stop.Joined
import Derived.Test.YtlbkhiphnllfpabDoorMulK
import Derived.Test.YtlbkhiphnllfpabDoorDrawM
import Derived.Test.YtlbkhiphnllfpabDoorRow
import Derived.Test.YtlbkhiphnllfpabDoorDoor
namespace Go.Proofs.YtlbkhiphnllfpabDoor.fnSignedMultiples
open Go.ChangeShapes Go.WideShapes Go.ChangeAt Go.RowKit
set_option linter.unusedVariables false

theorem walk (a0 : Option Addr) (len0 cap0 : Nat) (z0 : List Int) (w : World) (w0 : IsRow .u8 w a0 len0 cap0 z0) (ht : Tab w ∧ 0 < w.heap.size) :
    Calls Tryd.prog 5 #[.slice a0 len0 cap0] w fun e w' => e = .returned (.bool true) ∧ Below w.heap.size w w' := by
  have HT : Hid (Tab w ∧ 0 < w.heap.size) := ht
  clear ht
  by_cases hbig : 4096 < len0
  · clear w0
    go_enter Tryd.func5, Tryd.ntmps5
    go_wp2_with fail
    refine (big_yes _ _ _ _ hbig).mono ?_
    rintro e w' ⟨rfl, rfl⟩
    go_wp2
    go_ret
    exact ⟨rfl, Below.refl _ _⟩
  have hB : Hid (Bytes w.heap.size w a0 len0) := bytes_of_row w0
  clear w0
  go_enter Tryd.func5, Tryd.ntmps5
  go_wp2_with fail
  refine (big_no _ _ _ _ hbig).mono ?_
  rintro e w' ⟨rfl, hw⟩
  obtain rfl := hw.symm
  go_wp2_with fail
  refine (DrawSignedMultiple_any _ _ _ _ (by omega) hB.out).mono ?_
  rintro e w1 ⟨x, k, rfl, hx, hk, hb1⟩
  have hs1 := hb1.size
  have hz := HT.out.2
  by_cases hbad : Ln.okB 0 x = false ∨ k < -5 ∨ 5 < k
  · have hS : Hid ((∀ W, Calls Tryd.prog 27 #[.int .u64 x, .int .i64 k] W fun e w' => e = .returned (.tuple #[.int .u64 0, .int .i64 0, .bool false]) ∧ Below W.heap.size W w') ∧
        (∀ W, Tab W → Calls Tryd.prog 26 #[.int .u64 x, .int .i64 k] W fun e w' => e = .returned (.tuple #[.int .u64 0, .int .i64 0, .bool false]) ∧ Below W.heap.size W w')) := by
      by_cases ho : k < -5 ∨ 5 < k
      · exact ⟨fun W => ssgn_out x k W ho, fun W _ => isgn_out x k W ho⟩
      · have h0 : Ln.okB 0 x = false := by rcases hbad with h | h; exact h; exact absurd h ho
        exact ⟨fun W => ssgn_no x k W hx.1 hx.2 h0 (by omega) (by omega), fun W hT => isgn_no x k W hT hx.1 hx.2 h0 (by omega) (by omega)⟩
    clear hbad
    go_wp2_with fail
    refine (hS.out.2 _ (Tab.below HT.out.1 hb1 hz)).mono ?_
    rintro e w2 ⟨rfl, hb2⟩
    have hs2 := hb2.size
    go_wp2_with fail
    refine (hS.out.1 _).mono ?_
    rintro e w3 ⟨rfl, hb3⟩
    have hbf : Below w.heap.size w w3 := (hb1.trans (hb2.mono hs1)).trans (hb3.mono (by omega))
    go_wp2
    go_ret
    exact ⟨rfl, hbf⟩
  have Kx : Hid (Ln.okB 0 x = true) := by
    cases h : Ln.okB 0 x with
    | true => rfl
    | false => exact absurd (.inl h) hbad
  have hk0 : -5 ≤ k ∧ k ≤ 5 := by omega
  clear hbad
  have hS : Hid (∀ W, Calls Tryd.prog 27 #[.int .u64 x, .int .i64 k] W fun e w' => e = .returned (.tuple #[.int .u64 (sgV x k), .int .i64 (sgC x k), .bool true]) ∧ Below W.heap.size W w') := fun W => ssgn_yes x k W hx.1 hx.2 Kx.out hk0.1 hk0.2
  have hI : Hid (∀ W, Tab W → 0 < W.heap.size → Calls Tryd.prog 26 #[.int .u64 x, .int .i64 k] W fun e w' => e = .returned (.tuple #[.int .u64 (sgV x k), .int .i64 (sgC x k), .bool true]) ∧ Below W.heap.size W w') := fun W hT hz => isgn_yes x k W hT hz hx.1 hx.2 Kx.out hk0.1 hk0.2
  have hJ : Hid (∀ W, Tab W → 0 < W.heap.size → Calls Tryd.prog 26 #[.int .u64 x, .int .i64 (-k)] W fun e w' => e = .returned (.tuple #[.int .u64 (sgV x (-k)), .int .i64 (sgC x (-k)), .bool true]) ∧ Below W.heap.size W w') := fun W hT hz => isgn_yes x (-k) W hT hz hx.1 hx.2 Kx.out (by omega) (by omega)
  obtain ⟨ok1, b1, -, c1⟩ := sg_facts x k Kx.out hk0.1 hk0.2
  obtain ⟨ok2, b2, -, c2⟩ := sg_facts x (-k) Kx.out (by omega) (by omega)
  have hback := sg_back x k Kx.out hk0.1 hk0.2
  have hA : Hid (∀ W, Tab W → Calls Tryd.prog 28 #[.int .u64 (sgV x k), .int .u64 (sgV x (-k)), .bool false] W fun e w' => e = .returned (.tuple #[.int .u64 0, .bool (addC (sgV x k) (sgV x (-k)) false), .bool true]) ∧ w' = W) := fun W hT => by
    have := iadd_yes (sgV x k) (sgV x (-k)) false W hT b1.1 b1.2 b2.1 b2.2 ok1 ok2
    rw [hback.1] at this
    exact this
  have hsum := hback.2
  clear hback ok1 ok2
  generalize addC (sgV x k) (sgV x (-k)) false = o at *
  generalize sgV x k = m at *
  generalize sgC x k = t at *
  generalize sgV x (-k) = n at *
  generalize sgC x (-k) = u at *
  have Hsum : Hid (t + u + inI o = 0) := hsum
  clear hsum
  go_wp2_with fail
  refine (hI.out _ (Tab.below HT.out.1 hb1 hz) (by omega)).mono ?_
  rintro e w2 ⟨rfl, hb2⟩
  have hb02 : Below w.heap.size w w2 := hb1.trans (hb2.mono hs1)
  have hs2 := hb02.size
  go_wp2_with fail
  refine (hS.out _).mono ?_
  rintro e w3 ⟨rfl, hb3⟩
  have hb03 : Below w.heap.size w w3 := hb02.trans (hb3.mono (by omega))
  have hs3 := hb03.size
  go_wp2_with fail
  refine (hJ.out _ (Tab.below HT.out.1 hb03 hz) (by omega)).mono ?_
  rintro e w4 ⟨rfl, hb4⟩
  have hb04 : Below w.heap.size w w4 := hb03.trans (hb4.mono (by omega))
  go_wp2_with fail
  refine (hA.out _ (Tab.below HT.out.1 hb04 hz)).mono ?_
  rintro e w' ⟨rfl, hw⟩
  obtain rfl := hw.symm
  cases o
  · have h0 : t + u = 0 := by have := Hsum.out; simpa [inI] using this
    have h1 : (t + u + 0 == 0) = true := by simp; omega
    go_wp2
    go_ret
    exact ⟨Ln.ret_bool (by simp), hb04⟩
  · have h0 : t + u + 1 = 0 := by have := Hsum.out; simpa [inI] using this
    have h1 : (t + u + 1 == 0) = true := by simp; omega
    go_wp2
    go_ret
    exact ⟨Ln.ret_bool (by simp), hb04⟩

/-- The door's own heap meets the condition. -/
theorem door_met (os : Os) (args : Array Value) : laidMetH Tryd.prog Rows.fnSignedMultiplesRow.laid ((World.doorLaid Tryd.prog 400 os).forCall (fun _ _ => 0) ⟨#[], args, []⟩).memory :=
  laidMetH_of_parts3 (fuel := 8) (laidMet_of_run' 8 (by kernel_rfl) (by kernel_rfl)) (by kernel_rfl) (by kernel_rfl)

set_option maxRecDepth 100000 in
theorem lifted (os : Os) (started : os.Started) (H : Type) (enc : TypeId × Value → H) :
    ReturnsInHanded {} Tryd.checked os 5 .any (fun w args => (Rows.fnSignedMultiplesSpec.pre enc Tryd.prog Tryd.f5 [] false w args ∧ laidMetH Tryd.prog Rows.fnSignedMultiplesRow.laid w) ∧ sizedMet enc Tryd.prog Tryd.f5 (OpenSpec.ofChange Rows.fnSignedMultiplesSpec) false w args)
      (Rows.fnSignedMultiplesSpec.post enc Tryd.prog Tryd.f5 false true false false) := by
  refine returnsInHanded_of_change_and (C := Tryd.checked) (X := fun w _ => laidMetH Tryd.prog Rows.fnSignedMultiplesRow.laid w) (fun _ _ _ hh h => h.of_heap hh) own started (by kernel_rfl) Tryd.func5
    (ChangeSpec.witness_shaped (enc := enc) (C := Tryd.checked) (os := os) (X := fun w _ => laidMetH Tryd.prog Rows.fnSignedMultiplesRow.laid w) false (World.doorLaid Tryd.prog 400 os) #[.slice none 0 0] 8 rfl (World.shaped_of_RefB (by kernel_rfl) (by kernel_rfl)) (by kernel_rfl) (by kernel_rfl) (by kernel_rfl) (door_met os _)) ?_
  intro W base args ds gs before hval0 hW _ _ hL _
  have hval : ∀ (j : Nat) t v, Tryd.f5.params[j]? = some t → args[j]? = some v → Value.okWide Tryd.prog W .any base t v := hval0
  have hW' := hW
  obtain ⟨p, q, hA0, hV, rfl, hfz, hnd⟩ := hW
  have hA : DataW.TrodAll enc Tryd.prog W 0 (fun _ => true) true Tryd.f5.params.toList args.toList ds p := hA0
  rw [Tryd.params5] at hA hval
  obtain ⟨v0, vs0, d0, ds0, p0, q0, hargs, rfl, rfl, h0, r0⟩ := trodAll_cons hA
  obtain ⟨rfl, rfl, rfl⟩ := trodAll_nil r0
  obtain rfl : args = #[v0] := by cases args; simp_all
  obtain ⟨a0, len0, cap0, rfl⟩ := okWide_slice Tryd.underlying22 (hval 0 22 v0 rfl rfl)
  have k0 := h0
  have lt0 : ∀ x ∈ p0, x.block < W.heap.size := by obtain ⟨m, hm⟩ := k0; exact DataW.trod_lt m _ _ _ hm
  obtain ⟨z0, w0⟩ : ∃ zs, IsRow .u8 W a0 len0 cap0 zs := by
    obtain ⟨fuel, hf⟩ := h0
    rcases open_ints Tryd.underlying22 Tryd.underlying5 (by kernel_rfl) hf with ⟨hcs, _⟩ | ⟨x, l, c, zs, hcs, _, hl, hm, hz, _, hcell, hwz⟩
    · simp [Value.cells] at hcs
      obtain ⟨rfl, rfl, rfl⟩ := hcs
      exact ⟨[], .inl ⟨rfl, rfl, rfl, rfl⟩⟩
    · simp [Value.cells] at hcs
      obtain ⟨rfl, rfl, rfl⟩ := hcs
      exact ⟨zs, .inr ⟨_, rfl, hl, hm, by simpa using hz, hcell, hwz⟩⟩
  rw [MakeChecks.laidMetH_plain _ _ _ (by kernel_rfl)] at hL
  have ht := tab_of_laid hL
  obtain ⟨g0, rfl⟩ : ∃ g0, gs = [g0] := vars1 hV
  clear hA0 hval0
  refine (walk a0 len0 cap0 z0 W w0 ht).mono fun e W' ⟨he, bel⟩ => ?_
  subst he
  exact ⟨_, rfl, _, _, _, [], _, _, hW', trodAll_mk1 (shut_bool Tryd.underlying4 _), (trodAll_cons_mk (Below.trod laidOut (by kernel_rfl) (of_decide_eq_true (by kernel_rfl)) k0 bel lt0) trodAll_mk0), Below.trodVars laidOut bel (by kernel_rfl) hV, bel.frame _, fun h => by cases h⟩

theorem said : Rows.FnSignedMultiplesSaid :=
  OpenClaim.holds_of_wide 5 Tryd.f5 rfl rfl rfl rfl rfl rfl rfl ⟨rfl, rfl, rfl, rfl, rfl⟩ rfl rfl rfl rfl rfl (by kernel_rfl) Tryd.func5 (by kernel_rfl)
    (of_decide_eq_true (by kernel_rfl)) (by unfold Func.isWrapper; first | (rw [if_pos (by decide +kernel)]; kernel_rfl) | (rw [if_neg (by decide +kernel)]; exact ⟨rfl, rfl⟩))
    (fun os started H enc _ => lifted os started H enc)

/-- No parameter wants a stand-in; the program's own looks are off. -/
theorem plain (f : FuncId) (fn : Func) (hf : Tryd.pinned.checked.prog.funcNamed "loop.example/g00085/laws.FnSignedMultiples" = some f) (hfn : Tryd.pinned.checked.prog.funcs[f]? = some fn) :
    false = Tryd.pinned.checked.prog.looks [] ∧ ∀ (j : Nat) t, fn.params[j]? = some t → Tryd.pinned.checked.prog.wantsStandIn t = false := by
  obtain rfl : f = 5 := Option.some.inj ((show Tryd.prog.funcNamed "loop.example/g00085/laws.FnSignedMultiples" = some 5 by kernel_rfl).symm.trans hf) |>.symm
  obtain rfl : fn = Tryd.f5 := (Option.some.inj (Tryd.func5.symm.trans hfn)).symm
  refine ⟨by kernel_rfl, fun j t ht => ?_⟩
  rw [Tryd.params5] at ht
  have hm : t = 22 := by simpa using Array.mem_of_getElem? ht
  subst hm
  · exact (show Tryd.prog.wantsStandIn 22 = false by kernel_rfl)
end Go.Proofs.YtlbkhiphnllfpabDoor.fnSignedMultiples
namespace Go.Proofs.YtlbkhiphnllfpabDoor
/-- The given statement: the card. -/
theorem fnSignedMultiples_card : Rows.FnSignedMultiplesCardSaid :=
  Claim7.holds_tied_plain_at .later [] _ _ _ _ fnSignedMultiples.said (fun _ h => by cases h) (by kernel_rfl) (fun _ h => by cases h) fnSignedMultiples_row_tie rfl ⟨rfl, rfl⟩ (by kernel_rfl) rfl fnSignedMultiples.plain (by kernel_rfl)
#print axioms fnSignedMultiples_card
end Go.Proofs.YtlbkhiphnllfpabDoor
