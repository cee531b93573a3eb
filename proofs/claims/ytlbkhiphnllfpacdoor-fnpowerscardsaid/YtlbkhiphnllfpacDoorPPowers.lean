/-
  A drawn power times the number is the next one, by its sixteen last digits, whatever the code that they are drawn from.
  The card ties the listed package-level variables to the program's text, in the pruned copy that the seat holds; it says nothing of the project's other packages, commands or tests.
-/
import Derived.Test.YtlbkhiphnllfpacDoorCards
import Derived.Test.YtlbkhiphnllfpacDoorTie
import Derived.WalkKit
import Derived.ProofKit
import Derived.OpenShut
import Derived.ShutString
import Derived.ChangeOld
import Derived.Below
import Derived.OpenVars
import Derived.LaidMore
import Derived.Stop.Joined
import Derived.Test.YtlbkhiphnllfpacDoorPrdK
import Derived.Test.YtlbkhiphnllfpacDoorDrawP
import Derived.Test.YtlbkhiphnllfpacDoorRow
import Derived.Test.YtlbkhiphnllfpacDoorDoor
namespace Go.Proofs.YtlbkhiphnllfpacDoor.fnPowers
open Go.ChangeShapes Go.WideShapes Go.ChangeAt Go.RowKit
set_option linter.unusedVariables false

theorem walk (a0 : Option Addr) (len0 cap0 : Nat) (z0 : List Int) (w : World) (w0 : IsRow .u8 w a0 len0 cap0 z0) (ht : Tab w ∧ 0 < w.heap.size) :
    Calls Tryd.prog 4 #[.slice a0 len0 cap0] w fun e w' => e = .returned (.bool true) ∧ Below w.heap.size w w' := by
  have HT : Hid (Tab w ∧ 0 < w.heap.size) := ht
  clear ht
  by_cases hbig : 4096 < len0
  · clear w0
    go_enter Tryd.func4, Tryd.ntmps4
    go_wp2_with fail
    refine (big_yes _ _ _ _ hbig).mono ?_
    rintro e w' ⟨rfl, rfl⟩
    go_wp2
    go_ret
    exact ⟨rfl, Below.refl _ _⟩
  have hB : Hid (Bytes w.heap.size w a0 len0) := bytes_of_row w0
  clear w0
  go_enter Tryd.func4, Tryd.ntmps4
  go_wp2_with fail
  refine (big_no _ _ _ _ hbig).mono ?_
  rintro e w' ⟨rfl, hw⟩
  obtain rfl := hw.symm
  go_wp2_with fail
  refine (DrawPowerOf_any _ _ _ _ (by omega) hB.out).mono ?_
  rintro e w1 ⟨x, k, rfl, hx, hk, hb1⟩
  have hs1 := hb1.size
  have hz := HT.out.2
  by_cases hbad : Ln.okB 0 x = false ∨ k < 0 ∨ 60 < k
  · have Hbad : Hid (Ln.okB 0 x = false ∨ k < 0 ∨ 60 < k) := hbad
    clear hbad
    go_wp2_with fail
    refine (ipow_no x k _ (Tab.below HT.out.1 hb1 hz) hx.1 hx.2 Hbad.out).mono ?_
    rintro e w2 ⟨rfl, hb2⟩
    have hb02 : Below w.heap.size w w2 := hb1.trans (hb2.mono hs1)
    have hs2 := hb02.size
    go_wp2_with fail
    refine (spow_no x k _ hx.1 hx.2 Hbad.out).mono ?_
    rintro e w3 ⟨rfl, hb3⟩
    go_wp2
    go_ret
    exact ⟨rfl, hb02.trans (hb3.mono (by omega))⟩
  have Kx : Hid (Ln.okB 0 x = true) := by
    cases h : Ln.okB 0 x with
    | true => rfl
    | false => exact absurd (.inl h) hbad
  obtain ⟨n, rfl⟩ := Int.eq_ofNat_of_zero_le (show 0 ≤ k by omega)
  have hn : n ≤ 60 := by omega
  clear hbad hk
  have hf := pw_facts x Kx.out n
  have hI : Hid (∀ W, Tab W → 0 < W.heap.size → Calls Tryd.prog 16 #[.int .u64 x, .int .i64 (n : Int)] W fun e w' => e = .returned (.tuple #[.int .u64 (pw x n), .bool true]) ∧ Below W.heap.size W w') := fun W hT hz => ipow_yes x n W hT hz hx.1 hx.2 Kx.out hn
  have hS : Hid (∀ W, Calls Tryd.prog 17 #[.int .u64 x, .int .i64 (n : Int)] W fun e w' => e = .returned (.tuple #[.int .u64 (pw x n), .bool true]) ∧ Below W.heap.size W w') := fun W => spow_yes x n W hx.1 hx.2 Kx.out hn
  have hP : Hid (∀ W, Tab W → 0 < W.heap.size → Calls Tryd.prog 14 #[.int .u64 (pw x n), .int .u64 x] W fun e w' => e = .returned (.tuple #[.int .u64 (prH (pw x n) x), .int .u64 (prL (pw x n) x), .bool true]) ∧ Below W.heap.size W w') := fun W hT hz => iprod_yes (pw x n) x W hT hz hf.2.1 hf.2.2 hx.1 hx.2 hf.1 Kx.out
  have h1 : Hid (∀ W, Tab W → 0 < W.heap.size → Calls Tryd.prog 16 #[.int .u64 x, .int .i64 0] W fun e w' => e = .returned (.tuple #[.int .u64 1, .bool true]) ∧ Below W.heap.size W w') := fun W hT hz => ipow_yes x 0 W hT hz hx.1 hx.2 Kx.out (by decide)
  have hN : Hid (∀ W, Tab W → 0 < W.heap.size → Calls Tryd.prog 16 #[.int .u64 x, .int .i64 ((n : Int) + 1)] W fun e w' => e = .returned (.tuple #[.int .u64 (if n < 60 then prL (pw x n) x else 0), .bool (decide (n < 60))]) ∧ Below W.heap.size W w') := fun W hT hz => by
    by_cases h : n < 60
    · rw [if_pos h, show decide (n < 60) = true from decide_eq_true h]
      exact ipow_yes x (n + 1) W hT hz hx.1 hx.2 Kx.out (by omega)
    · rw [if_neg h, show decide (n < 60) = false from decide_eq_false h]
      exact ipow_no x ((n : Int) + 1) W hT hx.1 hx.2 (.inr (.inr (by omega)))
  clear hf Kx
  generalize prH (pw x n) x = H at *
  generalize prL (pw x n) x = L at *
  generalize pw x n = p at *
  go_wp2_with fail
  refine (hI.out _ (Tab.below HT.out.1 hb1 hz) (by omega)).mono ?_
  rintro e w2 ⟨rfl, hb2⟩
  have hb02 : Below w.heap.size w w2 := hb1.trans (hb2.mono hs1)
  have hs2 := hb02.size
  go_wp2_with fail
  refine (hS.out _).mono ?_
  rintro e w3 ⟨rfl, hb3⟩
  have hb03 : Below w.heap.size w w3 := hb02.trans (hb3.mono (by omega))
  have hs3 := hb03.size
  clear hI hS hb1 hb2 hb3 hb02 hs1 hs2
  go_wp2_with fail
  refine (hP.out _ (Tab.below HT.out.1 hb03 hz) (by omega)).mono ?_
  rintro e w4 ⟨rfl, hb4⟩
  have hb04 : Below w.heap.size w w4 := hb03.trans (hb4.mono (by omega))
  have hs4 := hb04.size
  clear hP hb4 hb03 hs3
  go_wp2_with fail
  refine (hN.out _ (Tab.below HT.out.1 hb04 hz) (by omega)).mono ?_
  rintro e w5 ⟨rfl, hb5⟩
  have hb05 : Below w.heap.size w w5 := hb04.trans (hb5.mono (by omega))
  have hs5 := hb05.size
  clear hN hb5 hb04 hs4
  by_cases hlt : n < 60
  · rw [if_pos hlt, show decide (n < 60) = true from decide_eq_true hlt]
    go_wp2_with fail
    refine (h1.out _ (Tab.below HT.out.1 hb05 hz) (by omega)).mono ?_
    rintro e w6 ⟨rfl, hb6⟩
    have hne : ((n : Int) == 60) = false := by simp; omega
    go_wp2
    go_ret
    exact ⟨Ln.ret_bool (by simp), hb05.trans (hb6.mono (by omega))⟩
  · rw [if_neg hlt, show decide (n < 60) = false from decide_eq_false hlt]
    have hne : (n : Int) = 60 := by omega
    go_wp2_with fail
    refine (h1.out _ (Tab.below HT.out.1 hb05 hz) (by omega)).mono ?_
    rintro e w6 ⟨rfl, hb6⟩
    go_wp2
    go_ret
    exact ⟨Ln.ret_bool (by simp), hb05.trans (hb6.mono (by omega))⟩

/-- The door's own heap meets the condition. -/
theorem door_met (os : Os) (args : Array Value) : laidMetH Tryd.prog Rows.fnPowersRow.laid ((World.doorLaid Tryd.prog 400 os).forCall (fun _ _ => 0) ⟨#[], args, []⟩).memory :=
  laidMetH_of_parts3 (fuel := 8) (laidMet_of_run' 8 (by kernel_rfl) (by kernel_rfl)) (by kernel_rfl) (by kernel_rfl)

set_option maxRecDepth 100000 in
theorem lifted (os : Os) (started : os.Started) (H : Type) (enc : TypeId × Value → H) :
    ReturnsInHanded {} Tryd.checked os 4 .any (fun w args => (Rows.fnPowersSpec.pre enc Tryd.prog Tryd.f4 [] false w args ∧ laidMetH Tryd.prog Rows.fnPowersRow.laid w) ∧ sizedMet enc Tryd.prog Tryd.f4 (OpenSpec.ofChange Rows.fnPowersSpec) false w args)
      (Rows.fnPowersSpec.post enc Tryd.prog Tryd.f4 false true false false) := by
  refine returnsInHanded_of_change_and (C := Tryd.checked) (X := fun w _ => laidMetH Tryd.prog Rows.fnPowersRow.laid w) (fun _ _ _ hh h => h.of_heap hh) own started (by kernel_rfl) Tryd.func4
    (ChangeSpec.witness_shaped (enc := enc) (C := Tryd.checked) (os := os) (X := fun w _ => laidMetH Tryd.prog Rows.fnPowersRow.laid w) false (World.doorLaid Tryd.prog 400 os) #[.slice none 0 0] 8 rfl (World.shaped_of_RefB (by kernel_rfl) (by kernel_rfl)) (by kernel_rfl) (by kernel_rfl) (by kernel_rfl) (door_met os _)) ?_
  intro W base args ds gs before hval0 hW _ _ hL _
  have hval : ∀ (j : Nat) t v, Tryd.f4.params[j]? = some t → args[j]? = some v → Value.okWide Tryd.prog W .any base t v := hval0
  have hW' := hW
  obtain ⟨p, q, hA0, hV, rfl, hfz, hnd⟩ := hW
  have hA : DataW.TrodAll enc Tryd.prog W 0 (fun _ => true) true Tryd.f4.params.toList args.toList ds p := hA0
  rw [Tryd.params4] at hA hval
  obtain ⟨v0, vs0, d0, ds0, p0, q0, hargs, rfl, rfl, h0, r0⟩ := trodAll_cons hA
  obtain ⟨rfl, rfl, rfl⟩ := trodAll_nil r0
  obtain rfl : args = #[v0] := by cases args; simp_all
  obtain ⟨a0, len0, cap0, rfl⟩ := okWide_slice Tryd.underlying22 (hval 0 22 v0 rfl rfl)
  have k0 := h0
  have lt0 : ∀ x ∈ p0, x.block < W.heap.size := by obtain ⟨m, hm⟩ := k0; exact DataW.trod_lt m _ _ _ hm
  obtain ⟨z0, w0⟩ : ∃ zs, IsRow .u8 W a0 len0 cap0 zs := by
    obtain ⟨fuel, hf⟩ := h0
    rcases open_ints Tryd.underlying22 Tryd.underlying5 (by kernel_rfl) hf with ⟨hcs, _⟩ | ⟨x, l, c, zs, hcs, _, hl, hm, hz, _, hcell, hwz⟩
    · simp [Value.cells] at hcs
      obtain ⟨rfl, rfl, rfl⟩ := hcs
      exact ⟨[], .inl ⟨rfl, rfl, rfl, rfl⟩⟩
    · simp [Value.cells] at hcs
      obtain ⟨rfl, rfl, rfl⟩ := hcs
      exact ⟨zs, .inr ⟨_, rfl, hl, hm, by simpa using hz, hcell, hwz⟩⟩
  rw [MakeChecks.laidMetH_plain _ _ _ (by kernel_rfl)] at hL
  have ht := tab_of_laid hL
  obtain ⟨g0, rfl⟩ : ∃ g0, gs = [g0] := vars1 hV
  clear hA0 hval0
  refine (walk a0 len0 cap0 z0 W w0 ht).mono fun e W' ⟨he, bel⟩ => ?_
  subst he
  exact ⟨_, rfl, _, _, _, [], _, _, hW', trodAll_mk1 (shut_bool Tryd.underlying4 _), (trodAll_cons_mk (Below.trod laidOut (by kernel_rfl) (of_decide_eq_true (by kernel_rfl)) k0 bel lt0) trodAll_mk0), Below.trodVars laidOut bel (by kernel_rfl) hV, bel.frame _, fun h => by cases h⟩

theorem said : Rows.FnPowersSaid :=
  OpenClaim.holds_of_wide 4 Tryd.f4 rfl rfl rfl rfl rfl rfl rfl ⟨rfl, rfl, rfl, rfl, rfl⟩ rfl rfl rfl rfl rfl (by kernel_rfl) Tryd.func4 (by kernel_rfl)
    (of_decide_eq_true (by kernel_rfl)) (by unfold Func.isWrapper; first | (rw [if_pos (by decide +kernel)]; kernel_rfl) | (rw [if_neg (by decide +kernel)]; exact ⟨rfl, rfl⟩))
    (fun os started H enc _ => lifted os started H enc)

/-- No parameter wants a stand-in; the program's own looks are off. -/
theorem plain (f : FuncId) (fn : Func) (hf : Tryd.pinned.checked.prog.funcNamed "loop.example/g00085/laws.FnPowers" = some f) (hfn : Tryd.pinned.checked.prog.funcs[f]? = some fn) :
    false = Tryd.pinned.checked.prog.looks [] ∧ ∀ (j : Nat) t, fn.params[j]? = some t → Tryd.pinned.checked.prog.wantsStandIn t = false := by
  obtain rfl : f = 4 := Option.some.inj ((show Tryd.prog.funcNamed "loop.example/g00085/laws.FnPowers" = some 4 by kernel_rfl).symm.trans hf) |>.symm
  obtain rfl : fn = Tryd.f4 := (Option.some.inj (Tryd.func4.symm.trans hfn)).symm
  refine ⟨by kernel_rfl, fun j t ht => ?_⟩
  rw [Tryd.params4] at ht
  have hm : t = 22 := by simpa using Array.mem_of_getElem? ht
  subst hm
  · exact (show Tryd.prog.wantsStandIn 22 = false by kernel_rfl)
end Go.Proofs.YtlbkhiphnllfpacDoor.fnPowers
namespace Go.Proofs.YtlbkhiphnllfpacDoor
/-- The given statement: the card. -/
theorem fnPowers_card : Rows.FnPowersCardSaid :=
  Claim7.holds_tied_plain_at .later [] _ _ _ _ fnPowers.said (fun _ h => by cases h) (by kernel_rfl) (fun _ h => by cases h) fnPowers_row_tie rfl ⟨rfl, rfl⟩ (by kernel_rfl) rfl fnPowers.plain (by kernel_rfl)
#print axioms fnPowers_card
end Go.Proofs.YtlbkhiphnllfpacDoor
