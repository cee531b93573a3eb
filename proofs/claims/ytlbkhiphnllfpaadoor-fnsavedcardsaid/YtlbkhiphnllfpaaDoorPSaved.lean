/-
  Three drawn words in fours stand together for their two words and what left, whatever the code that they are drawn from.
  The card ties the listed package-level variables to the program's text, in the pruned copy that the seat holds; it says nothing of the project's other packages, commands or tests.
-/
import Derived.Test.YtlbkhiphnllfpaaDoorCards
import Derived.Test.YtlbkhiphnllfpaaDoorTie
import Derived.WalkKit
import Derived.ProofKit
import Derived.OpenShut
import Derived.ShutString
import Derived.ChangeOld
import Derived.Below
import Derived.OpenVars
import Derived.LaidMore
import Derived.Stop.Joined
import Derived.Test.YtlbkhiphnllfpaaDoorDrawS
import Derived.Test.YtlbkhiphnllfpaaDoorSaveM
import Derived.Test.YtlbkhiphnllfpaaDoorRow
import Derived.Test.YtlbkhiphnllfpaaDoorValue
import Derived.Test.YtlbkhiphnllfpaaDoorDoor
namespace Go.Proofs.YtlbkhiphnllfpaaDoor.fnSaved
open Go.ChangeShapes Go.WideShapes Go.ChangeAt Go.RowKit
set_option linter.unusedVariables false

theorem walk (a0 : Option Addr) (len0 cap0 : Nat) (z0 : List Int) (w : World) (w0 : IsRow .u8 w a0 len0 cap0 z0) (ht : Tab w ∧ 0 < w.heap.size) :
    Calls Tryd.prog 5 #[.slice a0 len0 cap0] w fun e w' => e = .returned (.bool true) ∧ Below w.heap.size w w' := by
  by_cases hbig : 4096 < len0
  · clear w0
    go_enter Tryd.func5, Tryd.ntmps5
    go_wp2_with fail
    refine (big_yes _ _ _ _ hbig).mono ?_
    rintro e w' ⟨rfl, rfl⟩
    go_wp2
    go_ret
    exact ⟨rfl, Below.refl _ _⟩
  have hB : Hid (Bytes w.heap.size w a0 len0) := bytes_of_row w0
  clear w0
  go_enter Tryd.func5, Tryd.ntmps5
  go_wp2_with fail
  refine (big_no _ _ _ _ hbig).mono ?_
  rintro e w' ⟨rfl, hw⟩
  obtain rfl := hw.symm
  go_wp2_with fail
  refine (DrawSave_any _ _ _ _ (by omega) hB.out).mono ?_
  rintro e w1 ⟨a, b, c, rfl, ha, hb, hc, hb1⟩
  have hs1 := hb1.size
  have ht1 := ht.1.below hb1 ht.2
  have hz1 : 0 < w1.heap.size := by have := ht.2; omega
  have hX := xOf_bd a b c
  have hK := tw_bd (fOf a b c)
  have hF : 0 ≤ fOf a b c ∧ fOf a b c ≤ 18446744073709551615 := recV_bd _ _ _
  have hO := twOut_bd _ hF.1 hF.2
  have HV : Hid (W 1 a + W 1 b + W 1 c = W 1 (xOf a b c) + W 1 (tw (fOf a b c)) + twOut (fOf a b c) * 10 ^ 16) := save_Int a b c ha hb hc
  have I : Hid (∀ W', Tab W' → 0 < W'.heap.size → Calls Tryd.prog 23 #[.int .u64 a, .int .u64 b, .int .u64 c] W' fun e w' => e = .returned (.tuple #[.int .u64 (xOf a b c), .int .u64 (tw (fOf a b c)), .int .u64 (twOut (fOf a b c))]) ∧ Below W'.heap.size W' w') := fun W' hT hZ => isave_any a b c W' hT hZ
  have S : Hid (∀ W', Calls Tryd.prog 24 #[.int .u64 a, .int .u64 b, .int .u64 c] W' fun e w' => e = .returned (.tuple #[.int .u64 (xOf a b c), .int .u64 (tw (fOf a b c)), .int .u64 (twOut (fOf a b c))]) ∧ Below W'.heap.size W' w') := fun W' => ssave_any a b c W'
  generalize xOf a b c = s at *
  generalize tw (fOf a b c) = k at *
  generalize twOut (fOf a b c) = o at *
  clear hF
  have hgo : decide (1 < o) = false := by simp; omega
  go_wp2_with fail
  refine (I.out _ ht1 hz1).mono ?_
  rintro e w2 ⟨rfl, hb2⟩
  have hb02 : Below w.heap.size w w2 := hb1.trans (hb2.mono hs1)
  have hs2 := hb02.size
  go_wp2_with fail
  refine (S.out _).mono ?_
  rintro e w3 ⟨rfl, hb3⟩
  have hb03 : Below w.heap.size w w3 := hb02.trans (hb3.mono (by omega))
  have hs3 := hb03.size
  clear I S
  go_wp2_with fail
  refine (value_any 1 a _ (by decide) ha.1 ha.2 (ok_four _)).mono ?_
  rintro e w4 ⟨Ra, rfl, ca, va, la, hb4⟩
  have HA : Hid (Canon Ra ∧ vl Ra = W 1 a) := ⟨ca, by rw [va, W_vl 1 _ (ok_four _)]⟩
  have hb04 : Below w.heap.size w w4 := hb03.trans (hb4.mono (by omega))
  have hs4 := hb04.size
  clear ca va
  go_wp2_with fail
  refine (value_any 1 b _ (by decide) hb.1 hb.2 (ok_four _)).mono ?_
  rintro e w5 ⟨Rb, rfl, cb, vb, lb, hb5⟩
  have HB : Hid (Canon Rb ∧ vl Rb = W 1 b) := ⟨cb, by rw [vb, W_vl 1 _ (ok_four _)]⟩
  have hb05 : Below w.heap.size w w5 := hb04.trans (hb5.mono (by omega))
  have hs5 := hb05.size
  clear cb vb
  go_wp2_with fail
  refine (NatAdd_any Ra Rb _ HA.out.1 HB.out.1 (by omega) (by omega)).mono ?_
  rintro e w6 ⟨R1, rfl, c1, v1, l1, hb6⟩
  have H1 : Hid (Canon R1 ∧ vl R1 = W 1 a + W 1 b) := ⟨c1, by rw [v1, HA.out.2, HB.out.2]⟩
  have hb06 : Below w.heap.size w w6 := hb05.trans (hb6.mono (by omega))
  have hs6 := hb06.size
  clear c1 v1
  go_wp2_with fail
  refine (value_any 1 c _ (by decide) hc.1 hc.2 (ok_four _)).mono ?_
  rintro e w7 ⟨Rc, rfl, cc, vc, lc, hb7⟩
  have HC : Hid (Canon Rc ∧ vl Rc = W 1 c) := ⟨cc, by rw [vc, W_vl 1 _ (ok_four _)]⟩
  have hb07 : Below w.heap.size w w7 := hb06.trans (hb7.mono (by omega))
  have hs7 := hb07.size
  clear cc vc
  go_wp2_with fail
  refine (NatAdd_any R1 Rc _ H1.out.1 HC.out.1 (by omega) (by omega)).mono ?_
  rintro e w8 ⟨R2, rfl, c2, v2, l2, hb8⟩
  have H2 : Hid (Canon R2 ∧ vl R2 = W 1 a + W 1 b + W 1 c) := ⟨c2, by rw [v2, H1.out.2, HC.out.2]⟩
  have hb08 : Below w.heap.size w w8 := hb07.trans (hb8.mono (by omega))
  have hs8 := hb08.size
  clear c2 v2
  go_wp2_with fail
  refine (value_any 1 s _ (by decide) hX.1 hX.2 (ok_four _)).mono ?_
  rintro e w9 ⟨Rs, rfl, cs, vs, ls, hb9⟩
  have HS : Hid (Canon Rs ∧ vl Rs = W 1 s) := ⟨cs, by rw [vs, W_vl 1 _ (ok_four _)]⟩
  have hb09 : Below w.heap.size w w9 := hb08.trans (hb9.mono (by omega))
  have hs9 := hb09.size
  clear cs vs
  go_wp2_with fail
  refine (value_any 1 k _ (by decide) hK.1 hK.2 (ok_four _)).mono ?_
  rintro e w10 ⟨Rk, rfl, ck, vk, lk, hb10⟩
  have HK : Hid (Canon Rk ∧ vl Rk = W 1 k) := ⟨ck, by rw [vk, W_vl 1 _ (ok_four _)]⟩
  have hb010 : Below w.heap.size w w10 := hb09.trans (hb10.mono (by omega))
  have hs10 := hb010.size
  clear ck vk
  go_wp2_with fail
  refine (NatAdd_any Rs Rk _ HS.out.1 HK.out.1 (by omega) (by omega)).mono ?_
  rintro e w11 ⟨R3, rfl, c3, v3, l3, hb11⟩
  have H3 : Hid (Canon R3 ∧ vl R3 = W 1 s + W 1 k) := ⟨c3, by rw [v3, HS.out.2, HK.out.2]⟩
  have hb011 : Below w.heap.size w w11 := hb010.trans (hb11.mono (by omega))
  have hs11 := hb011.size
  clear c3 v3
  go_wp2_with fail
  refine (above_any R3 o _ H3.out.1 (by omega) hO.1 (by omega)).mono ?_
  rintro e w12 ⟨R4, rfl, c4, v4, l4, hb12⟩
  have hb012 : Below w.heap.size w w12 := hb011.trans (hb12.mono (by omega))
  have heq : R2 = R4 := canon_unique R2 R4 H2.out.1 c4 (by rw [H2.out.2, v4, H3.out.2, HV.out])
  clear c4 v4
  subst heq
  go_wp2
  go_ret
  exact ⟨rfl, hb012⟩

/-- The door's own heap meets the condition. -/
theorem door_met (os : Os) (args : Array Value) : laidMetH Tryd.prog Rows.fnSavedRow.laid ((World.doorLaid Tryd.prog 400 os).forCall (fun _ _ => 0) ⟨#[], args, []⟩).memory :=
  laidMetH_of_parts3 (fuel := 8) (laidMet_of_run' 8 (by kernel_rfl) (by kernel_rfl)) (by kernel_rfl) (by kernel_rfl)

set_option maxRecDepth 100000 in
theorem lifted (os : Os) (started : os.Started) (H : Type) (enc : TypeId × Value → H) :
    ReturnsInHanded {} Tryd.checked os 5 .any (fun w args => (Rows.fnSavedSpec.pre enc Tryd.prog Tryd.f5 [] false w args ∧ laidMetH Tryd.prog Rows.fnSavedRow.laid w) ∧ sizedMet enc Tryd.prog Tryd.f5 (OpenSpec.ofChange Rows.fnSavedSpec) false w args)
      (Rows.fnSavedSpec.post enc Tryd.prog Tryd.f5 false true false false) := by
  refine returnsInHanded_of_change_and (C := Tryd.checked) (X := fun w _ => laidMetH Tryd.prog Rows.fnSavedRow.laid w) (fun _ _ _ hh h => h.of_heap hh) own started (by kernel_rfl) Tryd.func5
    (ChangeSpec.witness_shaped (enc := enc) (C := Tryd.checked) (os := os) (X := fun w _ => laidMetH Tryd.prog Rows.fnSavedRow.laid w) false (World.doorLaid Tryd.prog 400 os) #[.slice none 0 0] 8 rfl (World.shaped_of_RefB (by kernel_rfl) (by kernel_rfl)) (by kernel_rfl) (by kernel_rfl) (by kernel_rfl) (door_met os _)) ?_
  intro W base args ds gs before hval0 hW _ _ hL _
  have hval : ∀ (j : Nat) t v, Tryd.f5.params[j]? = some t → args[j]? = some v → Value.okWide Tryd.prog W .any base t v := hval0
  have hW' := hW
  obtain ⟨p, q, hA0, hV, rfl, hfz, hnd⟩ := hW
  have hA : DataW.TrodAll enc Tryd.prog W 0 (fun _ => true) true Tryd.f5.params.toList args.toList ds p := hA0
  rw [Tryd.params5] at hA hval
  obtain ⟨v0, vs0, d0, ds0, p0, q0, hargs, rfl, rfl, h0, r0⟩ := trodAll_cons hA
  obtain ⟨rfl, rfl, rfl⟩ := trodAll_nil r0
  obtain rfl : args = #[v0] := by cases args; simp_all
  obtain ⟨a0, len0, cap0, rfl⟩ := okWide_slice Tryd.underlying22 (hval 0 22 v0 rfl rfl)
  have k0 := h0
  have lt0 : ∀ x ∈ p0, x.block < W.heap.size := by obtain ⟨m, hm⟩ := k0; exact DataW.trod_lt m _ _ _ hm
  obtain ⟨z0, w0⟩ : ∃ zs, IsRow .u8 W a0 len0 cap0 zs := by
    obtain ⟨fuel, hf⟩ := h0
    rcases open_ints Tryd.underlying22 Tryd.underlying5 (by kernel_rfl) hf with ⟨hcs, _⟩ | ⟨x, l, c, zs, hcs, _, hl, hm, hz, _, hcell, hwz⟩
    · simp [Value.cells] at hcs
      obtain ⟨rfl, rfl, rfl⟩ := hcs
      exact ⟨[], .inl ⟨rfl, rfl, rfl, rfl⟩⟩
    · simp [Value.cells] at hcs
      obtain ⟨rfl, rfl, rfl⟩ := hcs
      exact ⟨zs, .inr ⟨_, rfl, hl, hm, by simpa using hz, hcell, hwz⟩⟩
  rw [MakeChecks.laidMetH_plain _ _ _ (by kernel_rfl)] at hL
  have ht := tab_of_laid hL
  obtain ⟨g0, rfl⟩ : ∃ g0, gs = [g0] := vars1 hV
  clear hA0 hval0
  refine (walk a0 len0 cap0 z0 W w0 ht).mono fun e W' ⟨he, bel⟩ => ?_
  subst he
  exact ⟨_, rfl, _, _, _, [], _, _, hW', trodAll_mk1 (shut_bool Tryd.underlying4 _), (trodAll_cons_mk (Below.trod laidOut (by kernel_rfl) (of_decide_eq_true (by kernel_rfl)) k0 bel lt0) trodAll_mk0), Below.trodVars laidOut bel (by kernel_rfl) hV, bel.frame _, fun h => by cases h⟩

theorem said : Rows.FnSavedSaid :=
  OpenClaim.holds_of_wide 5 Tryd.f5 rfl rfl rfl rfl rfl rfl rfl ⟨rfl, rfl, rfl, rfl, rfl⟩ rfl rfl rfl rfl rfl (by kernel_rfl) Tryd.func5 (by kernel_rfl)
    (of_decide_eq_true (by kernel_rfl)) (by unfold Func.isWrapper; first | (rw [if_pos (by decide +kernel)]; kernel_rfl) | (rw [if_neg (by decide +kernel)]; exact ⟨rfl, rfl⟩))
    (fun os started H enc _ => lifted os started H enc)

/-- No parameter wants a stand-in; the program's own looks are off. -/
theorem plain (f : FuncId) (fn : Func) (hf : Tryd.pinned.checked.prog.funcNamed "loop.example/g00085/laws.FnSaved" = some f) (hfn : Tryd.pinned.checked.prog.funcs[f]? = some fn) :
    false = Tryd.pinned.checked.prog.looks [] ∧ ∀ (j : Nat) t, fn.params[j]? = some t → Tryd.pinned.checked.prog.wantsStandIn t = false := by
  obtain rfl : f = 5 := Option.some.inj ((show Tryd.prog.funcNamed "loop.example/g00085/laws.FnSaved" = some 5 by kernel_rfl).symm.trans hf) |>.symm
  obtain rfl : fn = Tryd.f5 := (Option.some.inj (Tryd.func5.symm.trans hfn)).symm
  refine ⟨by kernel_rfl, fun j t ht => ?_⟩
  rw [Tryd.params5] at ht
  have hm : t = 22 := by simpa using Array.mem_of_getElem? ht
  subst hm
  · exact (show Tryd.prog.wantsStandIn 22 = false by kernel_rfl)
end Go.Proofs.YtlbkhiphnllfpaaDoor.fnSaved
namespace Go.Proofs.YtlbkhiphnllfpaaDoor
/-- The given statement: the card. -/
theorem fnSaved_card : Rows.FnSavedCardSaid :=
  Claim7.holds_tied_plain_at .later [] _ _ _ _ fnSaved.said (fun _ h => by cases h) (by kernel_rfl) (fun _ h => by cases h) fnSaved_row_tie rfl ⟨rfl, rfl⟩ (by kernel_rfl) rfl fnSaved.plain (by kernel_rfl)
#print axioms fnSaved_card
end Go.Proofs.YtlbkhiphnllfpaaDoor
