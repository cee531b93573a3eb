/-
  A sum of two drawn words goes both ways and keeps what they stand for, with what leaves it; a word and its nines give nines, and one more noughts, whatever the code that they are drawn from.
  The card ties the listed package-level variables to the program's text, in the pruned copy that the seat holds; it says nothing of the project's other packages, commands or tests.
-/
import Derived.Test.YtlbkhiphnllfpaaDoorCards
import Derived.Test.YtlbkhiphnllfpaaDoorTie
import Derived.WalkKit
import Derived.ProofKit
import Derived.OpenShut
import Derived.ShutString
import Derived.ChangeOld
import Derived.Below
import Derived.OpenVars
import Derived.LaidMore
import Derived.Stop.Joined
import Derived.Test.YtlbkhiphnllfpaaDoorDraw5
import Derived.Test.YtlbkhiphnllfpaaDoorSumsM
import Derived.Test.YtlbkhiphnllfpaaDoorRow
import Derived.Test.YtlbkhiphnllfpaaDoorValue
import Derived.Test.YtlbkhiphnllfpaaDoorDoor
namespace Go.Proofs.YtlbkhiphnllfpaaDoor.fnLaneSums
open Go.ChangeShapes Go.WideShapes Go.ChangeAt Go.RowKit
set_option linter.unusedVariables false

theorem walk (a0 : Option Addr) (len0 cap0 : Nat) (z0 : List Int) (w : World) (w0 : IsRow .u8 w a0 len0 cap0 z0) (ht : Tab w ∧ 0 < w.heap.size) :
    Calls Tryd.prog 4 #[.slice a0 len0 cap0] w fun e w' => e = .returned (.bool true) ∧ Below w.heap.size w w' := by
  by_cases hbig : 4096 < len0
  · clear w0
    go_enter Tryd.func4, Tryd.ntmps4
    go_wp2_with fail
    refine (big_yes _ _ _ _ hbig).mono ?_
    rintro e w' ⟨rfl, rfl⟩
    go_wp2
    go_ret
    exact ⟨rfl, Below.refl _ _⟩
  have hB : Hid (Bytes w.heap.size w a0 len0) := bytes_of_row w0
  clear w0
  go_enter Tryd.func4, Tryd.ntmps4
  go_wp2_with fail
  refine (big_no _ _ _ _ hbig).mono ?_
  rintro e w' ⟨rfl, hw⟩
  obtain rfl := hw.symm
  go_wp2_with fail
  refine (DrawLaneAdd_any _ _ _ _ (by omega) hB.out).mono ?_
  rintro e w1 ⟨a, b, i, rfl, ha, hb, hb1⟩
  have hs1 := hb1.size
  have ht1 := ht.1.below hb1 ht.2
  by_cases hk : Ln.okB 0 a = false ∨ Ln.okB 0 b = false
  · go_wp2_with fail
    refine (iadd_no a b i _ ht1 ha.1 ha.2 hb.1 hb.2 hk).mono ?_
    rintro e w' ⟨rfl, rfl⟩
    go_wp2_with fail
    refine (iadd_no b a i _ ht1 hb.1 hb.2 ha.1 ha.2 hk.symm).mono ?_
    rintro e w' ⟨rfl, rfl⟩
    go_wp2_with fail
    refine (sadd_no a b i _ ha.1 ha.2 hb.1 hb.2 hk).mono ?_
    rintro e w2 ⟨rfl, hb2⟩
    have hbf : Below w.heap.size w w2 := hb1.trans (hb2.mono hs1)
    clear hk
    go_wp2
    go_ret
    exact ⟨rfl, hbf⟩
  have Ka : Hid (Ln.okB 0 a = true) := by
    cases h : Ln.okB 0 a with
    | true => rfl
    | false => exact absurd (.inl h) hk
  have Kb : Hid (Ln.okB 0 b = true) := by
    cases h : Ln.okB 0 b with
    | true => rfl
    | false => exact absurd (.inr h) hk
  clear hk
  have HV := add_value a b i Ka.out Kb.out
  have hcomm : Hid (addV b a i = addV a b i ∧ addC b a i = addC a b i) := ⟨addV_comm b a i, addC_comm b a i⟩
  have hsu : 0 ≤ addV a b i ∧ addV a b i ≤ 18446744073709551615 := Sm_u64 _ (sdF_nine _ _ _)
  have Ks : Hid (Ln.okB 0 (addV a b i) = true) := ok_Sm _ (sdF_nine _ _ _)
  obtain ⟨s, hs⟩ : ∃ s, s = addV a b i := ⟨_, rfl⟩
  obtain ⟨o, ho⟩ : ∃ o, o = addC a b i := ⟨_, rfl⟩
  have hI1 := fun W hT => iadd_yes a b i W hT ha.1 ha.2 hb.1 hb.2 Ka.out Kb.out
  have hI2 := fun W hT => iadd_yes b a i W hT hb.1 hb.2 ha.1 ha.2 Kb.out Ka.out
  have hI3 := fun W => sadd_yes a b i W ha.1 ha.2 hb.1 hb.2 Ka.out Kb.out
  rw [hcomm.out.1, hcomm.out.2] at hI2
  rw [← hs] at HV hsu Ks hI1 hI2 hI3
  rw [← ho] at HV hI1 hI2 hI3
  clear hs ho hcomm
  have I1 : Hid (∀ W, Tab W → Calls Tryd.prog 15 #[.int .u64 a, .int .u64 b, .bool i] W fun e w' => e = .returned (.tuple #[.int .u64 s, .bool o, .bool true]) ∧ w' = W) := hI1
  have I2 : Hid (∀ W, Tab W → Calls Tryd.prog 15 #[.int .u64 b, .int .u64 a, .bool i] W fun e w' => e = .returned (.tuple #[.int .u64 s, .bool o, .bool true]) ∧ w' = W) := hI2
  have I3 : Hid (∀ W, Calls Tryd.prog 16 #[.int .u64 a, .int .u64 b, .bool i] W fun e w' => e = .returned (.tuple #[.int .u64 s, .bool o, .bool true]) ∧ Below W.heap.size W w') := hI3
  have HV' : Hid (vl (digits 0 a) + vl (digits 0 b) + inI i = vl (digits 0 s) + inI o * 10 ^ 16) := HV
  have hn := add_nines a ha.1 ha.2 Ka.out
  have nb := nine_bd a
  have Kn : Hid (Ln.okB 0 (nine a) = true) := nine_ok a ha.1 ha.2 Ka.out
  have hN := fun W hT => inines_yes a W hT ha.1 ha.2 Ka.out
  obtain ⟨c, hc⟩ : ∃ c, c = nine a := ⟨_, rfl⟩
  rw [← hc] at hn nb Kn hN
  clear hc
  have hJ1 := fun W hT => iadd_yes a c false W hT ha.1 ha.2 nb.1 nb.2 Ka.out Kn.out
  have hJ2 := fun W hT => iadd_yes a c true W hT ha.1 ha.2 nb.1 nb.2 Ka.out Kn.out
  rw [hn.1, hn.2.1] at hJ1
  rw [hn.2.2.1, hn.2.2.2] at hJ2
  have N : Hid (∀ W, Tab W → Calls Tryd.prog 21 #[.int .u64 a] W fun e w' => e = .returned (.tuple #[.int .u64 c, .bool true]) ∧ w' = W) := hN
  have J1 : Hid (∀ W, Tab W → Calls Tryd.prog 15 #[.int .u64 a, .int .u64 c, .bool false] W fun e w' => e = .returned (.tuple #[.int .u64 11068046444225730969, .bool false, .bool true]) ∧ w' = W) := hJ1
  have J2 : Hid (∀ W, Tab W → Calls Tryd.prog 15 #[.int .u64 a, .int .u64 c, .bool true] W fun e w' => e = .returned (.tuple #[.int .u64 0, .bool true, .bool true]) ∧ w' = W) := hJ2
  clear hI1 hI2 hI3 HV hn hN hJ1 hJ2
  go_wp2_with fail
  refine (I1.out _ ht1).mono ?_
  rintro e w' ⟨rfl, rfl⟩
  go_wp2_with fail
  refine (I2.out _ ht1).mono ?_
  rintro e w' ⟨rfl, rfl⟩
  go_wp2_with fail
  refine (I3.out _).mono ?_
  rintro e w2 ⟨rfl, hb2⟩
  have hs2 := hb2.size
  have hb02 : Below w.heap.size w w2 := hb1.trans (hb2.mono hs1)
  have ht2 := ht.1.below hb02 ht.2
  cases i <;> cases o
  all_goals
    go_wp2_with fail
    refine (value_plain a _ ha.1 ha.2 Ka.out).mono ?_
    rintro e w3 ⟨Ra, rfl, ca, va, la, hb3⟩
    have HA : Hid (Canon Ra ∧ vl Ra = vl (digits 0 a)) := ⟨ca, va⟩
    have hb03 : Below w.heap.size w w3 := hb02.trans (hb3.mono (by omega))
    have hs3 := hb03.size
    clear ca va
    go_wp2_with fail
    refine (value_plain b _ hb.1 hb.2 Kb.out).mono ?_
    rintro e w4 ⟨Rb, rfl, cb, vb, lb, hb4⟩
    have HB : Hid (Canon Rb ∧ vl Rb = vl (digits 0 b)) := ⟨cb, vb⟩
    have hb04 : Below w.heap.size w w4 := hb03.trans (hb4.mono (by omega))
    have hs4 := hb04.size
    clear cb vb
    go_wp2_with fail
    refine (NatAdd_any Ra Rb _ HA.out.1 HB.out.1 (by omega) (by omega)).mono ?_
    rintro e w5 ⟨R1, rfl, c1, v1, l1, hb5⟩
    have H1 : Hid (Canon R1 ∧ vl R1 = vl (digits 0 a) + vl (digits 0 b)) := ⟨c1, by rw [v1, HA.out.2, HB.out.2]⟩
    have hb05 : Below w.heap.size w w5 := hb04.trans (hb5.mono (by omega))
    have hs5 := hb05.size
    clear c1 v1
    go_wp2_with fail
    refine (digits_any _ _ (by decide) (by decide)).mono ?_
    rintro e w6 ⟨R2, rfl, c2, v2, l2, hb6⟩
    have H2 : Hid (Canon R2 ∧ vl R2 = _) := ⟨c2, v2⟩
    have hb06 : Below w.heap.size w w6 := hb05.trans (hb6.mono (by omega))
    have hs6 := hb06.size
    clear c2 v2
    go_wp2_with fail
    refine (NatAdd_any R1 R2 _ H1.out.1 H2.out.1 (by omega) (by omega)).mono ?_
    rintro e w7 ⟨R3, rfl, c3, v3, l3, hb7⟩
    have H3 : Hid (Canon R3 ∧ vl R3 = vl (digits 0 a) + vl (digits 0 b) + vl R2) := ⟨c3, by rw [v3, H1.out.2]⟩
    have hb07 : Below w.heap.size w w7 := hb06.trans (hb7.mono (by omega))
    have hs7 := hb07.size
    clear c3 v3
    go_wp2_with fail
    refine (value_plain s _ hsu.1 hsu.2 Ks.out).mono ?_
    rintro e w8 ⟨R4, rfl, c4, v4, l4, hb8⟩
    have H4 : Hid (Canon R4 ∧ vl R4 = vl (digits 0 s)) := ⟨c4, v4⟩
    have hb08 : Below w.heap.size w w8 := hb07.trans (hb8.mono (by omega))
    have hs8 := hb08.size
    clear c4 v4
    go_wp2_with fail
    refine (above_any R4 _ _ H4.out.1 (by omega) (by decide) (by decide)).mono ?_
    rintro e w9 ⟨R5, rfl, c5, v5, l5, hb9⟩
    have hb09 : Below w.heap.size w w9 := hb08.trans (hb9.mono (by omega))
    have ht9 := ht.1.below hb09 ht.2
    have heq : R3 = R5 := canon_unique R3 R5 H3.out.1 c5 (by rw [H3.out.2, v5, H4.out.2, H2.out.2]; exact HV'.out)
    clear c5 v5
    subst heq
    go_wp2_with fail
    refine (N.out _ ht9).mono ?_
    rintro e w' ⟨rfl, rfl⟩
    go_wp2_with fail
    refine (J1.out _ ht9).mono ?_
    rintro e w' ⟨rfl, rfl⟩
    go_wp2_with fail
    refine (J2.out _ ht9).mono ?_
    rintro e w' ⟨rfl, rfl⟩
    go_wp2
    go_ret
    exact ⟨rfl, hb09⟩

/-- The door's own heap meets the condition. -/
theorem door_met (os : Os) (args : Array Value) : laidMetH Tryd.prog Rows.fnLaneSumsRow.laid ((World.doorLaid Tryd.prog 400 os).forCall (fun _ _ => 0) ⟨#[], args, []⟩).memory :=
  laidMetH_of_parts3 (fuel := 8) (laidMet_of_run' 8 (by kernel_rfl) (by kernel_rfl)) (by kernel_rfl) (by kernel_rfl)

set_option maxRecDepth 100000 in
theorem lifted (os : Os) (started : os.Started) (H : Type) (enc : TypeId × Value → H) :
    ReturnsInHanded {} Tryd.checked os 4 .any (fun w args => (Rows.fnLaneSumsSpec.pre enc Tryd.prog Tryd.f4 [] false w args ∧ laidMetH Tryd.prog Rows.fnLaneSumsRow.laid w) ∧ sizedMet enc Tryd.prog Tryd.f4 (OpenSpec.ofChange Rows.fnLaneSumsSpec) false w args)
      (Rows.fnLaneSumsSpec.post enc Tryd.prog Tryd.f4 false true false false) := by
  refine returnsInHanded_of_change_and (C := Tryd.checked) (X := fun w _ => laidMetH Tryd.prog Rows.fnLaneSumsRow.laid w) (fun _ _ _ hh h => h.of_heap hh) own started (by kernel_rfl) Tryd.func4
    (ChangeSpec.witness_shaped (enc := enc) (C := Tryd.checked) (os := os) (X := fun w _ => laidMetH Tryd.prog Rows.fnLaneSumsRow.laid w) false (World.doorLaid Tryd.prog 400 os) #[.slice none 0 0] 8 rfl (World.shaped_of_RefB (by kernel_rfl) (by kernel_rfl)) (by kernel_rfl) (by kernel_rfl) (by kernel_rfl) (door_met os _)) ?_
  intro W base args ds gs before hval0 hW _ _ hL _
  have hval : ∀ (j : Nat) t v, Tryd.f4.params[j]? = some t → args[j]? = some v → Value.okWide Tryd.prog W .any base t v := hval0
  have hW' := hW
  obtain ⟨p, q, hA0, hV, rfl, hfz, hnd⟩ := hW
  have hA : DataW.TrodAll enc Tryd.prog W 0 (fun _ => true) true Tryd.f4.params.toList args.toList ds p := hA0
  rw [Tryd.params4] at hA hval
  obtain ⟨v0, vs0, d0, ds0, p0, q0, hargs, rfl, rfl, h0, r0⟩ := trodAll_cons hA
  obtain ⟨rfl, rfl, rfl⟩ := trodAll_nil r0
  obtain rfl : args = #[v0] := by cases args; simp_all
  obtain ⟨a0, len0, cap0, rfl⟩ := okWide_slice Tryd.underlying22 (hval 0 22 v0 rfl rfl)
  have k0 := h0
  have lt0 : ∀ x ∈ p0, x.block < W.heap.size := by obtain ⟨m, hm⟩ := k0; exact DataW.trod_lt m _ _ _ hm
  obtain ⟨z0, w0⟩ : ∃ zs, IsRow .u8 W a0 len0 cap0 zs := by
    obtain ⟨fuel, hf⟩ := h0
    rcases open_ints Tryd.underlying22 Tryd.underlying5 (by kernel_rfl) hf with ⟨hcs, _⟩ | ⟨x, l, c, zs, hcs, _, hl, hm, hz, _, hcell, hwz⟩
    · simp [Value.cells] at hcs
      obtain ⟨rfl, rfl, rfl⟩ := hcs
      exact ⟨[], .inl ⟨rfl, rfl, rfl, rfl⟩⟩
    · simp [Value.cells] at hcs
      obtain ⟨rfl, rfl, rfl⟩ := hcs
      exact ⟨zs, .inr ⟨_, rfl, hl, hm, by simpa using hz, hcell, hwz⟩⟩
  rw [MakeChecks.laidMetH_plain _ _ _ (by kernel_rfl)] at hL
  have ht := tab_of_laid hL
  obtain ⟨g0, rfl⟩ : ∃ g0, gs = [g0] := vars1 hV
  clear hA0 hval0
  refine (walk a0 len0 cap0 z0 W w0 ht).mono fun e W' ⟨he, bel⟩ => ?_
  subst he
  exact ⟨_, rfl, _, _, _, [], _, _, hW', trodAll_mk1 (shut_bool Tryd.underlying4 _), (trodAll_cons_mk (Below.trod laidOut (by kernel_rfl) (of_decide_eq_true (by kernel_rfl)) k0 bel lt0) trodAll_mk0), Below.trodVars laidOut bel (by kernel_rfl) hV, bel.frame _, fun h => by cases h⟩

theorem said : Rows.FnLaneSumsSaid :=
  OpenClaim.holds_of_wide 4 Tryd.f4 rfl rfl rfl rfl rfl rfl rfl ⟨rfl, rfl, rfl, rfl, rfl⟩ rfl rfl rfl rfl rfl (by kernel_rfl) Tryd.func4 (by kernel_rfl)
    (of_decide_eq_true (by kernel_rfl)) (by unfold Func.isWrapper; first | (rw [if_pos (by decide +kernel)]; kernel_rfl) | (rw [if_neg (by decide +kernel)]; exact ⟨rfl, rfl⟩))
    (fun os started H enc _ => lifted os started H enc)

/-- No parameter wants a stand-in; the program's own looks are off. -/
theorem plain (f : FuncId) (fn : Func) (hf : Tryd.pinned.checked.prog.funcNamed "loop.example/g00085/laws.FnLaneSums" = some f) (hfn : Tryd.pinned.checked.prog.funcs[f]? = some fn) :
    false = Tryd.pinned.checked.prog.looks [] ∧ ∀ (j : Nat) t, fn.params[j]? = some t → Tryd.pinned.checked.prog.wantsStandIn t = false := by
  obtain rfl : f = 4 := Option.some.inj ((show Tryd.prog.funcNamed "loop.example/g00085/laws.FnLaneSums" = some 4 by kernel_rfl).symm.trans hf) |>.symm
  obtain rfl : fn = Tryd.f4 := (Option.some.inj (Tryd.func4.symm.trans hfn)).symm
  refine ⟨by kernel_rfl, fun j t ht => ?_⟩
  rw [Tryd.params4] at ht
  have hm : t = 22 := by simpa using Array.mem_of_getElem? ht
  subst hm
  · exact (show Tryd.prog.wantsStandIn 22 = false by kernel_rfl)
end Go.Proofs.YtlbkhiphnllfpaaDoor.fnLaneSums
namespace Go.Proofs.YtlbkhiphnllfpaaDoor
/-- The given statement: the card. -/
theorem fnLaneSums_card : Rows.FnLaneSumsCardSaid :=
  Claim7.holds_tied_plain_at .later [] _ _ _ _ fnLaneSums.said (fun _ h => by cases h) (by kernel_rfl) (fun _ h => by cases h) fnLaneSums_row_tie rfl ⟨rfl, rfl⟩ (by kernel_rfl) rfl fnLaneSums.plain (by kernel_rfl)
#print axioms fnLaneSums_card
end Go.Proofs.YtlbkhiphnllfpaaDoor
