/-
  Each drawn multiple is that many times the word; two, five and ten times it are as told by themselves, whatever the code that they are drawn from.
  The card ties the listed package-level variables to the program's text, in the pruned copy that the seat holds; it says nothing of the project's other packages, commands or tests.
-/
import Derived.Test.YtlbkhiphnllfpabDoorCards
import Derived.Test.YtlbkhiphnllfpabDoorTie
import Derived.WalkKit
import Derived.ProofKit
import Derived.OpenShut
import Derived.ShutString
import Derived.ChangeOld
import Derived.Below
import Derived.OpenVars
import Derived.LaidMore
import Derived.Stop.Joined
import Derived.Test.YtlbkhiphnllfpabDoorMulK
import Derived.Test.YtlbkhiphnllfpabDoorMulL
import Derived.Test.YtlbkhiphnllfpabDoorDrawM
import Derived.Test.YtlbkhiphnllfpabDoorShift
import Derived.Test.YtlbkhiphnllfpabDoorTxt8
import Derived.Test.YtlbkhiphnllfpabDoorValue
import Derived.Test.YtlbkhiphnllfpabDoorRow
import Derived.Test.YtlbkhiphnllfpabDoorDoor
namespace Go.Proofs.YtlbkhiphnllfpabDoor.fnMultiples
open Go.ChangeShapes Go.WideShapes Go.ChangeAt Go.RowKit
set_option linter.unusedVariables false

theorem walk (a0 : Option Addr) (len0 cap0 : Nat) (z0 : List Int) (w : World) (w0 : IsRow .u8 w a0 len0 cap0 z0) (ht : Tab w ∧ 0 < w.heap.size) :
    Calls Tryd.prog 4 #[.slice a0 len0 cap0] w fun e w' => e = .returned (.bool true) ∧ Below w.heap.size w w' := by
  have HT : Hid (Tab w ∧ 0 < w.heap.size) := ht
  clear ht
  by_cases hbig : 4096 < len0
  · clear w0
    go_enter Tryd.func4, Tryd.ntmps4
    go_wp2_with fail
    refine (big_yes _ _ _ _ hbig).mono ?_
    rintro e w' ⟨rfl, rfl⟩
    go_wp2
    go_ret
    exact ⟨rfl, Below.refl _ _⟩
  have hB : Hid (Bytes w.heap.size w a0 len0) := bytes_of_row w0
  clear w0
  go_enter Tryd.func4, Tryd.ntmps4
  go_wp2_with fail
  refine (big_no _ _ _ _ hbig).mono ?_
  rintro e w' ⟨rfl, hw⟩
  obtain rfl := hw.symm
  go_wp2_with fail
  refine (DrawMultiple_any _ _ _ _ (by omega) hB.out).mono ?_
  rintro e w1 ⟨x, k, rfl, hx, hk, hb1⟩
  have hs1 := hb1.size
  have hz := HT.out.2
  by_cases hbad : Ln.okB 0 x = false ∨ k < 0 ∨ 10 < k
  · have Hbad : Hid (Ln.okB 0 x = false ∨ k < 0 ∨ 10 < k) := hbad
    clear hbad
    have hD : Hid (∃ V C : Int, ∀ W, Tab W → Calls Tryd.prog 19 #[.int .u64 x] W fun e w' => e = .returned (.tuple #[.int .u64 V, .int .i64 C, .bool (Ln.okB 0 x)]) ∧ Below W.heap.size W w') := ⟨_, _, fun W hT => idouble_any x W hT hx.1 hx.2⟩
    have hF : Hid (∃ V C : Int, ∀ W, Tab W → Calls Tryd.prog 20 #[.int .u64 x] W fun e w' => e = .returned (.tuple #[.int .u64 V, .int .i64 C, .bool (Ln.okB 0 x)]) ∧ Below W.heap.size W w') := ⟨_, _, fun W hT => ifive_any x W hT hx.1 hx.2⟩
    have hL : Hid (∀ W, Calls Tryd.prog 21 #[.int .i64 1, .int .u64 x] W fun e w' => e = .returned (.bool (Ln.okB 0 x)) ∧ Below W.heap.size W w') := fun W => sok_plain x W hx.1 hx.2
    go_wp2_with fail
    refine (imul_no x k _ (Tab.below HT.out.1 hb1 hz) hx.1 hx.2 Hbad.out).mono ?_
    rintro e w2 ⟨rfl, hb2⟩
    have hb02 : Below w.heap.size w w2 := hb1.trans (hb2.mono hs1)
    have hs2 := hb02.size
    go_wp2_with fail
    refine (smul_no x k _ hx.1 hx.2 Hbad.out).mono ?_
    rintro e w3 ⟨rfl, hb3⟩
    have hb03 : Below w.heap.size w w3 := hb02.trans (hb3.mono (by omega))
    have hs3 := hb03.size
    clear Hbad
    generalize Ln.okB 0 x = b at *
    obtain ⟨V2, C2, hD2⟩ := hD.out
    have HD : Hid (∀ W, Tab W → Calls Tryd.prog 19 #[.int .u64 x] W fun e w' => e = .returned (.tuple #[.int .u64 V2, .int .i64 C2, .bool b]) ∧ Below W.heap.size W w') := hD2
    obtain ⟨V5, C5, hF5⟩ := hF.out
    have HF : Hid (∀ W, Tab W → Calls Tryd.prog 20 #[.int .u64 x] W fun e w' => e = .returned (.tuple #[.int .u64 V5, .int .i64 C5, .bool b]) ∧ Below W.heap.size W w') := hF5
    clear hD hF hD2 hF5
    go_wp2_with fail
    refine (HD.out _ (Tab.below HT.out.1 hb03 hz)).mono ?_
    rintro e w4 ⟨rfl, hb4⟩
    have hb04 : Below w.heap.size w w4 := hb03.trans (hb4.mono (by omega))
    have hs4 := hb04.size
    go_wp2_with fail
    refine (HF.out _ (Tab.below HT.out.1 hb04 hz)).mono ?_
    rintro e w5 ⟨rfl, hb5⟩
    have hb05 : Below w.heap.size w w5 := hb04.trans (hb5.mono (by omega))
    have hs5 := hb05.size
    go_wp2_with fail
    refine (hL.out _).mono ?_
    rintro e w6 ⟨rfl, hb6⟩
    have hb06 : Below w.heap.size w w6 := hb05.trans (hb6.mono (by omega))
    clear HD HF hL
    cases b
    all_goals
      go_wp2
      go_ret
      exact ⟨rfl, hb06⟩
  have Kx : Hid (Ln.okB 0 x = true) := by
    cases h : Ln.okB 0 x with
    | true => rfl
    | false => exact absurd (.inl h) hbad
  have hk0 : 0 ≤ k ∧ k ≤ 10 := by omega
  clear hbad
  have hM : Hid (∀ W, Tab W → 0 < W.heap.size → Calls Tryd.prog 17 #[.int .u64 x, .int .i64 k] W fun e w' => e = .returned (.tuple #[.int .u64 (mulV x k), .int .i64 (mulC x k), .bool true]) ∧ Below W.heap.size W w') := fun W hT hz => imul_yes x k W hT hz hx.1 hx.2 Kx.out hk0.1 hk0.2
  have hS : Hid (∀ W, Calls Tryd.prog 18 #[.int .u64 x, .int .i64 k] W fun e w' => e = .returned (.tuple #[.int .u64 (mulV x k), .int .i64 (mulC x k), .bool true]) ∧ Below W.heap.size W w') := fun W => smul_yes x k W hx.1 hx.2 Kx.out hk0.1 hk0.2
  have hD : Hid (∀ W, Tab W → Calls Tryd.prog 19 #[.int .u64 x] W fun e w' => e = .returned (.tuple #[.int .u64 (mulV x 2), .int .i64 (mulC x 2), .bool true]) ∧ Below W.heap.size W w') := fun W hT => by
    have := idouble_any x W hT hx.1 hx.2
    rw [Kx.out, if_pos rfl, if_pos rfl] at this
    exact this
  have hF : Hid (∀ W, Tab W → Calls Tryd.prog 20 #[.int .u64 x] W fun e w' => e = .returned (.tuple #[.int .u64 (mulV x 5), .int .i64 (mulC x 5), .bool true]) ∧ Below W.heap.size W w') := fun W hT => by
    have := ifive_any x W hT hx.1 hx.2
    rw [Kx.out, if_pos rfl, if_pos rfl] at this
    exact this
  have h10 := mul_ten x hx.1 hx.2 Kx.out
  have hT10 : Hid (∀ W, Tab W → 0 < W.heap.size → Calls Tryd.prog 17 #[.int .u64 x, .int .i64 10] W fun e w' => e = .returned (.tuple #[.int .u64 (Ln.up x 1), .int .i64 (x / 1152921504606846976), .bool true]) ∧ Below W.heap.size W w') := fun W hT hz => by
    have := imul_yes x 10 W hT hz hx.1 hx.2 Kx.out (by decide) (by decide)
    rw [h10.1, h10.2, show (2 : Int) ^ 60 = 1152921504606846976 by decide] at this
    exact this
  have hU : Hid (∀ W, Calls Tryd.prog 24 #[.int .u64 x, .int .i64 1] W fun e w' => e = .returned (.int .u64 (Ln.up x 1)) ∧ w' = W) := fun W => ishift_up x 1 W hx.1 hx.2 (by decide)
  have E1 : Hid (vl (digits 0 (mulV x k)) + mulC x k * 10 ^ 16 = vl (digits 0 x) * k) := mulV_vl x k Kx.out
  have E2 : Hid (vl (digits 0 (mulV x 2)) + mulC x 2 * 10 ^ 16 = vl (digits 0 x) * 2) := mulV_vl x 2 Kx.out
  have E5 : Hid (vl (digits 0 (mulV x 5)) + mulC x 5 * 10 ^ 16 = vl (digits 0 x) * 5) := mulV_vl x 5 Kx.out
  have B1 := mulV_bd x k
  have B2 := mulV_bd x 2
  have B5 := mulV_bd x 5
  have K1 : Hid (Ln.okB 0 (mulV x k) = true) := mulV_ok x k
  have K2 : Hid (Ln.okB 0 (mulV x 2) = true) := mulV_ok x 2
  have K5 : Hid (Ln.okB 0 (mulV x 5) = true) := mulV_ok x 5
  have C1 := mulC_bd x k Kx.out hk0.1 hk0.2
  have C2 := mulC_bd x 2 Kx.out (by decide) (by decide)
  have C5 := mulC_bd x 5 Kx.out (by decide) (by decide)
  clear h10
  generalize mulV x k = V1 at *
  generalize mulV x 2 = V2 at *
  generalize mulV x 5 = V5 at *
  generalize mulC x k = D1 at *
  generalize mulC x 2 = D2 at *
  generalize mulC x 5 = D5 at *
  generalize Ln.up x 1 = U at *
  go_wp2_with fail
  refine (hM.out _ (Tab.below HT.out.1 hb1 hz) (by omega)).mono ?_
  rintro e w2 ⟨rfl, hb2⟩
  have hb02 : Below w.heap.size w w2 := hb1.trans (hb2.mono hs1)
  have hs2 := hb02.size
  go_wp2_with fail
  refine (hS.out _).mono ?_
  rintro e w3 ⟨rfl, hb3⟩
  have hb03 : Below w.heap.size w w3 := hb02.trans (hb3.mono (by omega))
  have hs3 := hb03.size
  clear hM hS hb1 hb2 hb3 hb02 hs1 hs2
  go_wp2_with fail
  refine (hD.out _ (Tab.below HT.out.1 hb03 hz)).mono ?_
  rintro e w4 ⟨rfl, hb4⟩
  have hb04 : Below w.heap.size w w4 := hb03.trans (hb4.mono (by omega))
  have hs4 := hb04.size
  go_wp2_with fail
  refine (hF.out _ (Tab.below HT.out.1 hb04 hz)).mono ?_
  rintro e w5 ⟨rfl, hb5⟩
  have hb05 : Below w.heap.size w w5 := hb04.trans (hb5.mono (by omega))
  have hs5 := hb05.size
  clear hD hF hb03 hb04 hb4 hb5 hs3 hs4
  go_wp2_with fail
  refine (value_plain x _ hx.1 hx.2 Kx.out).mono ?_
  rintro e w6 ⟨Rv, rfl, cv, vv, lv, hb6⟩
  have HV : Hid (Canon Rv ∧ vl Rv = vl (digits 0 x)) := ⟨cv, vv⟩
  have hb06 : Below w.heap.size w w6 := hb05.trans (hb6.mono (by omega))
  have hs6 := hb06.size
  clear cv vv hb6 hb05 hs5
  go_wp2_with fail
  refine (digits_any k _ hk0.1 (by omega)).mono ?_
  rintro e w7 ⟨Rk, rfl, ck, vk, lk, hb7⟩
  have HK : Hid (Canon Rk ∧ vl Rk = k) := ⟨ck, vk⟩
  have hb07 : Below w.heap.size w w7 := hb06.trans (hb7.mono (by omega))
  have hs7 := hb07.size
  clear ck vk hb7 hb06 hs6
  go_wp2_with fail
  refine (NatMul_any Rv Rk _ HV.out.1 HK.out.1 (by omega)).mono ?_
  rintro e w8 ⟨R1, rfl, c1, v1, l1, hb8⟩
  have H1 : Hid (Canon R1 ∧ vl R1 = vl (digits 0 x) * k) := ⟨c1, by rw [v1, HV.out.2, HK.out.2]⟩
  have hb08 : Below w.heap.size w w8 := hb07.trans (hb8.mono (by omega))
  have hs8 := hb08.size
  clear c1 v1 hb8 hb07 hs7 HK
  go_wp2_with fail
  refine (value_plain V1 _ B1.1 B1.2 K1.out).mono ?_
  rintro e w9 ⟨R2, rfl, c2, v2, l2, hb9⟩
  have H2 : Hid (Canon R2 ∧ vl R2 = vl (digits 0 V1)) := ⟨c2, v2⟩
  have hb09 : Below w.heap.size w w9 := hb08.trans (hb9.mono (by omega))
  have hs9 := hb09.size
  clear c2 v2 hb9 hb08 hs8
  go_wp2_with fail
  refine (above_any R2 D1 _ H2.out.1 (by omega) C1.1 (by omega)).mono ?_
  rintro e w10 ⟨R3, rfl, c3, v3, l3, hb10⟩
  have hb010 : Below w.heap.size w w10 := hb09.trans (hb10.mono (by omega))
  have hs10 := hb010.size
  have heq : R1 = R3 := canon_unique R1 R3 H1.out.1 c3 (by rw [H1.out.2, v3, H2.out.2, E1.out])
  clear c3 v3 hb10 hb09 hs9 H1 H2 E1
  subst heq
  go_wp2_with fail
  refine (NatAdd_any Rv Rv _ HV.out.1 HV.out.1 (by omega) (by omega)).mono ?_
  rintro e w11 ⟨R4, rfl, c4, v4, l4, hb11⟩
  have H4 : Hid (Canon R4 ∧ vl R4 = vl (digits 0 x) * 2) := ⟨c4, by rw [v4, HV.out.2]; omega⟩
  have hb011 : Below w.heap.size w w11 := hb010.trans (hb11.mono (by omega))
  have hs11 := hb011.size
  clear c4 v4 hb11 hb010 hs10
  go_wp2_with fail
  refine (value_plain V2 _ B2.1 B2.2 K2.out).mono ?_
  rintro e w12 ⟨R5, rfl, c5, v5, l5, hb12⟩
  have H5 : Hid (Canon R5 ∧ vl R5 = vl (digits 0 V2)) := ⟨c5, v5⟩
  have hb012 : Below w.heap.size w w12 := hb011.trans (hb12.mono (by omega))
  have hs12 := hb012.size
  clear c5 v5 hb12 hb011 hs11
  go_wp2_with fail
  refine (above_any R5 D2 _ H5.out.1 (by omega) C2.1 (by omega)).mono ?_
  rintro e w13 ⟨R6, rfl, c6, v6, l6, hb13⟩
  have hb013 : Below w.heap.size w w13 := hb012.trans (hb13.mono (by omega))
  have hs13 := hb013.size
  have heq : R4 = R6 := canon_unique R4 R6 H4.out.1 c6 (by rw [H4.out.2, v6, H5.out.2, E2.out])
  clear c6 v6 hb13 hb012 hs12 H4 H5 E2
  subst heq
  go_wp2_with fail
  rw [show ({ data := #[53] } : ByteArray) = tx [5] from by decide +kernel]
  refine (NatMul_any Rv [5] _ HV.out.1 (canon_one 5 (by decide) (by decide)) (by simp; omega)).mono ?_
  rintro e w14 ⟨R7, rfl, c7, v7, l7, hb14⟩
  have H7 : Hid (Canon R7 ∧ vl R7 = vl (digits 0 x) * 5) := ⟨c7, by rw [v7, HV.out.2]; rfl⟩
  have hb014 : Below w.heap.size w w14 := hb013.trans (hb14.mono (by omega))
  have hs14 := hb014.size
  clear c7 v7 hb14 hb013 hs13
  go_wp2_with fail
  refine (value_plain V5 _ B5.1 B5.2 K5.out).mono ?_
  rintro e w15 ⟨R8, rfl, c8, v8, l8, hb15⟩
  have H8 : Hid (Canon R8 ∧ vl R8 = vl (digits 0 V5)) := ⟨c8, v8⟩
  have hb015 : Below w.heap.size w w15 := hb014.trans (hb15.mono (by omega))
  have hs15 := hb015.size
  clear c8 v8 hb15 hb014 hs14
  go_wp2_with fail
  refine (above_any R8 D5 _ H8.out.1 (by omega) C5.1 (by omega)).mono ?_
  rintro e w16 ⟨R9, rfl, c9, v9, l9, hb16⟩
  have hb016 : Below w.heap.size w w16 := hb015.trans (hb16.mono (by omega))
  have hs16 := hb016.size
  have heq : R7 = R9 := canon_unique R7 R9 H7.out.1 c9 (by rw [H7.out.2, v9, H8.out.2, E5.out])
  clear c9 v9 hb16 hb015 hs15 H7 H8 E5
  subst heq
  go_wp2_with fail
  refine (hT10.out _ (Tab.below HT.out.1 hb016 hz) (by omega)).mono ?_
  rintro e w17 ⟨rfl, hb17⟩
  have hb017 : Below w.heap.size w w17 := hb016.trans (hb17.mono (by omega))
  go_wp2_with fail
  refine (hU.out _).mono ?_
  rintro e w' ⟨rfl, hw⟩
  obtain rfl := hw.symm
  go_wp2
  go_ret
  exact ⟨Ln.ret_bool (by simp), hb017⟩

/-- The door's own heap meets the condition. -/
theorem door_met (os : Os) (args : Array Value) : laidMetH Tryd.prog Rows.fnMultiplesRow.laid ((World.doorLaid Tryd.prog 400 os).forCall (fun _ _ => 0) ⟨#[], args, []⟩).memory :=
  laidMetH_of_parts3 (fuel := 8) (laidMet_of_run' 8 (by kernel_rfl) (by kernel_rfl)) (by kernel_rfl) (by kernel_rfl)

set_option maxRecDepth 100000 in
theorem lifted (os : Os) (started : os.Started) (H : Type) (enc : TypeId × Value → H) :
    ReturnsInHanded {} Tryd.checked os 4 .any (fun w args => (Rows.fnMultiplesSpec.pre enc Tryd.prog Tryd.f4 [] false w args ∧ laidMetH Tryd.prog Rows.fnMultiplesRow.laid w) ∧ sizedMet enc Tryd.prog Tryd.f4 (OpenSpec.ofChange Rows.fnMultiplesSpec) false w args)
      (Rows.fnMultiplesSpec.post enc Tryd.prog Tryd.f4 false true false false) := by
  refine returnsInHanded_of_change_and (C := Tryd.checked) (X := fun w _ => laidMetH Tryd.prog Rows.fnMultiplesRow.laid w) (fun _ _ _ hh h => h.of_heap hh) own started (by kernel_rfl) Tryd.func4
    (ChangeSpec.witness_shaped (enc := enc) (C := Tryd.checked) (os := os) (X := fun w _ => laidMetH Tryd.prog Rows.fnMultiplesRow.laid w) false (World.doorLaid Tryd.prog 400 os) #[.slice none 0 0] 8 rfl (World.shaped_of_RefB (by kernel_rfl) (by kernel_rfl)) (by kernel_rfl) (by kernel_rfl) (by kernel_rfl) (door_met os _)) ?_
  intro W base args ds gs before hval0 hW _ _ hL _
  have hval : ∀ (j : Nat) t v, Tryd.f4.params[j]? = some t → args[j]? = some v → Value.okWide Tryd.prog W .any base t v := hval0
  have hW' := hW
  obtain ⟨p, q, hA0, hV, rfl, hfz, hnd⟩ := hW
  have hA : DataW.TrodAll enc Tryd.prog W 0 (fun _ => true) true Tryd.f4.params.toList args.toList ds p := hA0
  rw [Tryd.params4] at hA hval
  obtain ⟨v0, vs0, d0, ds0, p0, q0, hargs, rfl, rfl, h0, r0⟩ := trodAll_cons hA
  obtain ⟨rfl, rfl, rfl⟩ := trodAll_nil r0
  obtain rfl : args = #[v0] := by cases args; simp_all
  obtain ⟨a0, len0, cap0, rfl⟩ := okWide_slice Tryd.underlying22 (hval 0 22 v0 rfl rfl)
  have k0 := h0
  have lt0 : ∀ x ∈ p0, x.block < W.heap.size := by obtain ⟨m, hm⟩ := k0; exact DataW.trod_lt m _ _ _ hm
  obtain ⟨z0, w0⟩ : ∃ zs, IsRow .u8 W a0 len0 cap0 zs := by
    obtain ⟨fuel, hf⟩ := h0
    rcases open_ints Tryd.underlying22 Tryd.underlying5 (by kernel_rfl) hf with ⟨hcs, _⟩ | ⟨x, l, c, zs, hcs, _, hl, hm, hz, _, hcell, hwz⟩
    · simp [Value.cells] at hcs
      obtain ⟨rfl, rfl, rfl⟩ := hcs
      exact ⟨[], .inl ⟨rfl, rfl, rfl, rfl⟩⟩
    · simp [Value.cells] at hcs
      obtain ⟨rfl, rfl, rfl⟩ := hcs
      exact ⟨zs, .inr ⟨_, rfl, hl, hm, by simpa using hz, hcell, hwz⟩⟩
  rw [MakeChecks.laidMetH_plain _ _ _ (by kernel_rfl)] at hL
  have ht := tab_of_laid hL
  obtain ⟨g0, rfl⟩ : ∃ g0, gs = [g0] := vars1 hV
  clear hA0 hval0
  refine (walk a0 len0 cap0 z0 W w0 ht).mono fun e W' ⟨he, bel⟩ => ?_
  subst he
  exact ⟨_, rfl, _, _, _, [], _, _, hW', trodAll_mk1 (shut_bool Tryd.underlying4 _), (trodAll_cons_mk (Below.trod laidOut (by kernel_rfl) (of_decide_eq_true (by kernel_rfl)) k0 bel lt0) trodAll_mk0), Below.trodVars laidOut bel (by kernel_rfl) hV, bel.frame _, fun h => by cases h⟩

theorem said : Rows.FnMultiplesSaid :=
  OpenClaim.holds_of_wide 4 Tryd.f4 rfl rfl rfl rfl rfl rfl rfl ⟨rfl, rfl, rfl, rfl, rfl⟩ rfl rfl rfl rfl rfl (by kernel_rfl) Tryd.func4 (by kernel_rfl)
    (of_decide_eq_true (by kernel_rfl)) (by unfold Func.isWrapper; first | (rw [if_pos (by decide +kernel)]; kernel_rfl) | (rw [if_neg (by decide +kernel)]; exact ⟨rfl, rfl⟩))
    (fun os started H enc _ => lifted os started H enc)

/-- No parameter wants a stand-in; the program's own looks are off. -/
theorem plain (f : FuncId) (fn : Func) (hf : Tryd.pinned.checked.prog.funcNamed "loop.example/g00085/laws.FnMultiples" = some f) (hfn : Tryd.pinned.checked.prog.funcs[f]? = some fn) :
    false = Tryd.pinned.checked.prog.looks [] ∧ ∀ (j : Nat) t, fn.params[j]? = some t → Tryd.pinned.checked.prog.wantsStandIn t = false := by
  obtain rfl : f = 4 := Option.some.inj ((show Tryd.prog.funcNamed "loop.example/g00085/laws.FnMultiples" = some 4 by kernel_rfl).symm.trans hf) |>.symm
  obtain rfl : fn = Tryd.f4 := (Option.some.inj (Tryd.func4.symm.trans hfn)).symm
  refine ⟨by kernel_rfl, fun j t ht => ?_⟩
  rw [Tryd.params4] at ht
  have hm : t = 22 := by simpa using Array.mem_of_getElem? ht
  subst hm
  · exact (show Tryd.prog.wantsStandIn 22 = false by kernel_rfl)
end Go.Proofs.YtlbkhiphnllfpabDoor.fnMultiples
namespace Go.Proofs.YtlbkhiphnllfpabDoor
/-- The given statement: the card. -/
theorem fnMultiples_card : Rows.FnMultiplesCardSaid :=
  Claim7.holds_tied_plain_at .later [] _ _ _ _ fnMultiples.said (fun _ h => by cases h) (by kernel_rfl) (fun _ h => by cases h) fnMultiples_row_tie rfl ⟨rfl, rfl⟩ (by kernel_rfl) rfl fnMultiples.plain (by kernel_rfl)
#print axioms fnMultiples_card
end Go.Proofs.YtlbkhiphnllfpabDoor
