/-
  FnRatio: the law's own walk.
-/
import Derived.Test.YtcflomcankcggafGreatDoorDrDv
import Derived.Test.YtcflomcankcggafGreatDoorExc
import Derived.Test.YtcflomcankcggafGreatDoorExk
import Derived.Test.YtcflomcankcggafGreatDoorOrt
import Derived.Test.YtcflomcankcggafGreatDoorDvj
import Derived.Test.YtcflomcankcggafGreatDoorDvs
namespace Go.Proofs.YtcflomcankcggafGreatDoor
open Go.RowKit
set_option linter.unusedVariables false
set_option maxRecDepth 100000
theorem field_rt (k : Int) (b : Bool) (e : Int) (s : ByteArray) (fl : Int) (w : World) : (Instr.field 29 (rsV k b e s fl) 0).run Tryz.prog w = .ok (numV k b e s) w := by kernel_rfl
/-- What is asked of two numbers, out of the common form. -/
theorem rt_two {f m : Int} {ka : Int} {na : Bool} {ea : Int} {sa : ByteArray} {kb : Int} {nb : Bool} {eb : Int} {sb : ByteArray} (h : rightB f m 2 (tw2 ka kb) (tw2 na nb) (tw2 ea eb) (tw2 sa sb) = true) : (1 ≤ m ∧ m ≤ 5) ∧ numB f ka na ea sa = true ∧ numB f kb nb eb sb = true := by
  unfold rightB at h
  simp only [Bool.and_eq_true, decide_eq_true_eq] at h
  exact ⟨h.1, h.2 0 (by decide), h.2 1 (by decide)⟩
theorem two_rt {f m : Int} {ka : Int} {na : Bool} {ea : Int} {sa : ByteArray} {kb : Int} {nb : Bool} {eb : Int} {sb : ByteArray} (hm : 1 ≤ m ∧ m ≤ 5) (hA : numB f ka na ea sa = true) (hB : numB f kb nb eb sb = true) : rightB f m 2 (tw2 ka kb) (tw2 na nb) (tw2 ea eb) (tw2 sa sb) = true := by
  unfold rightB
  rw [decide_eq_true hm, Bool.true_and]
  refine decide_eq_true fun i hi => ?_
  match i, hi with
  | 0, _ => exact hA
  | 1, _ => exact hB
theorem emp_list : ({ data := #[] } : ByteArray).toList.isEmpty = true := by rw [ByteArray.toList_eq]; rfl
theorem numB_nan (f : Int) (hf : f = 64 ∨ f = 128) : numB f 3 false 0 { data := #[] } = true := by
  have hp : limP f ≠ 0 := by rcases hf with rfl | rfl <;> decide
  unfold numB
  rw [if_neg hp, if_neg (by decide), if_neg (by decide), if_pos (.inl rfl), emp_list]
  rfl
theorem numB_inf (f : Int) (hf : f = 64 ∨ f = 128) (b : Bool) : numB f 2 b 0 { data := #[] } = true := by
  have hp : limP f ≠ 0 := by rcases hf with rfl | rfl <;> decide
  unfold numB
  rw [if_neg hp, if_neg (by decide), if_pos rfl, emp_list]
  rfl
theorem numB_for (f k : Int) (b : Bool) (e : Int) (s : ByteArray) (h : numB f k b e s = true) : f = 64 ∨ f = 128 := by
  unfold numB limP at h
  by_cases h1 : f = 64
  · exact .inl h1
  · by_cases h2 : f = 128
    · exact .inr h2
    · rw [if_neg h1, if_neg h2, if_pos rfl] at h; cases h

theorem dvX_right (f mode : Int) (ka : Int) (na : Bool) (ea : Int) (sa : ByteArray) (kb : Int) (nb : Bool) (eb : Int) (sb : ByteArray) (hA : numB f ka na ea sa = true) (hB : numB f kb nb eb sb = true) (a3 : ka ≠ 3) (a4 : ka ≠ 4) (b3 : kb ≠ 3) (b4 : kb ≠ 4) : Rgr f (dvX f mode ka na ea sa kb nb eb sb) := by
  obtain ⟨hf, ea1, ra, ca⟩ := right_two f ka na ea sa hA a3 a4
  obtain ⟨-, eb1, rb, cb⟩ := right_two f kb nb eb sb hB b3 b4
  have hlp : 1 ≤ limP f ∧ limP f ≤ 34 ∧ limL f ≤ limH f := by rcases hf with rfl | rfl <;> decide
  unfold dvX
  by_cases c1 : (ka = 2 ∧ kb = 2) ∨ (zB ka sa = true ∧ zB kb sb = true)
  · rw [if_pos c1]; exact numB_nan f hf
  rw [if_neg c1]
  by_cases c2 : ka = 2
  · rw [if_pos c2]; exact numB_inf f hf _
  rw [if_neg c2]
  by_cases c3 : kb = 2
  · rw [if_pos c3]
    have e0 : ({ data := #[48] } : ByteArray) = tx [0] := by apply ByteArray.ext; rw [tx_data]; rfl
    show numB f 1 _ (limL f) { data := #[48] } = true
    rw [e0]
    exact qz_num f hf _ (limL f) [0] ⟨fun d hd => by simp at hd; omega, by decide, .inl rfl⟩ (by show (1 : Int) ≤ _; omega) (Int.le_refl _) hlp.2.2
  rw [if_neg c3]
  by_cases c4 : zB kb sb = true
  · rw [if_pos c4]; exact numB_inf f hf _
  rw [if_neg c4]
  have k1 : ka = 1 := ra.resolve_right c2
  have k2 : kb = 1 := rb.resolve_right c3
  obtain ⟨q1, l1, -, -⟩ := ca k1
  obtain ⟨q2, l2, -, -⟩ := cb k2
  have hb0 : vl (dl sb) ≠ 0 := fun q => c4 (by unfold zB; rw [k2, q]; rfl)
  obtain ⟨n1, n2, n3, h10, h70⟩ := dv_size f hf (dl sa) (dl sb) q1 q2 l1 l2 hb0
  have hz0 : vl (dl sa) = 0 → vl (dl sa) * 10 ^ dvK f (dl sa).length (dl sb).length % vl (dl sb) = 0 := fun q => by rw [q, Int.zero_mul, Int.zero_emod]
  generalize vl (dl sa) * 10 ^ dvK f (dl sa).length (dl sb).length / vl (dl sb) = Q at *
  generalize vl (dl sa) * 10 ^ dvK f (dl sa).length (dl sb).length % vl (dl sb) = W at *
  generalize ea - eb - (dvK f (dl sa).length (dl sb).length : Int) = E at *
  obtain ⟨cq, vq⟩ := nt_spec Q n2.1 (Int.lt_of_lt_of_le n2.2 (pow_mono _ _ (by decide)))
  have hlen : (nt Q).length ≤ 200 := by
    have := nok_len n2
    omega
  have key := finD_rightR f hf mode (!(na == nb)) (nt Q) E (!decide (W = 0)) (ea - eb) cq hlen (fun hr => by
    have hw : W ≠ 0 := fun q => by rw [decide_eq_true q] at hr; cases hr
    refine len_lo _ cq _ ?_
    rw [vq]
    exact h10 (fun q => hw (hz0 q)))
  generalize finD f mode (!(na == nb)) (nt Q) E (!decide (W = 0)) (ea - eb) = X at *
  obtain ⟨X1, X2, X3, X4⟩ := X
  exact key
theorem dv_right (f mode : Int) (ka : Int) (na : Bool) (ea : Int) (sa : ByteArray) (kb : Int) (nb : Bool) (eb : Int) (sb : ByteArray) (h : rightB f mode 2 (tw2 ka kb) (tw2 na nb) (tw2 ea eb) (tw2 sa sb) = true) : Rgr f (dvR f mode ka na ea sa kb nb eb sb) := by
  obtain ⟨hm, hA, hB⟩ := rt_two h
  have hf := numB_for f ka na ea sa hA
  unfold dvR ofR
  rw [if_pos h]
  by_cases h2 : spB 2 (tw2 ka kb) = true
  · rw [if_pos h2]; exact numB_nan f hf
  · rw [if_neg h2]
    have hs : ∀ i, i < 2 → ¬ (tw2 ka kb i = 3 ∨ tw2 ka kb i = 4) := fun i hi q => h2 (by unfold spB; exact decide_eq_true ⟨i, hi, q⟩)
    exact dvX_right f mode ka na ea sa kb nb eb sb hA hB (fun q => hs 0 (by decide) (.inl q)) (fun q => hs 0 (by decide) (.inr q)) (fun q => hs 1 (by decide) (.inl q)) (fun q => hs 1 (by decide) (.inr q))
theorem dv_wrong (f mode : Int) (ka : Int) (na : Bool) (ea : Int) (sa : ByteArray) (kb : Int) (nb : Bool) (eb : Int) (sb : ByteArray) (h : rightB f mode 2 (tw2 ka kb) (tw2 na nb) (tw2 ea eb) (tw2 sa sb) = false) : dvR f mode ka na ea sa kb nb eb sb = (false, (0, 0, { data := #[] }, 0)) := by
  unfold dvR ofR
  rw [h]
  rfl
theorem dvR_fin (f mode : Int) (na : Bool) (ea : Int) (sa : ByteArray) (nb : Bool) (eb : Int) (sb : ByteArray) (hm : 1 ≤ mode ∧ mode ≤ 5) (hA : numB f 1 na ea sa = true) (hB : numB f 1 nb eb sb = true) : dvR f mode 1 na ea sa 1 nb eb sb = dvX f mode 1 na ea sa 1 nb eb sb := by
  unfold dvR ofR
  rw [if_pos (two_rt hm hA hB), if_neg (by decide)]
set_option maxRecDepth 100000 in
set_option maxHeartbeats 2000000 in
theorem fnRatio_any (a0 : Option Addr) (len0 cap0 : Nat) (w : World) (hbig : ¬ 4096 < len0) (hb : Bytes w.heap.size w a0 len0) :
    Calls Tryz.prog 6 #[.slice a0 len0 cap0] w fun e w' => e = .returned (.bool true) ∧ Below w.heap.size w w' := by
  have hB : Hid (Bytes w.heap.size w a0 len0) := hb
  clear hb
  go_enter Tryz.func6, Tryz.ntmps6
  go_wp2_with fail
  refine (big_no _ _ _ _ hbig).mono ?_
  rintro e w' ⟨rfl, hw⟩
  obtain rfl := hw.symm
  go_wp2_with fail
  refine (DrawDiv_any _ _ _ _ (by omega) hB.out).mono ?_
  rintro e w1 ⟨f, m, ka, na, ea, sa, kb, nb, eb, sb, rfl, ⟨hsa, hsb⟩, hb1⟩
  have HI : Hid (∀ X, Calls Tryz.prog 25 #[.int .i64 f, .int .i64 m, numV ka na ea sa, numV kb nb eb sb] X fun x w' => x = .returned (rsD (dvR f m ka na ea sa kb nb eb sb).1 (dvR f m ka na ea sa kb nb eb sb).2) ∧ Below X.heap.size X w') := fun X => iDiv_any f m ka na ea sa kb nb eb sb X (by omega) (by omega)
  have HS : Hid (∀ X, Calls Tryz.prog 26 #[.int .i64 f, .int .i64 m, numV ka na ea sa, numV kb nb eb sb] X fun x w' => x = .returned (rsD (dvR f m ka na ea sa kb nb eb sb).1 (dvR f m ka na ea sa kb nb eb sb).2) ∧ Below X.heap.size X w') := fun X => sDiv_any f m ka na ea sa kb nb eb sb X (by omega) (by omega)
  have HNn := dv_wrong f m ka na ea sa kb nb eb sb
  have HRt := dv_right f m ka na ea sa kb nb eb sb
  have HO : Hid (rightB f m 2 (tw2 ka kb) (tw2 na nb) (tw2 ea eb) (tw2 sa sb) = true → ka = 1 → ∀ X, Calls Tryz.prog 25 #[.int .i64 f, .int .i64 m, numV 1 na ea sa, numV 1 false 0 { data := #[49] }] X fun x w' => x = .returned (rsV 1 na ea sa 0) ∧ Below X.heap.size X w') := fun hr hk X => by
    subst hk
    obtain ⟨hm, hA, -⟩ := rt_two hr
    have h1 : numB f 1 false 0 { data := #[49] } = true := by rcases numB_for f 1 na ea sa hA with rfl | rfl <;> rfl
    have := iDiv_any f m 1 na ea sa 1 false 0 { data := #[49] } X (by omega) (by decide)
    rw [dvR_fin f m na ea sa false 0 { data := #[49] } hm hA h1, div_one f m na ea sa hA] at this
    exact this
  obtain ⟨R, hR⟩ : ∃ R, dvR f m ka na ea sa kb nb eb sb = R := ⟨_, rfl⟩
  rw [hR] at HI HS HNn HRt
  obtain ⟨R0, F1, F2, F3, F4⟩ := R
  unfold Rgr at HRt
  dsimp only at HI HS HNn HRt
  have HBk : Hid (rightB f m 2 (tw2 ka kb) (tw2 na nb) (tw2 ea eb) (tw2 sa sb) = true → ka = 1 → kb = 1 → F1 = 1 → F4 = 0 → ∃ G1 G0 G2 G3 G4, (∀ X, Calls Tryz.prog 11 #[.int .i64 f, .int .i64 m, numV 1 R0 F2 F3, numV 1 nb eb sb] X fun x w' => x = .returned (rsV G1 G0 G2 G3 G4) ∧ Below X.heap.size X w') ∧ (∀ X, Calls Tryz.prog 23 #[.int .i64 f, numV G1 G0 G2 G3, numV 1 na ea sa] X fun x w' => x = .returned (.int .i64 0) ∧ Below X.heap.size X w')) := by
    intro hr h1 h2 h3 h4
    subst h1 h2 h3 h4
    obtain ⟨hm, hA, hBb⟩ := rt_two hr
    have hN := HRt hr
    have hX : dvX f m 1 na ea sa 1 nb eb sb = (R0, (1, F2, F3, 0)) := by rw [← dvR_fin f m na ea sa nb eb sb hm hA hBb]; exact hR
    have hc := div_back f m hm na ea sa nb eb sb hA hBb R0 F2 F3 hX hN
    have hMr := mulR_right f m 1 R0 F2 F3 1 nb eb sb (by unfold addO; rw [hN, hBb, decide_eq_true hm]; rfl)
    have hMu := fun X => iMul_any f m 1 R0 F2 F3 1 nb eb sb X (numB_size f 1 R0 F2 F3 hN) (by omega)
    generalize mulR f m 1 R0 F2 F3 1 nb eb sb = Q at *
    obtain ⟨G0, G1, G2, G3, G4⟩ := Q
    dsimp only at hc hMr hMu
    refine ⟨G1, G0, G2, G3, G4, hMu, fun X => ?_⟩
    have := sCompare_any f G1 G0 G2 G3 1 na ea sa X (numB_size f G1 G0 G2 G3 hMr) (by omega)
    rw [hc] at this
    exact this
  generalize rightB f m 2 (tw2 ka kb) (tw2 na nb) (tw2 ea eb) (tw2 sa sb) = O at *
  have HNh : Hid (O = false → (R0, F1, F2, F3, F4) = (false, 0, 0, { data := #[] }, 0)) := HNn
  have HRh : Hid (O = true → numB f F1 R0 F2 F3 = true) := HRt
  clear hR HNn HRt
  have HM1 : Hid (MU w w1.heap.size ka na ea sa kb nb eb sb ((w1.alloc (.cells #[.int .i64 ka, .bool na, .int .i64 ea, .string sa] 25)).alloc (.cells #[.int .i64 kb, .bool nb, .int .i64 eb, .string sb] 25))) := mu_new w1 hb1 ka na ea sa kb nb eb sb
  clear hb1 hB hbig
  go_wp2_with fail
  refine (HI.out _).mono ?_
  rintro x w3 ⟨rfl, hb3⟩
  have HM3 : Hid (MU w w1.heap.size ka na ea sa kb nb eb sb w3) := HM1.out.next hb3
  have hb4 : Below w3.heap.size w3 (w3.alloc (.cells #[.int .i64 F1, .bool R0, .int .i64 F2, .string F3, .int .i64 F4] 29)) := (Below.refl _ _).alloc (Nat.le_refl _) _
  have HM4 : Hid (MU w w1.heap.size ka na ea sa kb nb eb sb (w3.alloc (.cells #[.int .i64 F1, .bool R0, .int .i64 F2, .string F3, .int .i64 F4] 29)) ∧ At5 (w3.alloc (.cells #[.int .i64 F1, .bool R0, .int .i64 F2, .string F3, .int .i64 F4] 29)) w3.heap.size (.int .i64 F1) (.bool R0) (.int .i64 F2) (.string F3) (.int .i64 F4)) := ⟨HM3.out.next hb4, at5_new w3 _ _ _ _ _⟩
  clear hb3 hb4 HM3 HM1 HI
  go_upto_region 5 with fail
  generalize (w3.alloc (.cells #[.int .i64 F1, .bool R0, .int .i64 F2, .string F3, .int .i64 F4] 29)) = w4 at *
  generalize w1.heap.size = p at *
  generalize w3.heap.size = q at *
  have HX0 : Hid (Below w4.heap.size w4 w4.drew) := (Below.refl _ _).drew
  refine wp_region_class (C := fun W => Below w4.heap.size w4 W) (by kernel_rfl) (by kernel_rfl) HX0.out ?_
  have hne := neq_res_same F1 R0 F2 F3 F4
  repeat (first | go_big_quiet_skip | (refine wpQuiet_step ?_; intro K hK; go_simp; first | go_big_quiet_on | (apply Exists.intro; refine ⟨fun wx hC => ?_, ?_⟩; (first | exact rfl | ((with_reducible refine Calls.class_of (HS.out wx) ?_); exact fun w' hb => bel1 hC hb) | (obtain ⟨a0, a1, a2, a3, a4⟩ := (HM4.out.1.next hC).1.cells; go_simp; exact rfl) | (obtain ⟨a0, a1, a2, a3, a4⟩ := (HM4.out.1.next hC).2.1.cells; go_simp; exact rfl) | (obtain ⟨a0, a1, a2, a3, a4, a5⟩ := (HM4.out.2.below hC HM4.out.2.lt).cells; go_simp; exact rfl)); go_big_quiet_on)))
  refine wpQuiet_nil ?_
  intro w5 hb5
  have HM5 : Hid (MU w p ka na ea sa kb nb eb sb w5 ∧ At5 w5 q (.int .i64 F1) (.bool R0) (.int .i64 F2) (.string F3) (.int .i64 F4)) := ⟨HM4.out.1.next hb5, HM4.out.2.below hb5 HM4.out.2.lt⟩
  clear hb5 HM4 HX0 HS hne
  obtain ⟨r0, r1, r2, r3, r4, r5⟩ := HM5.out.2.cells
  cases O with
  | false =>
    have hN := HNh.out rfl
    obtain ⟨rfl, rfl, rfl, rfl, rfl⟩ := hN
    have heq := eql_res_same 0 false 0 { data := #[] } 0
    have hbd : ∀ w : World, (Instr.build 29 #[]).run Tryz.prog w = .ok (rsV 0 false 0 { data := #[] } 0) w := fun w => run_build w _ _ _ (by kernel_rfl)
    clear HNh HRh HO HBk
    go_wp2
    go_ret
    exact ⟨rfl, HM5.out.1.2.2⟩
  | true =>
    have hk0 := numB_kind f F1 R0 F2 F3 (HRh.out rfl)
    have hk0b : (F1 == 0) = false := beq_eq_false_iff_ne.2 hk0
    have hR := HRh.out rfl
    have HNo : Hid (∀ X, Calls Tryz.prog 14 #[.int .i64 f, numV F1 R0 F2 F3] X fun x w' => x = .returned (.bool true) ∧ Below X.heap.size X w') := fun X => by
      have := iNumOk_any f F1 R0 F2 F3 X (numB_size f F1 R0 F2 F3 hR)
      rwa [hR] at this
    clear hR HRh HNh hk0
    obtain ⟨c0, c1, c2, c3, c4⟩ := HM5.out.1.1.cells
    go_wp2_with fail
    refine (finite_any ka na ea sa _).mono ?_
    rintro x w6 ⟨rfl, hb6⟩
    have HM6 : Hid (MU w p ka na ea sa kb nb eb sb w6 ∧ At5 w6 q (.int .i64 F1) (.bool R0) (.int .i64 F2) (.string F3) (.int .i64 F4)) := ⟨HM5.out.1.next hb6, HM5.out.2.below hb6 HM5.out.2.lt⟩
    clear hb6 HM5 c0 c1 c2 c3 c4 r0 r1 r2 r3 r4 r5 hk0b
    obtain ⟨c0, c1, c2, c3, c4⟩ := HM6.out.1.1.cells
    by_cases hka : ka = 1
    case neg =>
      rw [decide_eq_false hka]
      have HKa : Hid (ka ≠ 1) := hka
      clear hka HO HBk
      go_wp2_with fail
      refine (finite_any ka na ea sa _).mono ?_
      rintro x w7 ⟨rfl, hb7⟩
      have HM7 : Hid (MU w p ka na ea sa kb nb eb sb w7 ∧ At5 w7 q (.int .i64 F1) (.bool R0) (.int .i64 F2) (.string F3) (.int .i64 F4)) := ⟨HM6.out.1.next hb7, HM6.out.2.below hb7 HM6.out.2.lt⟩
      rw [decide_eq_false HKa.out]
      clear hb7 HM6 c0 c1 c2 c3 c4 HKa
      obtain ⟨r0, r1, r2, r3, r4, r5⟩ := HM7.out.2.cells
      go_wp2_with fail
      refine (HNo.out _).mono ?_
      rintro x w8 ⟨rfl, hb8⟩
      have HM8 : Hid (MU w p ka na ea sa kb nb eb sb w8) := HM7.out.1.next hb8
      clear hb8 HM7 r0 r1 r2 r3 r4 r5
      go_wp2
      go_ret
      exact ⟨rfl, HM8.out.2.2⟩
    rw [decide_eq_true hka]
    have hOn := HO.out trivial hka
    subst hka
    have HOn : Hid (∀ X, Calls Tryz.prog 25 #[.int .i64 f, .int .i64 m, numV 1 na ea sa, numV 1 false 0 { data := #[49] }] X fun x w' => x = .returned (rsV 1 na ea sa 0) ∧ Below X.heap.size X w') := hOn
    clear hOn HO
    have hbn : ∀ w : World, (Instr.build 25 #[(0, .int .i64 1), (3, .string { data := #[49] })]).run Tryz.prog w = .ok (numV 1 false 0 { data := #[49] }) w := fun w => run_build w _ _ _ (by kernel_rfl)
    go_wp2_with fail
    refine (HOn.out _).mono ?_
    rintro x w7 ⟨rfl, hb7⟩
    have HM7 : Hid (MU w p 1 na ea sa kb nb eb sb w7 ∧ At5 w7 q (.int .i64 F1) (.bool R0) (.int .i64 F2) (.string F3) (.int .i64 F4)) := ⟨HM6.out.1.next hb7, HM6.out.2.below hb7 HM6.out.2.lt⟩
    have hb8 : Below w7.heap.size w7 (w7.alloc (.cells #[.int .i64 1, .bool na, .int .i64 ea, .string sa, .int .i64 0] 29)) := (Below.refl _ _).alloc (Nat.le_refl _) _
    have HM8 : Hid ((MU w p 1 na ea sa kb nb eb sb (w7.alloc (.cells #[.int .i64 1, .bool na, .int .i64 ea, .string sa, .int .i64 0] 29)) ∧ At5 (w7.alloc (.cells #[.int .i64 1, .bool na, .int .i64 ea, .string sa, .int .i64 0] 29)) q (.int .i64 F1) (.bool R0) (.int .i64 F2) (.string F3) (.int .i64 F4)) ∧ At5 (w7.alloc (.cells #[.int .i64 1, .bool na, .int .i64 ea, .string sa, .int .i64 0] 29)) w7.heap.size (.int .i64 1) (.bool na) (.int .i64 ea) (.string sa) (.int .i64 0)) := ⟨⟨HM7.out.1.next hb8, HM7.out.2.below hb8 HM7.out.2.lt⟩, at5_new w7 _ _ _ _ _⟩
    clear hb7 hb8 HM7 HM6 HOn c0 c1 c2 c3 c4 hbn
    go_upto_region 11 with fail
    generalize (w7.alloc (.cells #[.int .i64 1, .bool na, .int .i64 ea, .string sa, .int .i64 0] 29)) = w8 at *
    generalize w7.heap.size = t at *
    obtain ⟨c0, c1, c2, c3, c4⟩ := HM8.out.1.1.1.cells
    obtain ⟨g0, g1, g2, g3, g4, g5⟩ := HM8.out.2.cells
    have hnn := neq_num_same 1 na ea sa
    go_wp2_with fail
    refine (finite_any 1 na ea sa _).mono ?_
    rintro x w9 ⟨rfl, hb9⟩
    have HM9 : Hid (MU w p 1 na ea sa kb nb eb sb w9 ∧ At5 w9 q (.int .i64 F1) (.bool R0) (.int .i64 F2) (.string F3) (.int .i64 F4)) := ⟨HM8.out.1.1.next hb9, HM8.out.1.2.below hb9 HM8.out.1.2.lt⟩
    rw [decide_eq_true (rfl : (1 : Int) = 1)]
    clear hb9 HM8 c0 c1 c2 c3 c4 g0 g1 g2 g3 g4 g5 hnn
    obtain ⟨c0, c1, c2, c3, c4⟩ := HM9.out.1.2.1.cells
    go_wp2_with fail
    refine (finite_any kb nb eb sb _).mono ?_
    rintro x wa ⟨rfl, hba⟩
    have HMa : Hid (MU w p 1 na ea sa kb nb eb sb wa ∧ At5 wa q (.int .i64 F1) (.bool R0) (.int .i64 F2) (.string F3) (.int .i64 F4)) := ⟨HM9.out.1.next hba, HM9.out.2.below hba HM9.out.2.lt⟩
    clear hba HM9 c0 c1 c2 c3 c4
    obtain ⟨r0, r1, r2, r3, r4, r5⟩ := HMa.out.2.cells
    by_cases hkb : kb = 1
    case neg =>
      rw [decide_eq_false hkb]
      clear hkb HBk
      go_wp2_with fail
      refine (HNo.out _).mono ?_
      rintro x wy ⟨rfl, hby⟩
      have HMy : Hid (MU w p 1 na ea sa kb nb eb sb wy) := HMa.out.1.next hby
      clear hby HMa r0 r1 r2 r3 r4 r5
      go_wp2
      go_ret
      exact ⟨rfl, HMy.out.2.2⟩
    rw [decide_eq_true hkb]
    have HKb : Hid (kb = 1) := hkb
    clear hkb
    go_wp2_with fail
    refine (finite_any F1 R0 F2 F3 _).mono ?_
    rintro x wb ⟨rfl, hbb⟩
    have HMb : Hid (MU w p 1 na ea sa kb nb eb sb wb ∧ At5 wb q (.int .i64 F1) (.bool R0) (.int .i64 F2) (.string F3) (.int .i64 F4)) := ⟨HMa.out.1.next hbb, HMa.out.2.below hbb HMa.out.2.lt⟩
    clear hbb HMa r0 r1 r2 r3 r4 r5
    obtain ⟨r0, r1, r2, r3, r4, r5⟩ := HMb.out.2.cells
    by_cases hF1 : F1 = 1
    case neg =>
      rw [decide_eq_false hF1]
      clear hF1 HBk
      go_wp2_with fail
      refine (HNo.out _).mono ?_
      rintro x wy ⟨rfl, hby⟩
      have HMy : Hid (MU w p 1 na ea sa kb nb eb sb wy) := HMb.out.1.next hby
      clear hby HMb r0 r1 r2 r3 r4 r5
      go_wp2
      go_ret
      exact ⟨rfl, HMy.out.2.2⟩
    rw [decide_eq_true hF1]
    have HF1 : Hid (F1 = 1) := hF1
    clear hF1
    by_cases hF4 : F4 = 0
    case neg =>
      have hF4b : (F4 == 0) = false := beq_eq_false_iff_ne.2 hF4
      clear HBk
      go_wp2_with fail
      refine (HNo.out _).mono ?_
      rintro x wy ⟨rfl, hby⟩
      have HMy : Hid (MU w p 1 na ea sa kb nb eb sb wy) := HMb.out.1.next hby
      clear hby HMb r0 r1 r2 r3 r4 r5
      go_wp2
      go_ret
      exact ⟨rfl, HMy.out.2.2⟩
    obtain ⟨G1, G0, G2, G3, G4, hMu, hCm⟩ := HBk.out trivial trivial HKb.out HF1.out hF4
    have e1 := HKb.out
    have e2 := HF1.out
    subst e1 e2 hF4
    have HMu : Hid (∀ X, Calls Tryz.prog 11 #[.int .i64 f, .int .i64 m, numV 1 R0 F2 F3, numV 1 nb eb sb] X fun x w' => x = .returned (rsV G1 G0 G2 G3 G4) ∧ Below X.heap.size X w') := hMu
    have HCm : Hid (∀ X, Calls Tryz.prog 23 #[.int .i64 f, numV G1 G0 G2 G3, numV 1 na ea sa] X fun x w' => x = .returned (.int .i64 0) ∧ Below X.heap.size X w') := hCm
    clear hMu hCm HBk HKb HF1 HNo
    go_upto_region 15 with fail
    clear r0 r1 r2 r3 r4 r5
    have HXb : Hid (Below wb.heap.size wb wb.drew) := (Below.refl _ _).drew
    have hfd := field_rt G1 G0 G2 G3 G4
    refine wp_region_class (C := fun W => Below wb.heap.size wb W) (by kernel_rfl) (by kernel_rfl) HXb.out ?_
    repeat (first | go_big_quiet_skip | (refine wpQuiet_step ?_; intro K hK; go_simp; first | go_big_quiet_on | (apply Exists.intro; refine ⟨fun wx hC => ?_, ?_⟩; (first | exact rfl | ((with_reducible refine Calls.class_of (HMu.out wx) ?_); exact fun w' hb => bel1 hC hb) | ((with_reducible refine Calls.class_of (HCm.out wx) ?_); exact fun w' hb => bel1 hC hb) | (obtain ⟨a0, a1, a2, a3, a4⟩ := (HMb.out.1.next hC).1.cells; go_simp; exact rfl) | (obtain ⟨a0, a1, a2, a3, a4⟩ := (HMb.out.1.next hC).2.1.cells; go_simp; exact rfl) | (obtain ⟨a0, a1, a2, a3, a4, a5⟩ := (HMb.out.2.below hC HMb.out.2.lt).cells; go_simp; exact rfl)); go_big_quiet_on)))
    refine wpQuiet_nil ?_
    intro wc hbc
    have HMc : Hid (MU w p 1 na ea sa 1 nb eb sb wc) := HMb.out.1.next hbc
    clear hbc HMb HXb HMu HCm
    go_wp2
    go_ret
    exact ⟨rfl, HMc.out.2.2⟩
theorem fnRatio_all (a0 : Option Addr) (len0 cap0 : Nat) (w : World) (hb : Bytes w.heap.size w a0 len0) :
    Calls Tryz.prog 6 #[.slice a0 len0 cap0] w fun e w' => e = .returned (.bool true) ∧ Below w.heap.size w w' := by
  by_cases hbig : 4096 < len0
  · clear hb
    go_enter Tryz.func6, Tryz.ntmps6
    go_wp2_with fail
    refine (big_yes _ _ _ _ hbig).mono ?_
    rintro e w' ⟨rfl, rfl⟩
    go_wp2
    go_ret
    exact ⟨rfl, Below.refl _ _⟩
  exact fnRatio_any a0 len0 cap0 w hbig hb
end Go.Proofs.YtcflomcankcggafGreatDoor
