/-
  FnQuantized: the law's own walk.
-/
import Derived.Test.YtcflomcankcggafGreatDoorDrQz
import Derived.Test.YtcflomcankcggafGreatDoorExi
import Derived.Test.YtcflomcankcggafGreatDoorOrt
import Derived.Test.YtcflomcankcggafGreatDoorQzj
import Derived.Test.YtcflomcankcggafGreatDoorQzs
namespace Go.Proofs.YtcflomcankcggafGreatDoor
open Go.RowKit
set_option linter.unusedVariables false
set_option maxRecDepth 100000
theorem eql_num_same (k : Int) (b : Bool) (e : Int) (s : ByteArray) (w : World) : (binOp .eql 25 (.agg #[.int .i64 k, .bool b, .int .i64 e, .string s]) (.agg #[.int .i64 k, .bool b, .int .i64 e, .string s])).run Tryz.prog w = .ok (.bool true) w := by
  have hS : Tryz.prog.underlying 25 = some (.struct (Tryz.prog.fieldsOf 25)) := by kernel_rfl
  have hp : Tryz.prog.stoodInHeld 25 = false := by kernel_rfl
  rw [run_eql_struct, show (10000 : Nat) = 9999 + 1 from rfl, run_equalIn_agg w 9999 25 _ _ hS hp]
  simp only [Program.fieldsOf, Tryz.underlying25]
  go_simp
theorem qz_none (f mode : Int) (ka : Int) (na : Bool) (ea : Int) (sa : ByteArray) (kb : Int) (nb : Bool) (eb : Int) (sb : ByteArray) (h : (qzR f mode ka na ea sa kb nb eb sb).2.1 = 0) : qzR f mode ka na ea sa kb nb eb sb = (false, (0, 0, { data := #[] }, 0)) := by
  unfold qzR ofR at h ⊢
  by_cases h1 : rightB f mode 2 (tw2 ka kb) (tw2 na nb) (tw2 ea eb) (tw2 sa sb) = true
  · rw [if_pos h1] at h
    by_cases h2 : spB 2 (tw2 ka kb) = true
    · rw [if_pos h2] at h; cases h
    · rw [if_neg h2] at h
      unfold qzX at h
      repeat (split at h; · cases h)
      cases h
  · rw [if_neg h1]
theorem qz_fin (f mode : Int) (ka : Int) (na : Bool) (ea : Int) (sa : ByteArray) (kb : Int) (nb : Bool) (eb : Int) (sb : ByteArray) (h : (qzR f mode ka na ea sa kb nb eb sb).2.1 = 1) :
    ka = 1 ∧ kb = 1 ∧ numB f 1 na ea sa = true ∧ numB f 1 nb eb sb = true ∧ (1 ≤ mode ∧ mode ≤ 5) ∧ qzR f mode ka na ea sa kb nb eb sb = qzX f mode 1 na ea sa 1 eb := by
  unfold qzR ofR at h ⊢
  by_cases h1 : rightB f mode 2 (tw2 ka kb) (tw2 na nb) (tw2 ea eb) (tw2 sa sb) = true
  case neg => rw [if_neg h1] at h; cases h
  rw [if_pos h1] at h ⊢
  by_cases h2 : spB 2 (tw2 ka kb) = true
  case pos => rw [if_pos h2] at h; cases h
  rw [if_neg h2] at h ⊢
  unfold rightB at h1
  simp only [Bool.and_eq_true, decide_eq_true_eq] at h1
  have hA : numB f ka na ea sa = true := h1.2 0 (by decide)
  have hB : numB f kb nb eb sb = true := h1.2 1 (by decide)
  have hs : ∀ i, i < 2 → ¬ (tw2 ka kb i = 3 ∨ tw2 ka kb i = 4) := fun i hi q => h2 (by unfold spB; exact decide_eq_true ⟨i, hi, q⟩)
  have a3 : ka ≠ 3 := fun q => hs 0 (by decide) (.inl q)
  have a4 : ka ≠ 4 := fun q => hs 0 (by decide) (.inr q)
  have b3 : kb ≠ 3 := fun q => hs 1 (by decide) (.inl q)
  have b4 : kb ≠ 4 := fun q => hs 1 (by decide) (.inr q)
  obtain ⟨-, -, ra, -⟩ := right_two f ka na ea sa hA a3 a4
  obtain ⟨-, -, rb, -⟩ := right_two f kb nb eb sb hB b3 b4
  have hka : ka = 1 := by
    rcases ra with q | q
    · exact q
    · subst q
      unfold qzX at h
      rcases rb with r | r
      · subst r; rw [if_neg (by decide), if_pos (.inl rfl)] at h; cases h
      · subst r; rw [if_pos ⟨rfl, rfl⟩] at h; cases h
  subst hka
  have hkb : kb = 1 := by
    rcases rb with q | q
    · exact q
    · subst q
      unfold qzX at h
      rw [if_neg (by decide), if_pos (.inr rfl)] at h
      cases h
  subst hkb
  exact ⟨rfl, rfl, hA, hB, h1.1, rfl⟩
theorem qzR_fin (f mode : Int) (na : Bool) (ea : Int) (sa : ByteArray) (nb : Bool) (eb : Int) (sb : ByteArray) (hm : 1 ≤ mode ∧ mode ≤ 5) (hA : numB f 1 na ea sa = true) (hB : numB f 1 nb eb sb = true) : qzR f mode 1 na ea sa 1 nb eb sb = qzX f mode 1 na ea sa 1 eb := by
  unfold qzR ofR
  have h1 : rightB f mode 2 (tw2 1 1) (tw2 na nb) (tw2 ea eb) (tw2 sa sb) = true := by
    unfold rightB
    rw [decide_eq_true hm, Bool.true_and]
    refine decide_eq_true fun i hi => ?_
    match i, hi with
    | 0, _ => exact hA
    | 1, _ => exact hB
  rw [if_pos h1, if_neg (by decide)]
set_option maxRecDepth 100000 in
set_option maxHeartbeats 2000000 in
theorem fnQuantized_any (a0 : Option Addr) (len0 cap0 : Nat) (w : World) (hbig : ¬ 4096 < len0) (hb : Bytes w.heap.size w a0 len0) :
    Calls Tryz.prog 8 #[.slice a0 len0 cap0] w fun e w' => e = .returned (.bool true) ∧ Below w.heap.size w w' := by
  have hB : Hid (Bytes w.heap.size w a0 len0) := hb
  clear hb
  go_enter Tryz.func8, Tryz.ntmps8
  go_wp2_with fail
  refine (big_no _ _ _ _ hbig).mono ?_
  rintro e w' ⟨rfl, hw⟩
  obtain rfl := hw.symm
  go_wp2_with fail
  refine (DrawQuantize_any _ _ _ _ (by omega) hB.out).mono ?_
  rintro e w1 ⟨f, m, ka, na, ea, sa, kb, nb, eb, sb, rfl, ⟨hsa, hsb⟩, hb1⟩
  have HI : Hid (∀ X, Calls Tryz.prog 32 #[.int .i64 f, .int .i64 m, numV ka na ea sa, numV kb nb eb sb] X fun x w' => x = .returned (rsD (qzR f m ka na ea sa kb nb eb sb).1 (qzR f m ka na ea sa kb nb eb sb).2) ∧ Below X.heap.size X w') := fun X => iQuantize_any f m ka na ea sa kb nb eb sb X (by omega) (by omega)
  have HS : Hid (∀ X, Calls Tryz.prog 33 #[.int .i64 f, .int .i64 m, numV ka na ea sa, numV kb nb eb sb] X fun x w' => x = .returned (rsD (qzR f m ka na ea sa kb nb eb sb).1 (qzR f m ka na ea sa kb nb eb sb).2) ∧ Below X.heap.size X w') := fun X => sQuantize_any f m ka na ea sa kb nb eb sb X (by omega) (by omega)
  have HNn := qz_none f m ka na ea sa kb nb eb sb
  have HFn := qz_fin f m ka na ea sa kb nb eb sb
  obtain ⟨R, hR⟩ : ∃ R, qzR f m ka na ea sa kb nb eb sb = R := ⟨_, rfl⟩
  rw [hR] at HI HS HNn HFn
  obtain ⟨R0, F1, F2, F3, F4⟩ := R
  dsimp only at HI HS HNn HFn
  have HNh : Hid (F1 = 0 → (R0, F1, F2, F3, F4) = (false, 0, 0, { data := #[] }, 0)) := HNn
  have HA : Hid (F1 = 1 → ka = 1 ∧ kb = 1 ∧ R0 = na ∧ F2 = eb ∧ (∀ X, Calls Tryz.prog 32 #[.int .i64 f, .int .i64 m, numV 1 na eb F3, numV 1 nb eb sb] X fun x w' => x = .returned (rsV 1 na eb F3 0) ∧ Below X.heap.size X w')
      ∧ (∀ X, Calls Tryz.prog 34 #[.int .i64 f, numV 1 na eb F3, numV 1 nb eb sb] X fun x w' => x = .returned (.bool true) ∧ Below X.heap.size X w')
      ∧ (∀ X, Calls Tryz.prog 14 #[.int .i64 f, numV 1 na eb F3] X fun x w' => x = .returned (.bool true) ∧ Below X.heap.size X w')
      ∧ (F4 = 0 → ∀ X, Calls Tryz.prog 23 #[.int .i64 f, numV 1 na eb F3, numV 1 na ea sa] X fun x w' => x = .returned (.int .i64 0) ∧ Below X.heap.size X w')) := by
    intro h1
    obtain ⟨rfl, rfl, hA, hBb, hm, hX⟩ := HFn h1
    subst h1
    obtain ⟨e0, e2, hN, hF, hAg⟩ := qzX_fin f m na ea sa nb eb sb hA hBb R0 F2 F3 F4 hX.symm
    subst e0 e2
    have zF := numB_size f 1 R0 F2 F3 hN
    refine ⟨rfl, rfl, rfl, rfl, fun X => ?_, fun X => ?_, fun X => ?_, fun h4 X => ?_⟩
    · have := iQuantize_any f m 1 R0 F2 F3 1 nb F2 sb X zF (by omega)
      rw [qzR_fin f m R0 F2 F3 nb F2 sb hm hN hBb, hAg] at this
      exact this
    · have := sSame_any f 1 R0 F2 F3 1 nb F2 sb X zF (by omega)
      have e : sameR f 1 R0 F2 F3 1 nb F2 sb = true := by unfold sameR; rw [hN, hBb]; simp
      rw [e] at this
      exact this
    · have := iNumOk_any f 1 R0 F2 F3 X zF
      rwa [hN] at this
    · have := sCompare_any f 1 R0 F2 F3 1 R0 ea sa X zF (by omega)
      rw [hF.resolve_left (fun q => q h4)] at this
      exact this
  clear hR HNn HFn
  have HM1 : Hid (MU w w1.heap.size ka na ea sa kb nb eb sb ((w1.alloc (.cells #[.int .i64 ka, .bool na, .int .i64 ea, .string sa] 25)).alloc (.cells #[.int .i64 kb, .bool nb, .int .i64 eb, .string sb] 25))) := mu_new w1 hb1 ka na ea sa kb nb eb sb
  clear hb1 hB hbig
  go_wp2_with fail
  refine (HI.out _).mono ?_
  rintro x w3 ⟨rfl, hb3⟩
  have HM3 : Hid (MU w w1.heap.size ka na ea sa kb nb eb sb w3) := HM1.out.next hb3
  have hb4 : Below w3.heap.size w3 (w3.alloc (.cells #[.int .i64 F1, .bool R0, .int .i64 F2, .string F3, .int .i64 F4] 29)) := (Below.refl _ _).alloc (Nat.le_refl _) _
  have HM4 : Hid (MU w w1.heap.size ka na ea sa kb nb eb sb (w3.alloc (.cells #[.int .i64 F1, .bool R0, .int .i64 F2, .string F3, .int .i64 F4] 29)) ∧ At5 (w3.alloc (.cells #[.int .i64 F1, .bool R0, .int .i64 F2, .string F3, .int .i64 F4] 29)) w3.heap.size (.int .i64 F1) (.bool R0) (.int .i64 F2) (.string F3) (.int .i64 F4)) := ⟨HM3.out.next hb4, at5_new w3 _ _ _ _ _⟩
  clear hb3 hb4 HM3 HM1 HI
  go_upto_region 5 with fail
  generalize (w3.alloc (.cells #[.int .i64 F1, .bool R0, .int .i64 F2, .string F3, .int .i64 F4] 29)) = w4 at *
  generalize w1.heap.size = p at *
  generalize w3.heap.size = q at *
  have HX0 : Hid (Below w4.heap.size w4 w4.drew) := (Below.refl _ _).drew
  refine wp_region_class (C := fun W => Below w4.heap.size w4 W) (by kernel_rfl) (by kernel_rfl) HX0.out ?_
  have hne := neq_res_same F1 R0 F2 F3 F4
  repeat (first | go_big_quiet_skip | (refine wpQuiet_step ?_; intro K hK; go_simp; first | go_big_quiet_on | (apply Exists.intro; refine ⟨fun wx hC => ?_, ?_⟩; (first | exact rfl | ((with_reducible refine Calls.class_of (HS.out wx) ?_); exact fun w' hb => bel1 hC hb) | (obtain ⟨a0, a1, a2, a3, a4⟩ := (HM4.out.1.next hC).1.cells; go_simp; exact rfl) | (obtain ⟨a0, a1, a2, a3, a4⟩ := (HM4.out.1.next hC).2.1.cells; go_simp; exact rfl) | (obtain ⟨a0, a1, a2, a3, a4, a5⟩ := (HM4.out.2.below hC HM4.out.2.lt).cells; go_simp; exact rfl)); go_big_quiet_on)))
  refine wpQuiet_nil ?_
  intro w5 hb5
  have HM5 : Hid (MU w p ka na ea sa kb nb eb sb w5 ∧ At5 w5 q (.int .i64 F1) (.bool R0) (.int .i64 F2) (.string F3) (.int .i64 F4)) := ⟨HM4.out.1.next hb5, HM4.out.2.below hb5 HM4.out.2.lt⟩
  clear hb5 HM4 HX0 HS hne
  obtain ⟨r0, r1, r2, r3, r4, r5⟩ := HM5.out.2.cells
  by_cases hF0 : F1 = 0
  · have hN := HNh.out hF0
    obtain ⟨rfl, rfl, rfl, rfl, rfl⟩ := hN
    have heq := eql_res_same 0 false 0 { data := #[] } 0
    have hbd : ∀ w : World, (Instr.build 29 #[]).run Tryz.prog w = .ok (rsV 0 false 0 { data := #[] } 0) w := fun w => run_build w _ _ _ (by kernel_rfl)
    clear HNh HA hF0
    go_wp2
    go_ret
    exact ⟨rfl, HM5.out.1.2.2⟩
  have hF0b : (F1 == 0) = false := beq_eq_false_iff_ne.2 hF0
  clear HNh
  go_wp2_with fail
  refine (finite_any F1 R0 F2 F3 _).mono ?_
  rintro x w6 ⟨rfl, hb6⟩
  have HM6 : Hid (MU w p ka na ea sa kb nb eb sb w6 ∧ At5 w6 q (.int .i64 F1) (.bool R0) (.int .i64 F2) (.string F3) (.int .i64 F4)) := ⟨HM5.out.1.next hb6, HM5.out.2.below hb6 HM5.out.2.lt⟩
  clear hb6 HM5 r0 r1 r2 r3 r4 r5
  obtain ⟨r0, r1, r2, r3, r4, r5⟩ := HM6.out.2.cells
  by_cases hF1 : F1 = 1
  case neg =>
    rw [decide_eq_false hF1]
    clear hF1 HA
    go_wp2
    go_ret
    exact ⟨rfl, HM6.out.1.2.2⟩
  rw [decide_eq_true hF1]
  obtain ⟨rfl, rfl, e0, e2, hAg, hSm, hNo, hCm⟩ := HA.out hF1
  subst hF1 e0 e2
  have HAg : Hid (∀ X, Calls Tryz.prog 32 #[.int .i64 f, .int .i64 m, numV 1 R0 F2 F3, numV 1 nb F2 sb] X fun x w' => x = .returned (rsV 1 R0 F2 F3 0) ∧ Below X.heap.size X w') := hAg
  have HSm : Hid (∀ X, Calls Tryz.prog 34 #[.int .i64 f, numV 1 R0 F2 F3, numV 1 nb F2 sb] X fun x w' => x = .returned (.bool true) ∧ Below X.heap.size X w') := hSm
  have HNo : Hid (∀ X, Calls Tryz.prog 14 #[.int .i64 f, numV 1 R0 F2 F3] X fun x w' => x = .returned (.bool true) ∧ Below X.heap.size X w') := hNo
  have HCm : Hid (F4 = 0 → ∀ X, Calls Tryz.prog 23 #[.int .i64 f, numV 1 R0 F2 F3, numV 1 R0 ea sa] X fun x w' => x = .returned (.int .i64 0) ∧ Below X.heap.size X w') := hCm
  clear hAg hSm hNo hCm HA hF0 hF0b
  obtain ⟨c0, c1, c2, c3, c4⟩ := HM6.out.1.2.1.cells
  go_wp2_with fail
  refine (HAg.out _).mono ?_
  rintro x w7 ⟨rfl, hb7⟩
  have HM7 : Hid (MU w p 1 R0 ea sa 1 nb F2 sb w7 ∧ At5 w7 q (.int .i64 1) (.bool R0) (.int .i64 F2) (.string F3) (.int .i64 F4)) := ⟨HM6.out.1.next hb7, HM6.out.2.below hb7 HM6.out.2.lt⟩
  have hb8 : Below w7.heap.size w7 (w7.alloc (.cells #[.int .i64 1, .bool R0, .int .i64 F2, .string F3, .int .i64 0] 29)) := (Below.refl _ _).alloc (Nat.le_refl _) _
  have HM8 : Hid ((MU w p 1 R0 ea sa 1 nb F2 sb (w7.alloc (.cells #[.int .i64 1, .bool R0, .int .i64 F2, .string F3, .int .i64 0] 29)) ∧ At5 (w7.alloc (.cells #[.int .i64 1, .bool R0, .int .i64 F2, .string F3, .int .i64 0] 29)) q (.int .i64 1) (.bool R0) (.int .i64 F2) (.string F3) (.int .i64 F4)) ∧ At5 (w7.alloc (.cells #[.int .i64 1, .bool R0, .int .i64 F2, .string F3, .int .i64 0] 29)) w7.heap.size (.int .i64 1) (.bool R0) (.int .i64 F2) (.string F3) (.int .i64 0)) := ⟨⟨HM7.out.1.next hb8, HM7.out.2.below hb8 HM7.out.2.lt⟩, at5_new w7 _ _ _ _ _⟩
  clear hb7 hb8 HM7 HM6 HAg c0 c1 c2 c3 c4 r0 r1 r2 r3 r4 r5
  go_upto_region 10 with fail
  generalize (w7.alloc (.cells #[.int .i64 1, .bool R0, .int .i64 F2, .string F3, .int .i64 0] 29)) = w8 at *
  generalize w7.heap.size = t at *
  obtain ⟨c0, c1, c2, c3, c4⟩ := HM8.out.1.1.2.1.cells
  obtain ⟨r0, r1, r2, r3, r4, r5⟩ := HM8.out.1.2.cells
  go_wp2_with fail
  refine (HSm.out _).mono ?_
  rintro x w9 ⟨rfl, hb9⟩
  have HM9 : Hid ((MU w p 1 R0 ea sa 1 nb F2 sb w9 ∧ At5 w9 q (.int .i64 1) (.bool R0) (.int .i64 F2) (.string F3) (.int .i64 F4)) ∧ At5 w9 t (.int .i64 1) (.bool R0) (.int .i64 F2) (.string F3) (.int .i64 0)) := ⟨⟨HM8.out.1.1.next hb9, HM8.out.1.2.below hb9 HM8.out.1.2.lt⟩, HM8.out.2.below hb9 HM8.out.2.lt⟩
  clear hb9 HM8 HSm c0 c1 c2 c3 c4 r0 r1 r2 r3 r4 r5
  obtain ⟨r0, r1, r2, r3, r4, r5⟩ := HM9.out.1.2.cells
  go_wp2_with fail
  refine (HNo.out _).mono ?_
  rintro x wa ⟨rfl, hba⟩
  have HMa : Hid ((MU w p 1 R0 ea sa 1 nb F2 sb wa ∧ At5 wa q (.int .i64 1) (.bool R0) (.int .i64 F2) (.string F3) (.int .i64 F4)) ∧ At5 wa t (.int .i64 1) (.bool R0) (.int .i64 F2) (.string F3) (.int .i64 0)) := ⟨⟨HM9.out.1.1.next hba, HM9.out.1.2.below hba HM9.out.1.2.lt⟩, HM9.out.2.below hba HM9.out.2.lt⟩
  clear hba HM9 HNo r0 r1 r2 r3 r4 r5
  obtain ⟨c0, c1, c2, c3, c4⟩ := HMa.out.1.1.1.cells
  obtain ⟨r0, r1, r2, r3, r4, r5⟩ := HMa.out.1.2.cells
  obtain ⟨g0, g1, g2, g3, g4, g5⟩ := HMa.out.2.cells
  have heq := eql_num_same 1 R0 F2 F3
  by_cases hF4 : F4 = 0
  · have hC := HCm.out hF4
    subst hF4
    have HC : Hid (∀ X, Calls Tryz.prog 23 #[.int .i64 f, numV 1 R0 F2 F3, numV 1 R0 ea sa] X fun x w' => x = .returned (.int .i64 0) ∧ Below X.heap.size X w') := hC
    clear hC HCm
    go_wp2_with fail
    refine (HC.out _).mono ?_
    rintro x wb ⟨rfl, hbb⟩
    have HMb : Hid ((MU w p 1 R0 ea sa 1 nb F2 sb wb ∧ At5 wb q (.int .i64 1) (.bool R0) (.int .i64 F2) (.string F3) (.int .i64 0)) ∧ At5 wb t (.int .i64 1) (.bool R0) (.int .i64 F2) (.string F3) (.int .i64 0)) := ⟨⟨HMa.out.1.1.next hbb, HMa.out.1.2.below hbb HMa.out.1.2.lt⟩, HMa.out.2.below hbb HMa.out.2.lt⟩
    clear hbb HMa c0 c1 c2 c3 c4 r0 r1 r2 r3 r4 r5 g0 g1 g2 g3 g4 g5
    obtain ⟨r0, r1, r2, r3, r4, r5⟩ := HMb.out.1.2.cells
    obtain ⟨g0, g1, g2, g3, g4, g5⟩ := HMb.out.2.cells
    go_wp2
    go_ret
    exact ⟨rfl, HMb.out.1.1.2.2⟩
  · have hF4b : (F4 == 0) = false := beq_eq_false_iff_ne.2 hF4
    clear HCm
    go_wp2
    go_ret
    exact ⟨rfl, HMa.out.1.1.2.2⟩
theorem fnQuantized_all (a0 : Option Addr) (len0 cap0 : Nat) (w : World) (hb : Bytes w.heap.size w a0 len0) :
    Calls Tryz.prog 8 #[.slice a0 len0 cap0] w fun e w' => e = .returned (.bool true) ∧ Below w.heap.size w w' := by
  by_cases hbig : 4096 < len0
  · clear hb
    go_enter Tryz.func8, Tryz.ntmps8
    go_wp2_with fail
    refine (big_yes _ _ _ _ hbig).mono ?_
    rintro e w' ⟨rfl, rfl⟩
    go_wp2
    go_ret
    exact ⟨rfl, Below.refl _ _⟩
  exact fnQuantized_any a0 len0 cap0 w hbig hb
end Go.Proofs.YtcflomcankcggafGreatDoor
