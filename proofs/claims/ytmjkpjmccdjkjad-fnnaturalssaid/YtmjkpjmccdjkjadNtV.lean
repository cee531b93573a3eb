/-
  FnNaturals, walked.
-/
import Derived.Test.YtmjkpjmccdjkjadNtW
namespace Go.Proofs.Ytmjkpjmccdjkjad
open Go.RowKit
set_option linter.unusedVariables false
/-- What the order of two numbers tells of their texts. -/
theorem cmp_told {A B : Int} (kA : Nok A) (kB : Nok B) : cmpI B A = - cmpI A B ∧ -1 ≤ cmpI A B ∧ cmpI A B ≤ 1 ∧ ((tn A).toList == (tn B).toList) = (cmpI A B == 0) ∧ (subS (tn A) (tn B)).toList.isEmpty = decide (cmpI A B < 0) := by
  rcases Int.lt_trichotomy A B with h | h | h
  · rw [cmpI_lt A B h, cmpI_gt B A h, tn_ne kA kB (by omega), sub_tn_no kA kB h]
    exact ⟨by decide, by decide, by decide, rfl, by simp⟩
  · subst h
    rw [cmpI_eq, sub_tn kA kA (Int.le_refl _), Int.sub_self, tn_some nok_zero]
    exact ⟨by decide, by decide, by decide, by simp, rfl⟩
  · rw [cmpI_gt A B h, cmpI_lt B A h, tn_ne kA kB (by omega), sub_tn kA kB (by omega), tn_some (kA.le (by omega) (by have := kB.1; omega))]
    exact ⟨by decide, by decide, by decide, rfl, rfl⟩
set_option maxHeartbeats 4000000 in
set_option maxRecDepth 100000 in
theorem fnNaturals_any (a0 : Option Addr) (len0 cap0 : Nat) (w : World) (hbig : ¬ 4096 < len0) (hb : Bytes w.heap.size w a0 len0) :
    Calls Try.prog 4 #[.slice a0 len0 cap0] w fun e w' => e = .returned (.bool true) ∧ Below w.heap.size w w' := by
  have hB : Hid (Bytes w.heap.size w a0 len0) := hb
  clear hb
  go_enter Try.func4, Try.ntmps4
  go_wp2_with fail
  refine (big_no _ _ _ _ hbig).mono ?_
  rintro e w' ⟨rfl, hw⟩
  obtain rfl := hw.symm
  go_wp2_with fail
  refine (DrawNatAdd_any _ _ _ _ (by omega) hB.out).mono ?_
  rintro e w1 ⟨s, t, rfl, hs, ht, hb1⟩
  have HB1 : Hid (Below w.heap.size w w1) := hb1
  clear hb1
  have HA : Hid (∀ X, Calls Try.prog 19 #[.string s, .string t] X fun e w' => e = .returned (.string (addS s t)) ∧ Below X.heap.size X w') := fun X => iNatAdd_any s t X (by omega) (by omega)
  have HM : Hid (∀ X, Calls Try.prog 20 #[.string s, .string t] X fun e w' => e = .returned (.string (mulS s t)) ∧ Below X.heap.size X w') := fun X => iNatMul_any s t X (by omega) (by omega)
  have HSA : Hid (∀ X, Calls Try.prog 13 #[.string s, .string t] X fun e w' => e = .returned (.string (addS s t)) ∧ Below X.heap.size X w') := fun X => sNatAdd_all s t X (by omega) (by omega)
  have HSM : Hid (∀ X, Calls Try.prog 14 #[.string s, .string t] X fun e w' => e = .returned (.string (mulS s t)) ∧ Below X.heap.size X w') := fun X => sNatMul_all s t X (by omega) (by omega)
  have HA2 : Hid (∀ X, Calls Try.prog 19 #[.string t, .string s] X fun e w' => e = .returned (.string (addS s t)) ∧ Below X.heap.size X w') := fun X => by
    rw [← addS_comm]; exact iNatAdd_any t s X (by omega) (by omega)
  have HM2 : Hid (∀ X, Calls Try.prog 20 #[.string t, .string s] X fun e w' => e = .returned (.string (mulS s t)) ∧ Below X.heap.size X w') := fun X => by
    rw [← mulS_comm]; exact iNatMul_any t s X (by omega) (by omega)
  have HC1 : Hid (∀ X, Calls Try.prog 22 #[.string s, .string t] X fun e w' => e = .returned (.int .i64 (cmpS s t)) ∧ Below X.heap.size X w') := fun X => iNatCmp_any s t X (by omega) (by omega)
  have HO1 : Hid (∀ X, Calls Try.prog 21 #[.string s] X fun e w' => e = .returned (.bool (natB 200 s)) ∧ w' = X) := fun X => sNatOk_any s X (by omega)
  have HO2 : Hid (∀ X, Calls Try.prog 21 #[.string t] X fun e w' => e = .returned (.bool (natB 200 t)) ∧ w' = X) := fun X => sNatOk_any t X (by omega)
  cases hok : ok2 s t with
  | false =>
    have e1 : addS s t = { data := #[] } := by unfold addS; rw [hok]; rfl
    have e2 : mulS s t = { data := #[] } := by unfold mulS; rw [hok]; rfl
    have e3 : cmpS s t = 2 := by unfold cmpS; rw [hok]; rfl
    rw [e1] at HA HSA HA2
    rw [e2] at HM HSM HM2
    rw [e3] at HC1
    have HW : Hid ((natB 200 s = false) ∨ (natB 200 s = true ∧ natB 200 t = false)) := ok2_no hok
    clear e1 e2 e3 hok hs ht
    go_wp2_with fail
    refine (HA.out _).mono ?_
    rintro e w2 ⟨rfl, hb⟩
    have HB2 : Hid (Below w.heap.size w w2) := HB1.out.trans (hb.mono HB1.out.size)
    clear hb HB1
    go_wp2_with fail
    refine (HM.out _).mono ?_
    rintro e w3 ⟨rfl, hb⟩
    have HB3 : Hid (Below w.heap.size w w3) := HB2.out.trans (hb.mono HB2.out.size)
    clear hb HB2
    go_wp2_with fail
    refine (HSA.out _).mono ?_
    rintro e w4 ⟨rfl, hb⟩
    have HB4 : Hid (Below w.heap.size w w4) := HB3.out.trans (hb.mono HB3.out.size)
    clear hb HB3
    go_wp2_with fail
    refine (HSM.out _).mono ?_
    rintro e w5 ⟨rfl, hb⟩
    have HB5 : Hid (Below w.heap.size w w5) := HB4.out.trans (hb.mono HB4.out.size)
    clear hb HB4
    go_wp2_with fail
    refine (HA2.out _).mono ?_
    rintro e w6 ⟨rfl, hb⟩
    have HB6 : Hid (Below w.heap.size w w6) := HB5.out.trans (hb.mono HB5.out.size)
    clear hb HB5
    go_wp2_with fail
    refine (HM2.out _).mono ?_
    rintro e w7 ⟨rfl, hb⟩
    have HB7 : Hid (Below w.heap.size w w7) := HB6.out.trans (hb.mono HB6.out.size)
    clear hb HB6
    go_wp2_with fail
    refine (HO1.out _).mono ?_
    rintro e w8 ⟨rfl, rfl⟩
    rcases HW.out with h1 | ⟨h1, h2⟩
    · rw [h1]
      clear h1
      go_wp2_with fail
      refine (HC1.out _).mono ?_
      rintro e w9 ⟨rfl, hb⟩
      have HB9 : Hid (Below w.heap.size w w9) := HB7.out.trans (hb.mono HB7.out.size)
      clear hb HB7
      go_wp2
      go_ret
      exact ⟨rfl, HB9.out⟩
    · rw [h1]
      clear h1
      go_wp2_with fail
      refine (HO2.out _).mono ?_
      rintro e w9 ⟨rfl, rfl⟩
      rw [h2]
      clear h2
      go_wp2_with fail
      refine (HC1.out _).mono ?_
      rintro e w10 ⟨rfl, hb⟩
      have HB10 : Hid (Below w.heap.size w w10) := HB7.out.trans (hb.mono HB7.out.size)
      clear hb HB7
      go_wp2
      go_ret
      exact ⟨rfl, HB10.out⟩
  | true =>
    obtain ⟨h1, h2⟩ := ok2_yes hok
    rw [h1] at HO1
    rw [h2] at HO2
    have es := tn_nv h1
    have et := tn_nv h2
    have kA := nok_nv h1
    have kB := nok_nv h2
    generalize nv s = A at *
    generalize nv t = B at *
    subst es et
    obtain ⟨c1, c2, c3, c4, c5⟩ := cmp_told kA kB
    rw [cmp_tn kA kB] at HC1
    have HC2 : Hid (∀ X, Calls Try.prog 22 #[.string (tn B), .string (tn A)] X fun e w' => e = .returned (.int .i64 (- cmpI A B)) ∧ Below X.heap.size X w') := fun X => by
      have := iNatCmp_any (tn B) (tn A) X (by omega) (by omega)
      rw [cmp_tn kB kA, c1] at this
      exact this
    have HD : Hid (∀ X, Calls Try.prog 23 #[.string (tn A), .string (tn B)] X fun e w' => e = .returned (.string (subS (tn A) (tn B))) ∧ Below X.heap.size X w') := fun X => iNatSub_any (tn A) (tn B) X (by omega) (by omega)
    have hsum : (addS (tn A) (tn B) = { data := #[] }) ∨ ((addS (tn A) (tn B)).toList.isEmpty = false ∧ Hid (∀ X, Calls Try.prog 23 #[.string (addS (tn A) (tn B)), .string (tn B)] X fun e w' => e = .returned (.string (tn A)) ∧ Below X.heap.size X w') ∧ Hid (∀ X, Calls Try.prog 23 #[.string (addS (tn A) (tn B)), .string (tn A)] X fun e w' => e = .returned (.string (tn B)) ∧ Below X.heap.size X w') ∧ ∃ C : Int, 0 ≤ C ∧ C ≤ 1 ∧ Hid (∀ X, Calls Try.prog 22 #[.string (addS (tn A) (tn B)), .string (tn A)] X fun e w' => e = .returned (.int .i64 C) ∧ Below X.heap.size X w')) := by
      rw [add_tn kA kB]
      rcases fit_two (A + B) (nok_add kA kB).1 (nok_add kA kB).2 with ⟨k, e⟩ | ⟨k, e⟩
      · rw [e]
        have hz := tn_size (A + B)
        refine .inr ⟨tn_some k, fun X => ?_, fun X => ?_, cmpI (A + B) A, ?_, ?_, fun X => ?_⟩
        · have := iNatSub_any (tn (A + B)) (tn B) X (by omega) (by omega)
          rw [sub_tn k kB (by have := kA.1; omega), show A + B - B = A by omega] at this
          exact this
        · have := iNatSub_any (tn (A + B)) (tn A) X (by omega) (by omega)
          rw [sub_tn k kA (by have := kB.1; omega), show A + B - A = B by omega] at this
          exact this
        · have := kB.1
          unfold cmpI; rw [if_neg (by omega)]; split <;> decide
        · have := kB.1
          unfold cmpI; rw [if_neg (by omega)]; split <;> decide
        · have := iNatCmp_any (tn (A + B)) (tn A) X (by omega) (by omega)
          rw [cmp_tn k kA] at this
          exact this
      · exact .inl e
    have HP : Hid ((mulS (tn A) (tn B) = { data := #[] } ∧ True) ∨ ((mulS (tn A) (tn B)).toList.isEmpty = false ∧ ((((tn B).toList == [48]) = true) ∨ (((tn B).toList == [48]) = false ∧ Hid (∀ X, Calls Try.prog 24 #[.string (mulS (tn A) (tn B)), .string (tn B)] X fun e w' => e = .returned (.tuple #[.string (tn A), .string { data := #[48] }]) ∧ Below X.heap.size X w'))))) := by
      show _ ∨ _
      rw [mul_tn kA kB]
      rcases fit_two (A * B) (nok_mul kA kB).1 (nok_mul kA kB).2 with ⟨k, e⟩ | ⟨k, e⟩
      · rw [e]
        have hz := tn_size (A * B)
        refine .inr ⟨tn_some k, ?_⟩
        by_cases hB0 : B = 0
        · rw [hB0]; exact .inl (by rw [tn_0]; rfl)
        · refine .inr ⟨tn_is0 kB hB0, fun X => ?_⟩
          have := iNatDiv_any (tn (A * B)) (tn B) X (by omega) (by omega)
          obtain ⟨d1, d2⟩ := div_tn k kB hB0
          rw [d1, d2, Int.mul_ediv_cancel _ hB0, Int.mul_emod_left, show tn 0 = { data := #[48] } by unfold tn; rw [nt_nought]; rfl] at this
          exact this
      · exact .inl ⟨e, trivial⟩
    clear hok h1 h2 kA kB hs ht c1
    generalize subS (tn A) (tn B) = D at *
    generalize cmpI A B = x at *
    generalize addS (tn A) (tn B) = U at *
    generalize mulS (tn A) (tn B) = V at *
    generalize tn A = a at *
    generalize tn B = b at *
    go_wp2_with fail
    refine (HA.out _).mono ?_
    rintro e w2 ⟨rfl, hb⟩
    have HB2 : Hid (Below w.heap.size w w2) := HB1.out.trans (hb.mono HB1.out.size)
    clear hb HB1
    go_wp2_with fail
    refine (HM.out _).mono ?_
    rintro e w3 ⟨rfl, hb⟩
    have HB3 : Hid (Below w.heap.size w w3) := HB2.out.trans (hb.mono HB2.out.size)
    clear hb HB2
    go_wp2_with fail
    refine (HSA.out _).mono ?_
    rintro e w4 ⟨rfl, hb⟩
    have HB4 : Hid (Below w.heap.size w w4) := HB3.out.trans (hb.mono HB3.out.size)
    clear hb HB3
    go_wp2_with fail
    refine (HSM.out _).mono ?_
    rintro e w5 ⟨rfl, hb⟩
    have HB5 : Hid (Below w.heap.size w w5) := HB4.out.trans (hb.mono HB4.out.size)
    clear hb HB4
    go_wp2_with fail
    refine (HA2.out _).mono ?_
    rintro e w6 ⟨rfl, hb⟩
    have HB6 : Hid (Below w.heap.size w w6) := HB5.out.trans (hb.mono HB5.out.size)
    clear hb HB5
    go_wp2_with fail
    refine (HM2.out _).mono ?_
    rintro e w7 ⟨rfl, hb⟩
    have HB7 : Hid (Below w.heap.size w w7) := HB6.out.trans (hb.mono HB6.out.size)
    clear hb HB6
    go_wp2_with fail
    refine (HO1.out _).mono ?_
    rintro e w8 ⟨rfl, rfl⟩
    go_wp2_with fail
    refine (HO2.out _).mono ?_
    rintro e w9 ⟨rfl, rfl⟩
    clear HA HM HSA HSM HA2 HM2 HO1 HO2
    rcases hsum with hU | ⟨hU, HS1, HS2, C, cc0, cc1, HS3⟩
    · subst hU
      rcases HP.out with ⟨ep, hpe⟩ | ⟨hpe, hz | ⟨hz, HV⟩⟩
      · subst ep
        clear hpe
        go_wp2_with fail
        refine (HC1.out _).mono ?_
        rintro e w20 ⟨rfl, hb⟩
        have HB20 : Hid (Below w.heap.size w w20) := HB7.out.trans (hb.mono HB7.out.size)
        clear hb HB7
        go_wp2_with fail
        refine (HC2.out _).mono ?_
        rintro e w21 ⟨rfl, hb⟩
        have HB21 : Hid (Below w.heap.size w w21) := HB20.out.trans (hb.mono HB20.out.size)
        clear hb HB20
        go_wp2_with fail
        refine (HD.out _).mono ?_
        rintro e w22 ⟨rfl, hb⟩
        have HB22 : Hid (Below w.heap.size w w22) := HB21.out.trans (hb.mono HB21.out.size)
        clear hb HB21
        go_wp2
        go_ret
        exact ⟨rfl, HB22.out⟩
      · clear HP
        go_wp2_with fail
        refine (HC1.out _).mono ?_
        rintro e w20 ⟨rfl, hb⟩
        have HB20 : Hid (Below w.heap.size w w20) := HB7.out.trans (hb.mono HB7.out.size)
        clear hb HB7
        go_wp2_with fail
        refine (HC2.out _).mono ?_
        rintro e w21 ⟨rfl, hb⟩
        have HB21 : Hid (Below w.heap.size w w21) := HB20.out.trans (hb.mono HB20.out.size)
        clear hb HB20
        go_wp2_with fail
        refine (HD.out _).mono ?_
        rintro e w22 ⟨rfl, hb⟩
        have HB22 : Hid (Below w.heap.size w w22) := HB21.out.trans (hb.mono HB21.out.size)
        clear hb HB21
        go_wp2
        go_ret
        exact ⟨rfl, HB22.out⟩
      · clear HP
        go_wp2_with fail
        refine (HV.out _).mono ?_
        rintro e w15 ⟨rfl, hb⟩
        have HB15 : Hid (Below w.heap.size w w15) := HB7.out.trans (hb.mono HB7.out.size)
        clear hb HB7
        go_wp2_with fail
        refine (HC1.out _).mono ?_
        rintro e w20 ⟨rfl, hb⟩
        have HB20 : Hid (Below w.heap.size w w20) := HB15.out.trans (hb.mono HB15.out.size)
        clear hb HB15
        go_wp2_with fail
        refine (HC2.out _).mono ?_
        rintro e w21 ⟨rfl, hb⟩
        have HB21 : Hid (Below w.heap.size w w21) := HB20.out.trans (hb.mono HB20.out.size)
        clear hb HB20
        go_wp2_with fail
        refine (HD.out _).mono ?_
        rintro e w22 ⟨rfl, hb⟩
        have HB22 : Hid (Below w.heap.size w w22) := HB21.out.trans (hb.mono HB21.out.size)
        clear hb HB21
        go_wp2
        go_ret
        exact ⟨rfl, HB22.out⟩
    · have hCn : decide (C < 0) = false := decide_eq_false (by omega)
      go_wp2_with fail
      refine (HS1.out _).mono ?_
      rintro e w10 ⟨rfl, hb⟩
      have HB10 : Hid (Below w.heap.size w w10) := HB7.out.trans (hb.mono HB7.out.size)
      clear hb HB7
      go_wp2_with fail
      refine (HS2.out _).mono ?_
      rintro e w11 ⟨rfl, hb⟩
      have HB11 : Hid (Below w.heap.size w w11) := HB10.out.trans (hb.mono HB10.out.size)
      clear hb HB10
      go_wp2_with fail
      refine (HS3.out _).mono ?_
      rintro e w12 ⟨rfl, hb⟩
      have HB12 : Hid (Below w.heap.size w w12) := HB11.out.trans (hb.mono HB11.out.size)
      clear hb HB11
      rcases HP.out with ⟨ep, hpe⟩ | ⟨hpe, hz | ⟨hz, HV⟩⟩
      · subst ep
        clear hpe
        go_wp2_with fail
        refine (HC1.out _).mono ?_
        rintro e w20 ⟨rfl, hb⟩
        have HB20 : Hid (Below w.heap.size w w20) := HB12.out.trans (hb.mono HB12.out.size)
        clear hb HB12
        go_wp2_with fail
        refine (HC2.out _).mono ?_
        rintro e w21 ⟨rfl, hb⟩
        have HB21 : Hid (Below w.heap.size w w21) := HB20.out.trans (hb.mono HB20.out.size)
        clear hb HB20
        go_wp2_with fail
        refine (HD.out _).mono ?_
        rintro e w22 ⟨rfl, hb⟩
        have HB22 : Hid (Below w.heap.size w w22) := HB21.out.trans (hb.mono HB21.out.size)
        clear hb HB21
        go_wp2
        go_ret
        exact ⟨rfl, HB22.out⟩
      · clear HP
        go_wp2_with fail
        refine (HC1.out _).mono ?_
        rintro e w20 ⟨rfl, hb⟩
        have HB20 : Hid (Below w.heap.size w w20) := HB12.out.trans (hb.mono HB12.out.size)
        clear hb HB12
        go_wp2_with fail
        refine (HC2.out _).mono ?_
        rintro e w21 ⟨rfl, hb⟩
        have HB21 : Hid (Below w.heap.size w w21) := HB20.out.trans (hb.mono HB20.out.size)
        clear hb HB20
        go_wp2_with fail
        refine (HD.out _).mono ?_
        rintro e w22 ⟨rfl, hb⟩
        have HB22 : Hid (Below w.heap.size w w22) := HB21.out.trans (hb.mono HB21.out.size)
        clear hb HB21
        go_wp2
        go_ret
        exact ⟨rfl, HB22.out⟩
      · clear HP
        go_wp2_with fail
        refine (HV.out _).mono ?_
        rintro e w15 ⟨rfl, hb⟩
        have HB15 : Hid (Below w.heap.size w w15) := HB12.out.trans (hb.mono HB12.out.size)
        clear hb HB12
        go_wp2_with fail
        refine (HC1.out _).mono ?_
        rintro e w20 ⟨rfl, hb⟩
        have HB20 : Hid (Below w.heap.size w w20) := HB15.out.trans (hb.mono HB15.out.size)
        clear hb HB15
        go_wp2_with fail
        refine (HC2.out _).mono ?_
        rintro e w21 ⟨rfl, hb⟩
        have HB21 : Hid (Below w.heap.size w w21) := HB20.out.trans (hb.mono HB20.out.size)
        clear hb HB20
        go_wp2_with fail
        refine (HD.out _).mono ?_
        rintro e w22 ⟨rfl, hb⟩
        have HB22 : Hid (Below w.heap.size w w22) := HB21.out.trans (hb.mono HB21.out.size)
        clear hb HB21
        go_wp2
        go_ret
        exact ⟨rfl, HB22.out⟩
end Go.Proofs.Ytmjkpjmccdjkjad
