/-
  Plain facts for FnWhole: what is made whole is whole, right, stays so, and is no farther than 1 away.
-/
import Derived.Test.YtnkoeidolmiheaaGreatDoorSdr
import Derived.Test.YtnkoeidolmiheaaGreatDoorWhj
namespace Go.Proofs.YtnkoeidolmiheaaGreatDoor
set_option linter.unusedVariables false
set_option maxRecDepth 100000
theorem wh_bd (m : Int) (n : Bool) (v : Int) (k : Nat) (h0 : 0 ≤ v) (h1 : v < 10 ^ 34) : 0 ≤ drV m n v k ∧ drV m n v k * 10 ^ k ≤ v + 10 ^ k ∧ v ≤ drV m n v k * 10 ^ k + 10 ^ k ∧ drV m n v k ≤ v / 10 ^ (min k 200) + 1 := by
  unfold drV rndV
  have hpk := ten_pos k
  obtain ⟨u, hu⟩ : ∃ u : Int, (if rndU m n v (min k 200) false = true then (1 : Int) else 0) = u := ⟨_, rfl⟩
  have hu2 : u = 0 ∨ u = 1 := by rw [← hu]; split <;> simp
  rw [hu]
  by_cases hk : k ≤ 200
  · rw [Nat.min_eq_left hk]
    have hd := Int.mul_ediv_add_emod v (10 ^ k)
    have hm := Int.emod_lt_of_pos v hpk
    have hm0 := Int.emod_nonneg v (Int.ne_of_gt hpk)
    have hq : 0 ≤ v / 10 ^ k := Int.ediv_nonneg h0 (Int.le_of_lt hpk)
    rw [Int.mul_comm] at hd
    generalize v / 10 ^ k = q at *
    generalize v % 10 ^ k = r at *
    generalize (10 : Int) ^ k = T at *
    rw [Int.add_mul]
    rcases hu2 with h | h <;> subst h
    · rw [Int.zero_mul]; omega
    · rw [Int.one_mul]; omega
  · rw [Nat.min_eq_right (by omega)]
    have hp : (10 : Int) ^ 34 ≤ 10 ^ 200 := pow_mono _ _ (by decide)
    have hp2 : (10 : Int) ^ 34 ≤ 10 ^ k := pow_mono _ _ (by omega)
    rw [Int.ediv_eq_zero_of_lt h0 (by omega), Int.zero_add]
    rcases hu2 with h | h <;> subst h
    · rw [Int.zero_mul]; omega
    · rw [Int.one_mul]; omega
theorem wh_num (f : Int) (hf : f = 64 ∨ f = 128) (n : Bool) (e : Int) (D : List Int) (cD : Canon D) (lD : (D.length : Int) ≤ limP f) (h1 : limL f ≤ e) (h2 : e ≤ limH f) : numB f 1 n e (tx D) = true := by
  have hp : limP f ≠ 0 := by rcases hf with rfl | rfl <;> decide
  unfold numB
  rw [if_neg hp, if_pos rfl, natB_tx (limP f) D cD lD]
  simp [h1, h2]
theorem wh_one (f : Int) (hf : f = 64 ∨ f = 128) (n : Bool) : numB f 1 n 0 (tx [1]) = true := by
  refine wh_num f hf n 0 [1] ⟨fun d hd => by simp at hd; omega, by simp, .inl rfl⟩ ?_ ?_ ?_
  · rcases hf with rfl | rfl <;> decide
  · rcases hf with rfl | rfl <;> decide
  · rcases hf with rfl | rfl <;> decide
theorem tx_w1 : tx [1] = { data := #[49] } := by apply ByteArray.ext; rw [tx_data]; rfl
theorem canon_w1 : Canon [1] := ⟨fun d hd => by simp at hd; omega, by simp, .inl rfl⟩
theorem whR_fin (f m : Int) (hm : 1 ≤ m ∧ m ≤ 5) (n : Bool) (e : Int) (s : ByteArray) (hA : numB f 1 n e s = true) : whR f m 1 n e s = whX m 1 n e s := by
  unfold whR ofR
  have h1 : rightB f m 1 (fun _ => 1) (fun _ => n) (fun _ => e) (fun _ => s) = true := by
    unfold rightB
    rw [decide_eq_true hm, Bool.true_and]
    exact decide_eq_true fun i hi => hA
  have h2 : spB 1 (fun _ => 1) = false := decide_eq_false (by rintro ⟨i, hi, h⟩; rcases h with h | h <;> cases h)
  rw [if_pos h1, h2, if_neg (by decide)]
/-- A right number that is at least (at most) another by value. -/
theorem cp_atLeast (f : Int) (na : Bool) (ea : Int) (da : List Int) (hA : numB f 1 na ea (tx da) = true) (ca : Canon da) (r : Bool × (Int × Int × ByteArray × Int)) (hr : Rgr f r) (h : AtLeast (sgv na (vl da)) ea r) : cpR f 1 na ea (tx da) r.2.1 r.1 r.2.2.1 r.2.2.2.1 = 0 ∨ cpR f 1 na ea (tx da) r.2.1 r.1 r.2.2.1 r.2.2.2.1 = -1 := by
  obtain ⟨g, k, E, S, F⟩ := r
  unfold Rgr at hr
  rcases h with ⟨h1, h2⟩ | ⟨h1, R, hS, dR, hv⟩
  · dsimp only at h1 h2 hr ⊢
    subst h1 h2
    exact .inr (cp_infb f na ea (tx da) false E S hA hr)
  · dsimp only at h1 hS hv hr ⊢
    subst h1 hS
    obtain ⟨-, -, -, c⟩ := right_two f 1 g E (tx R) hr (by decide) (by decide)
    have cR := (c rfl).1
    rw [dl_tx R dR] at cR
    exact cp_le f na ea da g E R hA hr ca cR hv
theorem cp_atMost (f : Int) (na : Bool) (ea : Int) (da : List Int) (hA : numB f 1 na ea (tx da) = true) (ca : Canon da) (r : Bool × (Int × Int × ByteArray × Int)) (hr : Rgr f r) (h : AtMost (sgv na (vl da)) ea r) : cpR f 1 na ea (tx da) r.2.1 r.1 r.2.2.1 r.2.2.2.1 = 0 ∨ cpR f 1 na ea (tx da) r.2.1 r.1 r.2.2.1 r.2.2.2.1 = 1 := by
  obtain ⟨g, k, E, S, F⟩ := r
  unfold Rgr at hr
  rcases h with ⟨h1, h2⟩ | ⟨h1, R, hS, dR, hv⟩
  · dsimp only at h1 h2 hr ⊢
    subst h1 h2
    exact .inr (cp_infb f na ea (tx da) true E S hA hr)
  · dsimp only at h1 hS hv hr ⊢
    subst h1 hS
    obtain ⟨-, -, -, c⟩ := right_two f 1 g E (tx R) hr (by decide) (by decide)
    have cR := (c rfl).1
    rw [dl_tx R dR] at cR
    exact cp_ge f na ea da g E R hA hr ca cR hv
theorem AtMost.of {T M T' M' : Int} {r : Bool × (Int × Int × ByteArray × Int)} (h : AtMost T M r) (hv : LV T M T' M') : AtMost T' M' r := by
  rcases h with h | ⟨h, R, hS, dR, hl⟩
  · exact .inl h
  · exact .inr ⟨h, R, hS, dR, hl.trans hv⟩
/-- ALL THAT FnWhole WANTS of a finite number. -/
theorem wh_fin (f m : Int) (hm : 1 ≤ m ∧ m ≤ 5) (na : Bool) (ea : Int) (sa : ByteArray) (hA : numB f 1 na ea sa = true) :
    ∃ (F2 : Int) (F3 : ByteArray), whR f m 1 na ea sa = (na, (1, F2, F3, 0)) ∧ 0 ≤ F2 ∧ numB f 1 na F2 F3 = true ∧ whR f m 1 na F2 F3 = (na, (1, F2, F3, 0))
      ∧ Rgr f (addR f 4 1 na ea sa 1 false 0 { data := #[49] }) ∧ Rgr f (subR f 3 1 na ea sa 1 false 0 { data := #[49] })
      ∧ (cpR f 1 na F2 F3 (addR f 4 1 na ea sa 1 false 0 { data := #[49] }).2.1 (addR f 4 1 na ea sa 1 false 0 { data := #[49] }).1 (addR f 4 1 na ea sa 1 false 0 { data := #[49] }).2.2.1 (addR f 4 1 na ea sa 1 false 0 { data := #[49] }).2.2.2.1 = 0 ∨ cpR f 1 na F2 F3 (addR f 4 1 na ea sa 1 false 0 { data := #[49] }).2.1 (addR f 4 1 na ea sa 1 false 0 { data := #[49] }).1 (addR f 4 1 na ea sa 1 false 0 { data := #[49] }).2.2.1 (addR f 4 1 na ea sa 1 false 0 { data := #[49] }).2.2.2.1 = -1)
      ∧ (cpR f 1 na F2 F3 (subR f 3 1 na ea sa 1 false 0 { data := #[49] }).2.1 (subR f 3 1 na ea sa 1 false 0 { data := #[49] }).1 (subR f 3 1 na ea sa 1 false 0 { data := #[49] }).2.2.1 (subR f 3 1 na ea sa 1 false 0 { data := #[49] }).2.2.2.1 = 0 ∨ cpR f 1 na F2 F3 (subR f 3 1 na ea sa 1 false 0 { data := #[49] }).2.1 (subR f 3 1 na ea sa 1 false 0 { data := #[49] }).1 (subR f 3 1 na ea sa 1 false 0 { data := #[49] }).2.2.1 (subR f 3 1 na ea sa 1 false 0 { data := #[49] }).2.2.2.1 = 1) := by
  obtain ⟨hf, ea1, -, ca⟩ := right_two f 1 na ea sa hA (by decide) (by decide)
  obtain ⟨q1, l1, x1, y1⟩ := ca rfl
  have hL := lims f hf
  have hP : limP f = ((limP f).toNat : Int) ∧ 2 ≤ (limP f).toNat ∧ (limP f).toNat ≤ 34 ∧ limL f ≤ 0 ∧ 0 ≤ limH f := by rcases hf with rfl | rfl <;> decide
  have hv := vl_bd (dl sa) q1.1
  have v34 : vl (dl sa) < 10 ^ 34 := Int.lt_of_lt_of_le hv.2 (pow_mono _ _ (by omega))
  have vP : vl (dl sa) < 10 ^ (limP f).toNat := Int.lt_of_lt_of_le hv.2 (pow_mono _ _ (by omega))
  have hone := fun n => wh_one f hf n
  rw [tx_w1] at hone
  have d1 : dl { data := #[49] } = [1] := by rw [← tx_w1]; exact dl_tx [1] canon_w1.1
  have O1 : addO f 4 1 na ea sa 1 false 0 { data := #[49] } = true := by unfold addO; rw [hA, hone]; rfl
  have O2 : addO f 3 1 na ea sa 1 true 0 { data := #[49] } = true := by unfold addO; rw [hA, hone]; rfl
  have R1 := addR_right f 4 1 na ea sa 1 false 0 { data := #[49] } O1
  have R2 := addR_right f 3 1 na ea sa 1 true 0 { data := #[49] } O2
  have hc := sumX_ceil f hf na ea (dl sa) false 0 [1] q1 canon_w1 (by simp; omega)
  have hfl := sumX_floor f hf na ea (dl sa) true 0 [1] q1 canon_w1 (by simp; omega)
  have e1 := addR_fin f 4 (by decide) na ea sa false 0 { data := #[49] } hA (hone false)
  have e2 := addR_fin f 3 (by decide) na ea sa true 0 { data := #[49] } hA (hone true)
  rw [d1] at e1 e2
  rw [← e1] at hc
  rw [← e2] at hfl
  have hsub : subR f 3 1 na ea sa 1 false 0 { data := #[49] } = addR f 3 1 na ea sa 1 true 0 { data := #[49] } := rfl
  rw [hsub]
  -- what is made whole, with its bounds
  obtain ⟨F2, D, hw, h0, hN, cD, lo, hi⟩ : ∃ (F2 : Int) (D : List Int), whX m 1 na ea sa = (na, (1, F2, tx D, 0)) ∧ 0 ≤ F2 ∧ numB f 1 na F2 (tx D) = true ∧ Canon D ∧ LV (sgv na (vl D)) F2 (sumS na ea (dl sa) false 0 [1] (min ea 0)) (min ea 0) ∧ LV (sumS na ea (dl sa) true 0 [1] (min ea 0)) (min ea 0) (sgv na (vl D)) F2 := by
    unfold whX
    by_cases he : 0 ≤ ea
    · rw [if_pos (.inr he)]
      refine ⟨ea, dl sa, by rw [← ea1], he, by rw [← ea1]; exact hA, q1, ?_, ?_⟩
      · rw [show min ea 0 = 0 by omega, lv_at 0 he (Int.le_refl _)]
        unfold sumS
        rw [show (0 : Int) - 0 = 0 from rfl, show ((0 : Int)).toNat = 0 from rfl, Int.pow_zero, Int.mul_one, Int.mul_one, show sgv false (vl [1]) = 1 from rfl]
        omega
      · rw [show min ea 0 = 0 by omega, lv_at 0 (Int.le_refl _) he]
        unfold sumS
        rw [show (0 : Int) - 0 = 0 from rfl, show ((0 : Int)).toNat = 0 from rfl, Int.pow_zero, Int.mul_one, Int.mul_one, show sgv true (vl [1]) = -1 from rfl]
        omega
    · rw [if_neg (by rintro (h | h); · cases h
                     · exact he h)]
      obtain ⟨b0, b1, b2, b3⟩ := wh_bd m na (vl (dl sa)) (-ea).toNat hv.1 v34
      have hk : 1 ≤ (-ea).toNat := by omega
      have bP : drV m na (vl (dl sa)) (-ea).toNat < 10 ^ (limP f).toNat := by
        have hd : vl (dl sa) / 10 ^ (min (-ea).toNat 200) ≤ vl (dl sa) / 10 := by
          have h10 : (10 : Int) ≤ 10 ^ (min (-ea).toNat 200) := by
            have := pow_mono 1 (min (-ea).toNat 200) (by omega)
            simpa using this
          have hp := ten_pos (min (-ea).toNat 200)
          have q0 : 0 ≤ vl (dl sa) / 10 ^ (min (-ea).toNat 200) := Int.ediv_nonneg hv.1 (Int.le_of_lt hp)
          have q2 := Int.ediv_mul_le (vl (dl sa)) (Int.ne_of_gt hp)
          have q3 : vl (dl sa) / 10 ^ (min (-ea).toNat 200) * 10 ≤ vl (dl sa) / 10 ^ (min (-ea).toNat 200) * 10 ^ (min (-ea).toNat 200) := Int.mul_le_mul_of_nonneg_left h10 q0
          omega
        have e : (10 : Int) ^ (limP f).toNat = 10 ^ ((limP f).toNat - 2) * 100 := by
          rw [show (100 : Int) = 10 ^ 2 from rfl, ← Int.pow_add, show (limP f).toNat - 2 + 2 = (limP f).toNat by omega]
        have := ten_pos ((limP f).toNat - 2)
        omega
      generalize drV m na (vl (dl sa)) (-ea).toNat = q at *
      obtain ⟨cN, vN⟩ := nt_spec q b0 (Int.lt_of_lt_of_le bP (pow_mono _ _ (by omega)))
      have lN := canon_le _ cN (limP f).toNat (by omega) (by rw [vN]; exact bP)
      refine ⟨0, nt q, rfl, Int.le_refl _, wh_num f hf na 0 (nt q) cN (by omega) hP.2.2.2.1 hP.2.2.2.2, cN, ?_, ?_⟩
      · rw [show min ea 0 = ea by omega, lv_at ea (by omega) (Int.le_refl _), vN]
        unfold sumS
        rw [show (0 : Int) - ea = -ea by omega, show ea - ea = 0 by omega, show ((0 : Int)).toNat = 0 from rfl, Int.pow_zero, Int.mul_one, Int.mul_one, show sgv false (vl [1]) = 1 from rfl, Int.one_mul, sgv_mul]
        cases na <;> simp only [sgv, if_true, if_false, Bool.false_eq_true] <;> omega
      · rw [show min ea 0 = ea by omega, lv_at ea (Int.le_refl _) (by omega), vN]
        unfold sumS
        rw [show (0 : Int) - ea = -ea by omega, show ea - ea = 0 by omega, show ((0 : Int)).toNat = 0 from rfl, Int.pow_zero, Int.mul_one, Int.mul_one, show sgv true (vl [1]) = -1 from rfl, Int.neg_mul, Int.one_mul, sgv_mul]
        cases na <;> simp only [sgv, if_true, if_false, Bool.false_eq_true] <;> omega
  refine ⟨F2, tx D, by rw [whR_fin f m hm na ea sa hA, hw], h0, hN, ?_, R1, R2, ?_, ?_⟩
  · rw [whR_fin f m hm na F2 (tx D) hN]
    unfold whX
    rw [if_pos (.inr h0)]
  · exact cp_atLeast f na F2 D hN cD _ R1 (hc.of lo)
  · exact cp_atMost f na F2 D hN cD _ R2 (hfl.of hi)
theorem wh_none (f m : Int) (ka : Int) (na : Bool) (ea : Int) (sa : ByteArray) (h : rightB f m 1 (fun _ => ka) (fun _ => na) (fun _ => ea) (fun _ => sa) = false) : whR f m ka na ea sa = (false, (0, 0, { data := #[] }, 0)) := by
  unfold whR ofR; rw [h]; rfl
theorem wh_kind (f m : Int) (ka : Int) (na : Bool) (ea : Int) (sa : ByteArray) (h : rightB f m 1 (fun _ => ka) (fun _ => na) (fun _ => ea) (fun _ => sa) = true) : (whR f m ka na ea sa).2.1 ≠ 0 ∧ (1 ≤ m ∧ m ≤ 5) ∧ numB f ka na ea sa = true := by
  have h1 := h
  unfold rightB at h1
  simp only [Bool.and_eq_true, decide_eq_true_eq] at h1
  have hA : numB f ka na ea sa = true := h1.2 0 (by decide)
  refine ⟨?_, h1.1, hA⟩
  unfold whR ofR
  rw [h, if_pos rfl]
  cases hS : spB 1 (fun _ => ka) with
  | true => rw [if_pos rfl]; exact (show ¬ (3 : Int) = 0 by decide)
  | false =>
    rw [if_neg (by decide)]
    unfold whX
    have hk : ka ≠ 0 := fun q => by
      subst q
      unfold numB at hA
      split at hA
      · cases hA
      · simp at hA
    split
    · exact hk
    · exact (show ¬ (1 : Int) = 0 by decide)
end Go.Proofs.YtnkoeidolmiheaaGreatDoor
