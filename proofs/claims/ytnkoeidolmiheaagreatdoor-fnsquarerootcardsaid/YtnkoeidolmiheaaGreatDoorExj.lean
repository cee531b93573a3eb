/-
  Plain facts for FnRatio: a quotient without a flag, times what it was divided by, is as much as before.
-/
import Derived.Test.YtnkoeidolmiheaaGreatDoorExh
import Derived.Test.YtnkoeidolmiheaaGreatDoorQzp
import Derived.Test.YtnkoeidolmiheaaGreatDoorWhj
import Derived.Test.YtnkoeidolmiheaaGreatDoorSmO
import Derived.Test.YtnkoeidolmiheaaGreatDoorMuP
namespace Go.Proofs.YtnkoeidolmiheaaGreatDoor
set_option linter.unusedVariables false
set_option maxRecDepth 100000
theorem rnd_exact (mode : Int) (neg : Bool) (v : Int) (k : Nat) (hmod : v % 10 ^ k = 0) : rndV mode neg v k false = v / 10 ^ k := by
  unfold rndV rndU
  have hU : upB mode neg (halfI (v % 10 ^ k) (10 ^ k) false k) (rndL v k false) (v / 10 ^ k) = false := by
    have hr : rndL v k false = false := by unfold rndL; rw [hmod]; rfl
    have hh : halfI (v % 10 ^ k) (10 ^ k) false k = -1 := by
      unfold halfI
      rw [hmod]
      by_cases c : k = 0
      · rw [if_pos c]
      · rw [if_neg c, if_pos (by have := ten_pos k; omega)]
    rw [hr, hh]
    unfold upB upO
    by_cases m1 : mode = 1
    · rw [if_pos m1]; rfl
    · rw [if_neg m1]
      by_cases m3 : mode = 3
      · rw [if_pos m3]; rfl
      · rw [if_neg m3]
        by_cases m4 : mode = 4
        · rw [if_pos m4]; rfl
        · rw [if_neg m4]
          by_cases m5 : mode = 5
          · rw [if_pos m5]; rfl
          · rw [if_neg m5]
  rw [hU]; simp
/-- Nothing lost: the value is divided without rest. -/
theorem dr_exact (mode : Int) (neg : Bool) (v : Int) (k : Nat) (h0 : 0 ≤ v) (h1 : v < 10 ^ 34) (h : drL v k = false) : drV mode neg v k * 10 ^ k = v := by
  unfold drL rndL at h
  have hm : v % 10 ^ (min k 200) = 0 := by simpa using h
  by_cases hk : k ≤ 200
  · rw [Nat.min_eq_left hk] at hm
    unfold drV
    rw [Nat.min_eq_left hk, rnd_exact mode neg v k hm]
    exact Int.ediv_mul_cancel (Int.dvd_of_emod_eq_zero hm)
  · rw [Nat.min_eq_right (by omega)] at hm
    have hp : (10 : Int) ^ 34 ≤ 10 ^ 200 := pow_mono _ _ (by decide)
    rw [Int.emod_eq_of_lt h0 (by omega)] at hm
    subst hm
    unfold drV
    rw [(rnd_zero mode neg _).1, Int.zero_mul]
section
variable (f mode : Int) (na : Bool) (ea : Int) (sa : ByteArray) (nb : Bool) (eb : Int) (sb : ByteArray)
theorem qz_num (hf : f = 64 ∨ f = 128) (n : Bool) (e : Int) (D : List Int) (cD : Canon D) (lD : (D.length : Int) ≤ limP f) (h1 : limL f ≤ e) (h2 : e ≤ limH f) : numB f 1 n e (tx D) = true := by
  have hp : limP f ≠ 0 := by rcases hf with rfl | rfl <;> decide
  unfold numB
  rw [if_neg hp, if_pos rfl, natB_tx (limP f) D cD lD]
  simp [h1, h2]
/-- Alike with the same sign, nought or not. -/
theorem alike_any (hf : f = 64 ∨ f = 128) (n : Bool) (e1 : Int) (d1 : List Int) (e2 : Int) (d2 : List Int) (h1 : numB f 1 n e1 (tx d1) = true) (h2 : numB f 1 n e2 (tx d2) = true) (c1 : Canon d1) (c2 : Canon d2) (h : SV (vl d1) e1 (vl d2) e2) : cpR f 1 n e1 (tx d1) 1 n e2 (tx d2) = 0 := by
  by_cases z2 : d2 = [0]
  · subst z2
    rw [show vl [0] = 0 from rfl] at h
    have z1 : d1 = [0] := by
      have := sv_zero_of h
      by_cases z : d1 = [0]
      · exact z
      · have := vl_pos d1 c1 z; omega
    subst z1
    unfold cpR
    rw [h1, h2, Bool.and_self, if_pos rfl, if_neg (by decide), nou_zero, Bool.and_self, if_pos rfl]
  · have z1 : d1 ≠ [0] := fun q => by
      subst q
      rw [show vl [0] = 0 from rfl] at h
      have := sv_zero_of h.symm
      have := vl_pos d2 c2 z2
      omega
    exact alike_fin f n e1 d1 e2 d2 h1 h2 c1 c2 z1 z2 h
/-- What Quantize tells of two finite numbers, where it tells one. -/
theorem qzX_fin (hA : numB f 1 na ea sa = true) (hB : numB f 1 nb eb sb = true) (R0 : Bool) (F2 : Int) (F3 : ByteArray) (F4 : Int) (h : qzX f mode 1 na ea sa 1 eb = (R0, (1, F2, F3, F4))) :
    R0 = na ∧ F2 = eb ∧ numB f 1 na eb F3 = true ∧ (F4 ≠ 0 ∨ cpR f 1 na eb F3 1 na ea sa = 0) ∧ qzX f mode 1 na eb F3 1 eb = (na, (1, eb, F3, 0)) := by
  obtain ⟨hf, ea1, -, ca⟩ := right_two f 1 na ea sa hA (by decide) (by decide)
  obtain ⟨-, eb1, -, cb⟩ := right_two f 1 nb eb sb hB (by decide) (by decide)
  obtain ⟨q1, l1, x1, y1⟩ := ca rfl
  obtain ⟨q2, l2, x2, y2⟩ := cb rfl
  have hL := lims f hf
  have hP : limP f = ((limP f).toNat : Int) ∧ 1 ≤ (limP f).toNat ∧ (limP f).toNat ≤ 34 := by rcases hf with rfl | rfl <;> decide
  have v0 : 0 ≤ vl (dl sa) := (vl_bd _ q1.1).1
  have v1 : vl (dl sa) < 10 ^ (limP f).toNat := Int.lt_of_lt_of_le (vl_bd _ q1.1).2 (pow_mono _ _ (by omega))
  have v34 : vl (dl sa) < 10 ^ 34 := Int.lt_of_lt_of_le v1 (pow_mono _ _ hP.2.2)
  -- the rest, for digits that are told
  have key : ∀ (D : List Int) (F : Int), Canon D → (D.length : Int) ≤ limP f → (F ≠ 0 ∨ SV (vl D) eb (vl (dl sa)) ea) → (na, ((1 : Int), eb, tx D, F)) = (R0, (1, F2, F3, F4)) → R0 = na ∧ F2 = eb ∧ numB f 1 na eb F3 = true ∧ (F4 ≠ 0 ∨ cpR f 1 na eb F3 1 na ea sa = 0) ∧ qzX f mode 1 na eb F3 1 eb = (na, (1, eb, F3, 0)) := fun D F cD lD hs hh => by
    obtain ⟨rfl, -, rfl, rfl, rfl⟩ : na = R0 ∧ (1 : Int) = 1 ∧ eb = F2 ∧ tx D = F3 ∧ F = F4 := by
      simpa only [Prod.mk.injEq] using hh
    have hN := qz_num f hf na eb D cD lD x2 y2
    refine ⟨rfl, rfl, hN, hs.imp id (fun h => ?_), ?_⟩
    · rw [ea1] at hA ⊢
      exact alike_any f hf na eb D ea (dl sa) hN hA cD q1 h
    · have ed : dl (tx D) = D := dl_tx D cD.1
      unfold qzX
      rw [if_neg (by decide), if_neg (by decide), ed, if_neg (by rintro ⟨-, h⟩; omega), if_pos (Int.le_refl _), show (eb - eb).toNat = 0 by omega, Int.pow_zero, Int.mul_one, nt_vl D cD (by omega)]
  unfold qzX at h
  rw [if_neg (by decide), if_neg (by decide)] at h
  by_cases h3 : vl (dl sa) ≠ 0 ∧ limP f < (dl sa).length + (ea - eb)
  · rw [if_pos h3] at h
    exact absurd (congrArg (fun t : Bool × Int × Int × ByteArray × Int => t.2.1) h) (show ¬ (3 : Int) = 1 by decide)
  · rw [if_neg h3] at h
    by_cases h4 : eb ≤ ea
    · rw [if_pos h4] at h
      have hb : vl (dl sa) * 10 ^ (ea - eb).toNat < 10 ^ (limP f).toNat := by
        by_cases hz : vl (dl sa) = 0
        · rw [hz, Int.zero_mul]; exact ten_pos _
        · have hlen : ((dl sa).length : Int) + (ea - eb) ≤ limP f := by
            rcases Int.lt_or_le (limP f) ((dl sa).length + (ea - eb)) with c | c
            · exact absurd ⟨hz, c⟩ h3
            · exact c
          have := Int.mul_lt_mul_of_pos_right (vl_bd _ q1.1).2 (ten_pos (ea - eb).toNat)
          rw [← Int.pow_add] at this
          exact Int.lt_of_lt_of_le this (pow_mono _ _ (by omega))
      have hn0 : 0 ≤ vl (dl sa) * 10 ^ (ea - eb).toNat := Int.mul_nonneg v0 (Int.le_of_lt (ten_pos _))
      obtain ⟨cN, vN⟩ := nt_spec _ hn0 (Int.lt_of_lt_of_le hb (pow_mono _ _ (by omega)))
      have lN := canon_le _ cN (limP f).toNat (by omega) (by rw [vN]; exact hb)
      refine key _ _ cN (by omega) (.inr ?_) h
      rw [vN]
      exact .inl ⟨h4, rfl⟩
    · rw [if_neg h4] at h
      obtain ⟨lN, cN⟩ := drV_len mode na (vl (dl sa)) (eb - ea).toNat (limP f).toNat v0 v1 (by omega) (by omega) (by omega)
      refine key _ _ cN (by omega) ?_ h
      cases hl : drL (vl (dl sa)) (eb - ea).toNat with
      | true => exact .inl (by decide)
      | false =>
        right
        have hx := dr_exact mode na (vl (dl sa)) (eb - ea).toNat v0 v34 hl
        obtain ⟨d0, d1⟩ := drV_bd mode na (vl (dl sa)) (eb - ea).toNat (limP f).toNat v0 v1 (by omega) (by omega)
        have hvN : vl (nt (drV mode na (vl (dl sa)) (eb - ea).toNat)) = drV mode na (vl (dl sa)) (eb - ea).toNat := (nt_spec _ d0 (Int.lt_of_le_of_lt d1 (Int.lt_of_lt_of_le (Int.lt_of_lt_of_le (show (10 : Int) ^ ((limP f).toNat - 1) < 10 ^ ((limP f).toNat - 1) * 10 by have := ten_pos ((limP f).toNat - 1); omega) (Int.le_of_eq (Int.pow_succ 10 _).symm)) (pow_mono _ _ (by omega))))).2
        rw [hvN]
        exact .inr ⟨by omega, hx.symm⟩
end
end Go.Proofs.YtnkoeidolmiheaaGreatDoor
namespace Go.Proofs.YtnkoeidolmiheaaGreatDoor
open Go.RowKit
set_option linter.unusedVariables false
set_option maxRecDepth 100000
/-- How many noughts stand behind the dividend. -/
def dvK (f : Int) (la lb : Nat) : Nat := (limP f - la + lb + 1).toNat
/-- What Div tells of two right numbers that are no NaNs. -/
def dvX (f mode : Int) (ka : Int) (na : Bool) (ea : Int) (sa : ByteArray) (kb : Int) (nb : Bool) (eb : Int) (sb : ByteArray) : R5o :=
  if (ka = 2 ∧ kb = 2) ∨ (zB ka sa = true ∧ zB kb sb = true) then (false, (3, 0, { data := #[] }, 1))
  else if ka = 2 then (!(na == nb), (2, 0, { data := #[] }, 0))
  else if kb = 2 then (!(na == nb), (1, limL f, { data := #[48] }, 0))
  else if zB kb sb = true then (!(na == nb), (2, 0, { data := #[] }, 2))
  else (!(na == nb), finD f mode (!(na == nb)) (nt (vl (dl sa) * 10 ^ dvK f (dl sa).length (dl sb).length / vl (dl sb))) (ea - eb - dvK f (dl sa).length (dl sb).length) (!decide (vl (dl sa) * 10 ^ dvK f (dl sa).length (dl sb).length % vl (dl sb) = 0)) (ea - eb))
/-- What Div tells. -/
def dvR (f mode : Int) (ka : Int) (na : Bool) (ea : Int) (sa : ByteArray) (kb : Int) (nb : Bool) (eb : Int) (sb : ByteArray) : R5o := ofR f mode 2 (tw2 ka kb) (tw2 na nb) (tw2 ea eb) (tw2 sa sb) (dvX f mode ka na ea sa kb nb eb sb)
theorem len_lo (R : List Int) (h : Canon R) (m : Nat) (h0 : 10 ^ m ≤ vl R) : m < R.length := by
  rcases Nat.lt_or_ge m R.length with c | c
  · exact c
  · have b := (vl_bd R h.1).2
    have d := pow_mono R.length m c
    omega
/-- The quotient's digits: all that the format has, and one more at the least. -/
theorem dv_size (f : Int) (hf : f = 64 ∨ f = 128) (da db : List Int) (ca : Canon da) (cb : Canon db) (la : (da.length : Int) ≤ limP f) (lb : (db.length : Int) ≤ limP f) (hb : vl db ≠ 0) :
    Nok (vl da * 10 ^ dvK f da.length db.length) ∧ Nok (vl da * 10 ^ dvK f da.length db.length / vl db) ∧ Nok (vl da * 10 ^ dvK f da.length db.length % vl db) ∧ (vl da ≠ 0 → 10 ^ (limP f).toNat ≤ vl da * 10 ^ dvK f da.length db.length / vl db) ∧ vl da * 10 ^ dvK f da.length db.length / vl db < 10 ^ 70 := by
  have hP : 1 ≤ limP f ∧ limP f ≤ 34 := by rcases hf with rfl | rfl <;> decide
  have a := vl_bd da ca.1
  have b := vl_bd db cb.1
  have pa := ca.2.1
  have pb := cb.2.1
  obtain ⟨k, hk⟩ : ∃ k, dvK f da.length db.length = k := ⟨_, rfl⟩
  have hk2 : (da.length : Int) + k = limP f + db.length + 1 := by rw [← hk]; unfold dvK; omega
  rw [hk]
  have h1 : vl da * 10 ^ k < 10 ^ 70 := by
    have := Int.mul_lt_mul_of_pos_right a.2 (ten_pos k)
    rw [← Int.pow_add] at this
    exact Int.lt_of_lt_of_le this (pow_mono _ _ (by omega))
  have h0 : 0 ≤ vl da * 10 ^ k := Int.mul_nonneg a.1 (Int.le_of_lt (ten_pos k))
  have hbp : 0 < vl db := by have := b.1; omega
  have hq0 := Int.ediv_nonneg h0 (Int.le_of_lt hbp)
  have hq1 := Int.ediv_le_self (vl db) h0
  have hr0 := Int.emod_nonneg (vl da * 10 ^ k) hb
  have hr1 := Int.emod_lt_of_pos (vl da * 10 ^ k) hbp
  have p7 := pow_mono 70 200 (by decide)
  have p3 : vl db < 10 ^ 200 := Int.lt_of_lt_of_le b.2 (pow_mono _ _ (by omega))
  refine ⟨⟨h0, by omega⟩, ⟨hq0, by omega⟩, ⟨hr0, by omega⟩, fun hz => ?_, by omega⟩
  refine Int.le_ediv_of_mul_le hbp ?_
  have hlo := canon_lo da ca (fun c => hz (by rw [c]; rfl))
  have h2 := Int.mul_le_mul_of_nonneg_right hlo (Int.le_of_lt (ten_pos k))
  rw [← Int.pow_add] at h2
  have h3 : (10 : Int) ^ (limP f).toNat * vl db ≤ 10 ^ (limP f).toNat * 10 ^ db.length := Int.mul_le_mul_of_nonneg_left (by omega) (Int.le_of_lt (ten_pos _))
  rw [← Int.pow_add] at h3
  rw [show da.length - 1 + k = (limP f).toNat + db.length by omega] at h2
  omega
/-- A quotient with more digits, and what is left. -/
theorem dv_more (M b : Int) (hb : 0 < b) : M * 100 / b = M / b * 100 + M % b * 100 / b ∧ M * 100 % b = M % b * 100 % b ∧ 0 ≤ M % b * 100 / b ∧ M % b * 100 / b < 100 := by
  have e := Int.mul_ediv_add_emod M b
  have r0 := Int.emod_nonneg M (Int.ne_of_gt hb)
  have r1 := Int.emod_lt_of_pos M hb
  have h : M * 100 = M % b * 100 + b * (M / b * 100) := by
    have h2 := congrArg (· * 100) e
    simp only [Int.add_mul] at h2
    rw [← h2, Int.mul_assoc]
    omega
  refine ⟨?_, ?_, Int.ediv_nonneg (by omega) (Int.le_of_lt hb), Int.ediv_lt_of_lt_mul hb (by omega)⟩
  · rw [h, Int.add_mul_ediv_left _ _ (Int.ne_of_gt hb)]; omega
  · rw [h, Int.add_mul_emod_self_left]
/-- Two digits more give the same. -/
theorem dv_same (f mode : Int) (hf : f = 64 ∨ f = 128) (neg : Bool) (da db : List Int) (ca : Canon da) (cb : Canon db) (la : (da.length : Int) ≤ limP f) (lb : (db.length : Int) ≤ limP f) (hb : vl db ≠ 0) (ha : vl da ≠ 0) (want : Int) :
    finD f mode neg (nt (vl da * 10 ^ (dvK f da.length db.length + 2) / vl db)) (want - ((dvK f da.length db.length + 2 : Nat) : Int)) (!decide (vl da * 10 ^ (dvK f da.length db.length + 2) % vl db = 0)) want
      = finD f mode neg (nt (vl da * 10 ^ dvK f da.length db.length / vl db)) (want - dvK f da.length db.length) (!decide (vl da * 10 ^ dvK f da.length db.length % vl db = 0)) want
    ∧ Nok (vl da * 10 ^ (dvK f da.length db.length + 2)) ∧ Nok (vl da * 10 ^ (dvK f da.length db.length + 2) / vl db) ∧ Nok (vl da * 10 ^ (dvK f da.length db.length + 2) % vl db) := by
  have hP : 1 ≤ limP f ∧ limP f ≤ 34 := by rcases hf with rfl | rfl <;> decide
  obtain ⟨n1, n2, n3, hlo, hhi⟩ := dv_size f hf da db ca cb la lb hb
  have b := vl_bd db cb.1
  have hbp : 0 < vl db := by have := b.1; omega
  have pa := ca.2.1
  have pb := cb.2.1
  have a := vl_bd da ca.1
  obtain ⟨k, hk⟩ : ∃ k, dvK f da.length db.length = k := ⟨_, rfl⟩
  have hk2 : (da.length : Int) + k = limP f + db.length + 1 := by rw [← hk]; unfold dvK; omega
  rw [hk] at n1 n2 n3 hlo hhi ⊢
  obtain ⟨M, hM⟩ : ∃ M, vl da * 10 ^ k = M := ⟨_, rfl⟩
  have hM2 : vl da * 10 ^ (k + 2) = M * 100 := by
    rw [Int.pow_add, ← Int.mul_assoc, hM]; rfl
  rw [hM] at n1 n2 n3 hlo hhi ⊢
  rw [hM2]
  obtain ⟨d1, d2, d3, d4⟩ := dv_more M (vl db) hbp
  have hM7 : M < 10 ^ 70 := by
    have := Int.mul_lt_mul_of_pos_right a.2 (ten_pos k)
    rw [← Int.pow_add, hM] at this
    exact Int.lt_of_lt_of_le this (pow_mono _ _ (by omega))
  have p7 : (10 : Int) ^ 72 = 10 ^ 70 * 100 := Int.pow_add 10 70 2
  have p2 := pow_mono 72 200 (by decide)
  have m0 := n1.1
  have N1 : Nok (M * 100) := ⟨by omega, by omega⟩
  have N2 : Nok (M * 100 / vl db) := N1.le (Int.ediv_nonneg (by omega) (Int.le_of_lt hbp)) (Int.ediv_le_self _ (by omega))
  have N3 : Nok (M * 100 % vl db) := by
    have r1 := Int.emod_lt_of_pos (M * 100) hbp
    have p3 : vl db < 10 ^ 200 := Int.lt_of_lt_of_le b.2 (pow_mono _ _ (by omega))
    exact ⟨Int.emod_nonneg _ hb, by omega⟩
  refine ⟨?_, N1, N2, N3⟩
  have hq := hlo ha
  have hq1 : 1 ≤ M / vl db := Int.le_trans (by have := ten_pos (limP f).toNat; omega) hq
  obtain ⟨c1, v1⟩ := nok_spec n2
  obtain ⟨c2, v2⟩ := nok_spec N2
  have z1 : nt (M / vl db) ≠ [0] := fun c => by rw [c] at v1; have : vl [0] = 0 := rfl; omega
  have z2 : nt (M * 100 / vl db) ≠ [0] := fun c => by rw [c] at v2; have : vl [0] = 0 := rfl; omega
  have l1 := len_lo _ c1 (limP f).toNat (by rw [v1]; exact hq)
  have l2 := canon_le _ c1 70 (by decide) (by rw [v1]; exact hhi)
  have hfin := finN_scale (limP f).toNat (by omega) (limL f) (limH f) mode neg (nt (M / vl db)) (nt (M * 100 / vl db)) (want - k) (!decide (M % vl db = 0)) (!decide (M * 100 % vl db = 0)) want 2 (M % vl db * 100 / vl db) c1 z1 c2 (by rw [v1, v2, d1]; rfl) d3 (by exact d4)
    (fun h => by
      have hr : M % vl db ≠ 0 := by simpa using h
      by_cases c : M % vl db * 100 / vl db = 0
      · refine .inr ?_
        rw [d2]
        have r0 := Int.emod_nonneg M hb
        have e := Int.mul_ediv_add_emod (M % vl db * 100) (vl db)
        rw [c, Int.mul_zero, Int.zero_add] at e
        rw [e]
        simp
        omega
      · exact .inl c)
    (fun h => by
      have hr : M % vl db = 0 := by simpa using h
      refine ⟨by rw [hr, Int.zero_mul, Int.zero_ediv], ?_⟩
      rw [d2, hr, Int.zero_mul, Int.zero_emod]
      rfl) (by omega) (by omega)
  unfold finD
  rw [if_neg z1, if_neg z2, hfin, show want - (k : Int) - ((2 : Nat) : Int) = want - ((k + 2 : Nat) : Int) by omega]
end Go.Proofs.YtnkoeidolmiheaaGreatDoor
namespace Go.Proofs.YtnkoeidolmiheaaGreatDoor
set_option linter.unusedVariables false
set_option maxRecDepth 100000
theorem mulR_fin (f mode : Int) (hmo : 1 ≤ mode ∧ mode ≤ 5) (na : Bool) (ea : Int) (sa : ByteArray) (nb : Bool) (eb : Int) (sb : ByteArray) (hA : numB f 1 na ea sa = true) (hB : numB f 1 nb eb sb = true) : mulR f mode 1 na ea sa 1 nb eb sb = (!(na == nb), finD f mode (!(na == nb)) (nt (vl (dl sa) * vl (dl sb))) (ea + eb) false (ea + eb)) := by
  have hO : addO f mode 1 na ea sa 1 nb eb sb = true := by
    unfold addO
    rw [hA, hB, decide_eq_true hmo]
    rfl
  have hS : spB 2 (tw2 1 1) = false := decide_eq_false (by
    rintro ⟨i, hi, h⟩
    match i, hi with
    | 0, _ => rcases h with h | h <;> cases h
    | 1, _ => rcases h with h | h <;> cases h)
  unfold mulR mulX
  rw [hO, if_pos rfl, hS, if_neg (by decide), if_pos ⟨rfl, rfl⟩]
/-- A quotient without a flag, times the divisor: as much as the dividend. -/
theorem div_back (f mode : Int) (hmo : 1 ≤ mode ∧ mode ≤ 5) (na : Bool) (ea : Int) (sa : ByteArray) (nb : Bool) (eb : Int) (sb : ByteArray) (hA : numB f 1 na ea sa = true) (hB : numB f 1 nb eb sb = true) (R0 : Bool) (F2 : Int) (F3 : ByteArray)
    (h : dvX f mode 1 na ea sa 1 nb eb sb = (R0, (1, F2, F3, 0))) (hR : numB f 1 R0 F2 F3 = true) :
    cpR f (mulR f mode 1 R0 F2 F3 1 nb eb sb).2.1 (mulR f mode 1 R0 F2 F3 1 nb eb sb).1 (mulR f mode 1 R0 F2 F3 1 nb eb sb).2.2.1 (mulR f mode 1 R0 F2 F3 1 nb eb sb).2.2.2.1 1 na ea sa = 0 := by
  obtain ⟨hf, ea1, -, ca⟩ := right_two f 1 na ea sa hA (by decide) (by decide)
  obtain ⟨-, eb1, -, cb⟩ := right_two f 1 nb eb sb hB (by decide) (by decide)
  obtain ⟨-, er1, -, cr⟩ := right_two f 1 R0 F2 F3 hR (by decide) (by decide)
  obtain ⟨q1, l1, x1, y1⟩ := ca rfl
  obtain ⟨q2, l2, x2, y2⟩ := cb rfl
  obtain ⟨q3, l3, x3, y3⟩ := cr rfl
  have hL := lims f hf
  have hP : limP f = ((limP f).toNat : Int) ∧ 1 ≤ (limP f).toNat ∧ (limP f).toNat ≤ 34 := by rcases hf with rfl | rfl <;> decide
  have hO : addO f mode 1 R0 F2 F3 1 nb eb sb = true := by
    unfold addO
    rw [hR, hB, decide_eq_true hmo]
    rfl
  have hMR := mulR_right f mode 1 R0 F2 F3 1 nb eb sb hO
  rw [mulR_fin f mode hmo R0 F2 F3 nb eb sb hR hB] at hMR ⊢
  dsimp only at hMR ⊢
  unfold dvX at h
  by_cases hbz : vl (dl sb) = 0
  · exfalso
    have hzb : zB 1 sb = true := by unfold zB; simp [hbz]
    by_cases h1 : ((1 : Int) = 2 ∧ (1 : Int) = 2) ∨ (zB 1 sa = true ∧ zB 1 sb = true)
    · rw [if_pos h1] at h
      exact absurd (congrArg (fun t : Bool × Int × Int × ByteArray × Int => t.2.1) h) (show ¬ (3 : Int) = 1 by decide)
    · rw [if_neg h1, if_neg (by decide), if_neg (by decide), if_pos hzb] at h
      exact absurd (congrArg (fun t : Bool × Int × Int × ByteArray × Int => t.2.1) h) (show ¬ (2 : Int) = 1 by decide)
  · have hzb : zB 1 sb = false := by unfold zB; simp [hbz]
    rw [hzb, if_neg (by rintro (⟨h, -⟩ | ⟨-, h⟩); · exact absurd h (by decide)
                        · cases h), if_neg (by decide), if_neg (by decide), if_neg (by decide)] at h
    obtain ⟨nk1, nk2, nk3, hbig, hsm⟩ := dv_size f hf (dl sa) (dl sb) q1 q2 l1 l2 hbz
    obtain ⟨K, hK⟩ : ∃ K, dvK f (dl sa).length (dl sb).length = K := ⟨_, rfl⟩
    rw [hK] at h nk1 nk2 nk3 hbig hsm
    have hR0 : (!(na == nb)) = R0 := congrArg Prod.fst h
    have h2 := congrArg Prod.snd h
    dsimp only at h2
    have vb : 1 ≤ vl (dl sb) := by have := (vl_bd _ q2.1).1; omega
    have sg : (!(R0 == nb)) = na := by rw [← hR0]; cases na <;> cases nb <;> rfl
    rw [sg] at hMR ⊢
    by_cases haz : vl (dl sa) = 0
    · -- nought
      have hza : dl sa = [0] := by
        by_cases z : dl sa = [0]
        · exact z
        · have := vl_pos _ q1 z; omega
      rw [haz, Int.zero_mul, Int.zero_ediv, nt_0] at h2
      obtain ⟨-, hF3, -⟩ := finD_zero _ _ _ _ _ _ _ _ _ _ h2
      have e3 : dl F3 = [0] := by rw [hF3]; exact dl_tx [0] canon_zero.1
      rw [e3, show vl [0] = 0 from rfl, Int.zero_mul, nt_0] at hMR ⊢
      obtain ⟨E, hE⟩ := finD_zero' f mode na (F2 + eb) false (F2 + eb)
      rw [hE] at hMR ⊢
      dsimp only at hMR ⊢
      unfold cpR
      rw [hMR, hA, Bool.and_self, if_pos rfl, if_neg (by decide), nou_zero, ea1, hza, nou_zero, Bool.and_self, if_pos rfl]
    · have hza : dl sa ≠ [0] := fun z => haz (by rw [z]; rfl)
      have hq1 := hbig haz
      have hpp := ten_pos (limP f).toNat
      obtain ⟨cQ, vQ⟩ := nt_spec _ nk2.1 (Int.lt_of_lt_of_le hsm (pow_mono _ _ (by decide)))
      have lQ : (nt (vl (dl sa) * 10 ^ K / vl (dl sb))).length ≤ 200 := by
        have := canon_le _ cQ 70 (by decide) (by rw [vQ]; exact hsm)
        omega
      have zQ : nt (vl (dl sa) * 10 ^ K / vl (dl sb)) ≠ [0] := fun z => by
        have : vl (nt (vl (dl sa) * 10 ^ K / vl (dl sb))) = 0 := by rw [z]; rfl
        omega
      rw [finD_ne _ _ _ _ _ _ _ zQ] at h2
      obtain ⟨-, hrest, D, hS, dD, hsv⟩ := finN_flag0 _ hP.2.1 _ _ _ _ _ _ _ _ cQ zQ lQ _ _ _ h2
      have hmod : vl (dl sa) * 10 ^ K % vl (dl sb) = 0 := by simpa using hrest
      have hd : vl (dl sa) * 10 ^ K / vl (dl sb) * vl (dl sb) = vl (dl sa) * 10 ^ K := Int.ediv_mul_cancel (Int.dvd_of_emod_eq_zero hmod)
      have e3 : dl F3 = D := by rw [hS]; exact dl_tx D dD
      rw [vQ] at hsv
      -- the product's value
      have hpv : SV (vl (dl F3) * vl (dl sb)) (F2 + eb) (vl (dl sa)) ea := by
        have s1 : SV (vl (dl F3) * vl (dl sb)) (F2 + eb) (vl (dl sa) * 10 ^ K) (ea - eb - K + eb) := by
          rw [e3, ← hd]
          rcases hsv with ⟨c, hv⟩ | ⟨c, hv⟩
          · refine .inl ⟨by omega, ?_⟩
            rw [hv, Int.mul_assoc, Int.mul_comm _ (vl (dl sb)), ← Int.mul_assoc, show (ea - eb - (K : Int) + eb - (F2 + eb)).toNat = (ea - eb - (K : Int) - F2).toNat by omega]
          · refine .inr ⟨by omega, ?_⟩
            rw [hv, Int.mul_assoc, Int.mul_comm _ (vl (dl sb)), ← Int.mul_assoc, show (F2 + eb - (ea - eb - (K : Int) + eb)).toNat = (F2 - (ea - eb - (K : Int))).toNat by omega]
        have s2 := sv_shift (vl (dl sa)) (ea - eb - K + eb) K
        rw [show ea - eb - (K : Int) + eb + K = ea by omega] at s2
        exact s1.trans s2
      have z3 : dl F3 ≠ [0] := fun z => by
        rw [z, show vl [0] = 0 from rfl, Int.zero_mul] at hpv
        have := sv_zero_of hpv.symm
        omega
      obtain ⟨nk, -⟩ := mul_bd (dl F3) (dl sb) q3 q2 (by omega) (by omega)
      have hm0 : vl (dl F3) * vl (dl sb) ≠ 0 := fun z => by
        rw [z] at hpv
        have := sv_zero_of hpv.symm
        omega
      obtain ⟨cM, vM⟩ := nok_spec nk
      have zM := nok_ne0 nk hm0
      obtain ⟨D', E, hs, cD, hD, -⟩ := finN_exact f hf mode na _ (F2 + eb) (F2 + eb) cM zM (nok_len nk) (dl sa) ea q1 hza (by omega) x1 y1 (by rw [vM]; exact hpv)
      rw [finD_ne _ _ _ _ _ _ _ zM, hs] at hMR ⊢
      dsimp only at hMR ⊢
      rw [vM] at hD
      rw [ea1] at hA ⊢
      exact alike_any f hf na E D' ea (dl sa) hMR hA cD q1 (hD.trans hpv)
end Go.Proofs.YtnkoeidolmiheaaGreatDoor
