/-
  What Div tells: plain facts.
-/
import Derived.Test.YtmndemegiimagarGreatDoorQza
import Derived.Test.YtmndemegiimagarGreatDoorSmO
namespace Go.Proofs.YtmndemegiimagarGreatDoor
open Go.RowKit
set_option linter.unusedVariables false
set_option maxRecDepth 100000
/-- How many noughts stand behind the dividend. -/
def dvK (f : Int) (la lb : Nat) : Nat := (limP f - la + lb + 1).toNat
/-- What Div tells of two right numbers that are no NaNs. -/
def dvX (f mode : Int) (ka : Int) (na : Bool) (ea : Int) (sa : ByteArray) (kb : Int) (nb : Bool) (eb : Int) (sb : ByteArray) : R5o :=
  if (ka = 2 ∧ kb = 2) ∨ (zB ka sa = true ∧ zB kb sb = true) then (false, (3, 0, { data := #[] }, 1))
  else if ka = 2 then (!(na == nb), (2, 0, { data := #[] }, 0))
  else if kb = 2 then (!(na == nb), (1, limL f, { data := #[48] }, 0))
  else if zB kb sb = true then (!(na == nb), (2, 0, { data := #[] }, 2))
  else (!(na == nb), finD f mode (!(na == nb)) (nt (vl (dl sa) * 10 ^ dvK f (dl sa).length (dl sb).length / vl (dl sb))) (ea - eb - dvK f (dl sa).length (dl sb).length) (!decide (vl (dl sa) * 10 ^ dvK f (dl sa).length (dl sb).length % vl (dl sb) = 0)) (ea - eb))
/-- What Div tells. -/
def dvR (f mode : Int) (ka : Int) (na : Bool) (ea : Int) (sa : ByteArray) (kb : Int) (nb : Bool) (eb : Int) (sb : ByteArray) : R5o := ofR f mode 2 (tw2 ka kb) (tw2 na nb) (tw2 ea eb) (tw2 sa sb) (dvX f mode ka na ea sa kb nb eb sb)
theorem len_lo (R : List Int) (h : Canon R) (m : Nat) (h0 : 10 ^ m ≤ vl R) : m < R.length := by
  rcases Nat.lt_or_ge m R.length with c | c
  · exact c
  · have b := (vl_bd R h.1).2
    have d := pow_mono R.length m c
    omega
/-- The quotient's digits: all that the format has, and one more at the least. -/
theorem dv_size (f : Int) (hf : f = 64 ∨ f = 128) (da db : List Int) (ca : Canon da) (cb : Canon db) (la : (da.length : Int) ≤ limP f) (lb : (db.length : Int) ≤ limP f) (hb : vl db ≠ 0) :
    Nok (vl da * 10 ^ dvK f da.length db.length) ∧ Nok (vl da * 10 ^ dvK f da.length db.length / vl db) ∧ Nok (vl da * 10 ^ dvK f da.length db.length % vl db) ∧ (vl da ≠ 0 → 10 ^ (limP f).toNat ≤ vl da * 10 ^ dvK f da.length db.length / vl db) ∧ vl da * 10 ^ dvK f da.length db.length / vl db < 10 ^ 70 := by
  have hP : 1 ≤ limP f ∧ limP f ≤ 34 := by rcases hf with rfl | rfl <;> decide
  have a := vl_bd da ca.1
  have b := vl_bd db cb.1
  have pa := ca.2.1
  have pb := cb.2.1
  obtain ⟨k, hk⟩ : ∃ k, dvK f da.length db.length = k := ⟨_, rfl⟩
  have hk2 : (da.length : Int) + k = limP f + db.length + 1 := by rw [← hk]; unfold dvK; omega
  rw [hk]
  have h1 : vl da * 10 ^ k < 10 ^ 70 := by
    have := Int.mul_lt_mul_of_pos_right a.2 (ten_pos k)
    rw [← Int.pow_add] at this
    exact Int.lt_of_lt_of_le this (pow_mono _ _ (by omega))
  have h0 : 0 ≤ vl da * 10 ^ k := Int.mul_nonneg a.1 (Int.le_of_lt (ten_pos k))
  have hbp : 0 < vl db := by have := b.1; omega
  have hq0 := Int.ediv_nonneg h0 (Int.le_of_lt hbp)
  have hq1 := Int.ediv_le_self (vl db) h0
  have hr0 := Int.emod_nonneg (vl da * 10 ^ k) hb
  have hr1 := Int.emod_lt_of_pos (vl da * 10 ^ k) hbp
  have p7 := pow_mono 70 200 (by decide)
  have p3 : vl db < 10 ^ 200 := Int.lt_of_lt_of_le b.2 (pow_mono _ _ (by omega))
  refine ⟨⟨h0, by omega⟩, ⟨hq0, by omega⟩, ⟨hr0, by omega⟩, fun hz => ?_, by omega⟩
  refine Int.le_ediv_of_mul_le hbp ?_
  have hlo := canon_lo da ca (fun c => hz (by rw [c]; rfl))
  have h2 := Int.mul_le_mul_of_nonneg_right hlo (Int.le_of_lt (ten_pos k))
  rw [← Int.pow_add] at h2
  have h3 : (10 : Int) ^ (limP f).toNat * vl db ≤ 10 ^ (limP f).toNat * 10 ^ db.length := Int.mul_le_mul_of_nonneg_left (by omega) (Int.le_of_lt (ten_pos _))
  rw [← Int.pow_add] at h3
  rw [show da.length - 1 + k = (limP f).toNat + db.length by omega] at h2
  omega
/-- A quotient with more digits, and what is left. -/
theorem dv_more (M b : Int) (hb : 0 < b) : M * 100 / b = M / b * 100 + M % b * 100 / b ∧ M * 100 % b = M % b * 100 % b ∧ 0 ≤ M % b * 100 / b ∧ M % b * 100 / b < 100 := by
  have e := Int.mul_ediv_add_emod M b
  have r0 := Int.emod_nonneg M (Int.ne_of_gt hb)
  have r1 := Int.emod_lt_of_pos M hb
  have h : M * 100 = M % b * 100 + b * (M / b * 100) := by
    have h2 := congrArg (· * 100) e
    simp only [Int.add_mul] at h2
    rw [← h2, Int.mul_assoc]
    omega
  refine ⟨?_, ?_, Int.ediv_nonneg (by omega) (Int.le_of_lt hb), Int.ediv_lt_of_lt_mul hb (by omega)⟩
  · rw [h, Int.add_mul_ediv_left _ _ (Int.ne_of_gt hb)]; omega
  · rw [h, Int.add_mul_emod_self_left]
/-- Two digits more give the same. -/
theorem dv_same (f mode : Int) (hf : f = 64 ∨ f = 128) (neg : Bool) (da db : List Int) (ca : Canon da) (cb : Canon db) (la : (da.length : Int) ≤ limP f) (lb : (db.length : Int) ≤ limP f) (hb : vl db ≠ 0) (ha : vl da ≠ 0) (want : Int) :
    finD f mode neg (nt (vl da * 10 ^ (dvK f da.length db.length + 2) / vl db)) (want - ((dvK f da.length db.length + 2 : Nat) : Int)) (!decide (vl da * 10 ^ (dvK f da.length db.length + 2) % vl db = 0)) want
      = finD f mode neg (nt (vl da * 10 ^ dvK f da.length db.length / vl db)) (want - dvK f da.length db.length) (!decide (vl da * 10 ^ dvK f da.length db.length % vl db = 0)) want
    ∧ Nok (vl da * 10 ^ (dvK f da.length db.length + 2)) ∧ Nok (vl da * 10 ^ (dvK f da.length db.length + 2) / vl db) ∧ Nok (vl da * 10 ^ (dvK f da.length db.length + 2) % vl db) := by
  have hP : 1 ≤ limP f ∧ limP f ≤ 34 := by rcases hf with rfl | rfl <;> decide
  obtain ⟨n1, n2, n3, hlo, hhi⟩ := dv_size f hf da db ca cb la lb hb
  have b := vl_bd db cb.1
  have hbp : 0 < vl db := by have := b.1; omega
  have pa := ca.2.1
  have pb := cb.2.1
  have a := vl_bd da ca.1
  obtain ⟨k, hk⟩ : ∃ k, dvK f da.length db.length = k := ⟨_, rfl⟩
  have hk2 : (da.length : Int) + k = limP f + db.length + 1 := by rw [← hk]; unfold dvK; omega
  rw [hk] at n1 n2 n3 hlo hhi ⊢
  obtain ⟨M, hM⟩ : ∃ M, vl da * 10 ^ k = M := ⟨_, rfl⟩
  have hM2 : vl da * 10 ^ (k + 2) = M * 100 := by
    rw [Int.pow_add, ← Int.mul_assoc, hM]; rfl
  rw [hM] at n1 n2 n3 hlo hhi ⊢
  rw [hM2]
  obtain ⟨d1, d2, d3, d4⟩ := dv_more M (vl db) hbp
  have hM7 : M < 10 ^ 70 := by
    have := Int.mul_lt_mul_of_pos_right a.2 (ten_pos k)
    rw [← Int.pow_add, hM] at this
    exact Int.lt_of_lt_of_le this (pow_mono _ _ (by omega))
  have p7 : (10 : Int) ^ 72 = 10 ^ 70 * 100 := Int.pow_add 10 70 2
  have p2 := pow_mono 72 200 (by decide)
  have m0 := n1.1
  have N1 : Nok (M * 100) := ⟨by omega, by omega⟩
  have N2 : Nok (M * 100 / vl db) := N1.le (Int.ediv_nonneg (by omega) (Int.le_of_lt hbp)) (Int.ediv_le_self _ (by omega))
  have N3 : Nok (M * 100 % vl db) := by
    have r1 := Int.emod_lt_of_pos (M * 100) hbp
    have p3 : vl db < 10 ^ 200 := Int.lt_of_lt_of_le b.2 (pow_mono _ _ (by omega))
    exact ⟨Int.emod_nonneg _ hb, by omega⟩
  refine ⟨?_, N1, N2, N3⟩
  have hq := hlo ha
  have hq1 : 1 ≤ M / vl db := Int.le_trans (by have := ten_pos (limP f).toNat; omega) hq
  obtain ⟨c1, v1⟩ := nok_spec n2
  obtain ⟨c2, v2⟩ := nok_spec N2
  have z1 : nt (M / vl db) ≠ [0] := fun c => by rw [c] at v1; have : vl [0] = 0 := rfl; omega
  have z2 : nt (M * 100 / vl db) ≠ [0] := fun c => by rw [c] at v2; have : vl [0] = 0 := rfl; omega
  have l1 := len_lo _ c1 (limP f).toNat (by rw [v1]; exact hq)
  have l2 := canon_le _ c1 70 (by decide) (by rw [v1]; exact hhi)
  have hfin := finN_scale (limP f).toNat (by omega) (limL f) (limH f) mode neg (nt (M / vl db)) (nt (M * 100 / vl db)) (want - k) (!decide (M % vl db = 0)) (!decide (M * 100 % vl db = 0)) want 2 (M % vl db * 100 / vl db) c1 z1 c2 (by rw [v1, v2, d1]; rfl) d3 (by exact d4)
    (fun h => by
      have hr : M % vl db ≠ 0 := by simpa using h
      by_cases c : M % vl db * 100 / vl db = 0
      · refine .inr ?_
        rw [d2]
        have r0 := Int.emod_nonneg M hb
        have e := Int.mul_ediv_add_emod (M % vl db * 100) (vl db)
        rw [c, Int.mul_zero, Int.zero_add] at e
        rw [e]
        simp
        omega
      · exact .inl c)
    (fun h => by
      have hr : M % vl db = 0 := by simpa using h
      refine ⟨by rw [hr, Int.zero_mul, Int.zero_ediv], ?_⟩
      rw [d2, hr, Int.zero_mul, Int.zero_emod]
      rfl) (by omega) (by omega)
  unfold finD
  rw [if_neg z1, if_neg z2, hfin, show want - (k : Int) - ((2 : Nat) : Int) = want - ((k + 2 : Nat) : Int) by omega]
end Go.Proofs.YtmndemegiimagarGreatDoor
