/-
  Plain facts for FnCohort, and what a cohort holds.
-/
import Derived.Test.YtnkoeidolmiheaaDoorChj
import Derived.Test.YtnkoeidolmiheaaDoorGrq
namespace Go.Proofs.YtnkoeidolmiheaaDoor
open Go.RowKit
set_option linter.unusedVariables false
set_option maxRecDepth 100000
theorem ch_num (f : Int) (hf : f = 64 ∨ f = 128) (n : Bool) (e : Int) (D : List Int) (cD : Canon D) (lD : (D.length : Int) ≤ limP f) (h1 : limL f ≤ e) (h2 : e ≤ limH f) : numB f 1 n e (tx D) = true := by
  have hp : limP f ≠ 0 := by rcases hf with rfl | rfl <;> decide
  unfold numB
  rw [if_neg hp, if_pos rfl, natB_tx (limP f) D cD lD]
  simp [h1, h2]
theorem ch_lo (R : List Int) (h : Canon R) (hz : R ≠ [0]) : 10 ^ (R.length - 1) ≤ vl R := by
  rcases Nat.lt_or_ge 1 R.length with c | c
  · exact canon_low R h c
  · have : R.length = 1 := by have := h.2.1; omega
    rw [this]
    have b := (vl_bd R h.1).1
    have : vl R ≠ 0 := fun e => hz (canon_nought R h e)
    show (10 : Int) ^ 0 ≤ vl R
    rw [Int.pow_zero]
    omega
theorem ch_nou (d : List Int) (hc : Canon d) (hz : d ≠ [0]) : nouB 1 (tx d) = false := by
  unfold nouB
  rw [tx_is0 d hc.1 hz, Bool.and_false]
/-- Without signs. -/
theorem ch_val (ea : Int) (da : List Int) (eb : Int) (db : List Int) (ca : Canon da) (za : da ≠ [0]) (cb : Canon db) (zb : db ≠ [0]) (M : Int) (h1 : M ≤ ea) (h2 : M ≤ eb) :
    cmpU false 1 ea (tx da) 1 eb (tx db) = cI (vl da * 10 ^ (ea - M).toNat) (vl db * 10 ^ (eb - M).toNat) := by
  have key : ∀ (e1 : Int) (d1 : List Int) (e2 : Int) (d2 : List Int), Canon d1 → Canon d2 → d1 ≠ [0] → d2 ≠ [0] → M ≤ e1 → M ≤ e2 → e1 + (d1.length : Int) < e2 + (d2.length : Int) → vl d1 * 10 ^ (e1 - M).toNat < vl d2 * 10 ^ (e2 - M).toNat := fun e1 d1 e2 d2 c1 c2 z1 z2 m1 m2 h => by
    have lo := ch_lo d2 c2 z2
    have hi := (vl_bd d1 c1.1).2
    have n2 := c2.2.1
    have q1 : 10 ^ (d2.length - 1) * 10 ^ (e2 - M).toNat ≤ vl d2 * 10 ^ (e2 - M).toNat := Int.mul_le_mul_of_nonneg_right lo (Int.le_of_lt (ten_pos _))
    have q2 : vl d1 * 10 ^ (e1 - M).toNat < 10 ^ d1.length * 10 ^ (e1 - M).toNat := Int.mul_lt_mul_of_pos_right hi (ten_pos _)
    rw [← Int.pow_add] at q1 q2
    have := pow_mono (d1.length + (e1 - M).toNat) (d2.length - 1 + (e2 - M).toNat) (by omega)
    omega
  rw [cu_fin ea (tx da) eb (tx db) (ch_nou da ca za) (ch_nou db cb zb), tx_size, tx_size]
  rcases Int.lt_trichotomy (ea + (da.length : Int)) (eb + (db.length : Int)) with h | h | h
  · rw [cI_lt _ _ h, cI_lt _ _ (key ea da eb db ca cb za zb h1 h2 h)]; rfl
  · rw [h, cI_same]
    show Lib.compareBytes _ _ = _
    exact cmp_trS da db ca.1 cb.1 (ea - M).toNat (eb - M).toNat (by omega)
  · rw [cI_gt _ _ h, cI_gt _ _ (key eb db ea da cb ca zb za h2 h1 h)]; rfl
theorem ch_alike (f : Int) (b : Bool) (e1 : Int) (d1 : List Int) (e2 : Int) (d2 : List Int) (h1 : numB f 1 b e1 (tx d1) = true) (h2 : numB f 1 b e2 (tx d2) = true) (c1 : Canon d1) (z1 : d1 ≠ [0]) (c2 : Canon d2) (z2 : d2 ≠ [0]) (M : Int) (m1 : M ≤ e1) (m2 : M ≤ e2) (h : vl d1 * 10 ^ (e1 - M).toNat = vl d2 * 10 ^ (e2 - M).toNat) : cpR f 1 b e1 (tx d1) 1 b e2 (tx d2) = 0 := by
  unfold cpR
  rw [h1, h2, Bool.and_self, if_pos rfl, if_neg (by decide), ch_nou d1 c1 z1, Bool.false_and, if_neg (by decide)]
  have v1 := ch_val e1 d1 e2 d2 c1 z1 c2 z2 M m1 m2
  have v2 := ch_val e2 d2 e1 d1 c2 z2 c1 z1 M m2 m1
  rw [h, cI_same] at v1
  rw [h, cI_same] at v2
  unfold cmpR
  cases b
  · exact v1
  · exact v2
/-- All of a cohort: right, alike, by rising exponent; the number is among them. -/
def CohP (f k : Int) (b : Bool) (e : Int) (s : ByteArray) (l : List Nmt) : Prop :=
  (∀ (i : Nat) (p : Nmt), l[i]? = some p → numB f p.1 p.2.1 p.2.2.1 p.2.2.2 = true ∧ cpR f p.1 p.2.1 p.2.2.1 p.2.2.2 k b e s = 0 ∧ ∀ q : Nmt, 0 < i → l[i - 1]? = some q → p.2.2.1 = q.2.2.1 + 1)
  ∧ (0 < l.length → numB f k b e s = true ∧ ∃ i : Nat, l[i]? = some (k, b, e, s))
theorem cohL_get (b : Bool) (lo : Int) (Z : Nat) (T : List Int) (M i : Nat) (p : Nmt) (h : (cohL b lo Z T M)[i]? = some p) : i < M ∧ p = itm b lo Z T i := by
  unfold cohL at h
  rw [List.getElem?_map] at h
  by_cases hi : i < M
  · rw [List.getElem?_range hi] at h
    exact ⟨hi, by simpa using h.symm⟩
  · rw [List.getElem?_eq_none (by simpa using hi)] at h
    cases h
theorem cohL_at (b : Bool) (lo : Int) (Z : Nat) (T : List Int) (M i : Nat) (hi : i < M) : (cohL b lo Z T M)[i]? = some (itm b lo Z T i) := by
  unfold cohL
  rw [List.getElem?_map, List.getElem?_range hi]
  rfl
theorem cohP_fin (f : Int) (hf : f = 64 ∨ f = 128) (b : Bool) (e : Int) (T : List Int) (t : Nat) (cT : Canon T) (zT : T ≠ [0]) (hn : ((T.length + t : Nat) : Int) ≤ limP f) (he : limL f ≤ e ∧ e ≤ limH f)
    (J M : Nat) (hJ : (J : Int) = min (limP f - (T.length + t : Nat)) (e - limL f)) (hM : (M : Int) = min ((t + J : Nat) : Int) (limH f - (e - (J : Int))) + 1) :
    CohP f 1 b e (tx (T ++ List.replicate t 0)) (cohL b (e - (J : Int)) (t + J) T M) := by
  have hc : ∀ m : Nat, Canon (T ++ List.replicate m 0) := fun m => canon_noughts T m cT zT
  have hN : ∀ (m : Nat) (E : Int), ((T.length + m : Nat) : Int) ≤ limP f → limL f ≤ E → E ≤ limH f → numB f 1 b E (tx (T ++ List.replicate m 0)) = true := fun m E h1 h2 h3 => by
    refine ch_num f hf b E _ (hc m) ?_ h2 h3
    rw [List.length_append, List.length_replicate]
    omega
  have hO := hN t e (by omega) he.1 he.2
  refine ⟨fun i p hp => ?_, fun _ => ⟨hO, J, ?_⟩⟩
  · obtain ⟨hi, rfl⟩ := cohL_get _ _ _ _ _ _ _ hp
    have h1 := hN (t + J - i) (e - (J : Int) + i) (by omega) (by omega) (by omega)
    refine ⟨h1, ?_, fun q h0 hq => ?_⟩
    · have hzz : ∀ m : Nat, T ++ List.replicate m 0 ≠ [0] := fun m q => by
        cases m with
        | zero => simp at q; exact zT q
        | succ m =>
          have h1 := congrArg List.length q
          rw [List.length_append, List.length_replicate] at h1
          have := cT.2.1
          simp at h1
          omega
      show cpR f 1 b (e - (J : Int) + (i : Int)) (tx (T ++ List.replicate (t + J - i) 0)) 1 b e (tx (T ++ List.replicate t 0)) = 0
      refine ch_alike f b _ _ _ _ h1 hO (hc _) (hzz _) (hc _) (hzz _) (e - (J : Int)) (by omega) (by omega) ?_
      rw [vl_noughts, vl_noughts, Int.mul_assoc, Int.mul_assoc, ← Int.pow_add, ← Int.pow_add]
      rw [show (t + J - i) + (e - (J : Int) + (i : Int) - (e - (J : Int))).toNat = t + (e - (e - (J : Int))).toNat by omega]
    · obtain ⟨-, rfl⟩ := cohL_get _ _ _ _ _ _ _ hq
      show e - (J : Int) + (i : Int) = e - (J : Int) + ((i - 1 : Nat) : Int) + 1
      omega
  · rw [cohL_at _ _ _ _ _ _ (by omega)]
    unfold itm
    rw [show e - (J : Int) + (J : Int) = e by omega, show t + J - J = t by omega]
theorem cohort_full (f k : Int) (b : Bool) (e : Int) (s : ByteArray) (hs : s.size ≤ 4611686018427387904) : ∃ l : List Nmt, l.length ≤ 100 ∧ Tells 7 #[.int .i64 f, numV k b e s] l ∧ Tells 6 #[.int .i64 f, numV k b e s] l ∧ CohP f k b e s l := by
  have hnil : CohP f k b e s [] := ⟨fun i p h => by simp at h, fun h => by simp at h⟩
  cases hO : numB f k b e s with
  | false => exact ⟨[], by decide, sCohort_no f k b e s hs (.inl hO), iCohort_no f k b e s hs (.inl hO), hnil⟩
  | true =>
    by_cases hk : k = 1
    case neg => exact ⟨[], by decide, sCohort_no f k b e s hs (.inr hk), iCohort_no f k b e s hs (.inr hk), hnil⟩
    clear hnil
    subst hk
    obtain ⟨hf, hs1, -, hc⟩ := right_twoz f 1 b e s hO (by decide) (by decide)
    obtain ⟨cc, lp, e1, e2⟩ := hc rfl
    by_cases hz : dl s = [0]
    · have e0 : s = { data := #[48] } := by
        rw [hs1, hz]
        apply ByteArray.ext
        rw [tx_data]
        rfl
      subst e0
      refine ⟨[(1, b, e, { data := #[48] })], by simp, sCohort_zero f b e hO, iCohort_zero f b e hO, fun i p hp => ?_, fun _ => ⟨hO, 0, rfl⟩⟩
      cases i with
      | zero =>
        obtain rfl : (1, b, e, { data := #[48] }) = p := by simpa using hp
        refine ⟨hO, ?_, fun q h0 => absurd h0 (by decide)⟩
        show cpR f 1 b e { data := #[48] } 1 b e { data := #[48] } = 0
        unfold cpR
        rw [hO, Bool.and_self, if_pos rfl, if_neg (by decide), if_pos]
        unfold nouB
        rw [ByteArray.toList_eq]
        rfl
      | succ i => simp at hp
    · obtain ⟨T, t, hL, T', d, hTd, hd⟩ := tail_noughts (dl s) (canon_some _ cc hz)
      generalize dl s = L at *
      subst hs1 hL
      obtain ⟨cT, zT⟩ := canon_part T T' d t cc hTd hd
      have hlen : ((T.length + t : Nat) : Int) ≤ limP f := by
        rw [List.length_append, List.length_replicate] at lp
        exact lp
      have h34 := limsz f hf
      have hne : ((tx (T ++ List.replicate t 0)).toList == [48]) = false := by
        refine beq_eq_false_iff_ne.2 fun q => hz ?_
        have : tx (T ++ List.replicate t 0) = tx [0] := by
          apply ByteArray.ext
          apply Array.toList_inj.1
          rw [← ByteArray.toList_eq, q, tx_data]
          rfl
        rw [← dl_tx (T ++ List.replicate t 0) cc.1, this]
        exact dl_tx [0] (fun d hd => by simp at hd; omega)
      obtain ⟨J, hJ⟩ : ∃ J : Nat, (J : Int) = min (limP f - (T.length + t : Nat)) (e - limL f) := ⟨(min (limP f - (T.length + t : Nat)) (e - limL f)).toNat, by omega⟩
      obtain ⟨M, hM⟩ : ∃ M : Nat, (M : Int) = min ((t + J : Nat) : Int) (limH f - (e - (J : Int))) + 1 := ⟨(min ((t + J : Nat) : Int) (limH f - (e - (J : Int))) + 1).toNat, by omega⟩
      refine ⟨cohL b (e - (J : Int)) (t + J) T M, by rw [cohL_len]; omega, fun X => ?_, fun X => ?_, ?_⟩
      · exact sCohort_fin f hf b e T t cT.1 ⟨T', d, hTd, hd⟩ hlen ⟨e1, e2⟩ hO hz J (t + J) M (e - (J : Int)) hJ rfl rfl hM X
      · exact iCohort_fin f hf b e T t cT.1 ⟨T', d, hTd, hd⟩ cT zT hlen ⟨e1, e2⟩ hO hne J (t + J) M (e - (J : Int)) hJ rfl rfl hM X
      · exact cohP_fin f hf b e T t cT zT hlen ⟨e1, e2⟩ J M hJ hM
end Go.Proofs.YtnkoeidolmiheaaDoor
