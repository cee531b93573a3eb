/-
  Plain facts for FnAdded: what Add tells is right; it goes both ways; a number less itself; a number and nought.
-/
import Derived.Test.YtnkoeidolmiheaaGreatDoorSmL
import Derived.Test.YtnkoeidolmiheaaGreatDoorExg
namespace Go.Proofs.YtnkoeidolmiheaaGreatDoor
open Go.RowKit
set_option linter.unusedVariables false
set_option maxRecDepth 100000
theorem spB_comm (a b : Int) : spB 2 (tw2 a b) = spB 2 (tw2 b a) := by
  have h : ∀ x y : Int, (∃ i, i < 2 ∧ (tw2 x y i = 3 ∨ tw2 x y i = 4)) → ∃ i, i < 2 ∧ (tw2 y x i = 3 ∨ tw2 y x i = 4) := by
    rintro x y ⟨i, hi, q⟩
    match i, hi with
    | 0, _ => exact ⟨1, by decide, q⟩
    | 1, _ => exact ⟨0, by decide, q⟩
  unfold spB
  exact decide_eq_decide.2 ⟨h a b, h b a⟩
theorem spF_comm (a b : Int) : spF 2 (tw2 a b) = spF 2 (tw2 b a) := by
  have h : ∀ x y : Int, (∃ i, i < 2 ∧ tw2 x y i = 4) → ∃ i, i < 2 ∧ tw2 y x i = 4 := by
    rintro x y ⟨i, hi, q⟩
    match i, hi with
    | 0, _ => exact ⟨1, by decide, q⟩
    | 1, _ => exact ⟨0, by decide, q⟩
  unfold spF
  by_cases q : ∃ i, i < 2 ∧ tw2 a b i = 4
  · rw [if_pos q, if_pos (h a b q)]
  · rw [if_neg q, if_neg (fun c => q (h b a c))]
theorem addO_comm (f mode : Int) (ka : Int) (na : Bool) (ea : Int) (sa : ByteArray) (kb : Int) (nb : Bool) (eb : Int) (sb : ByteArray) : addO f mode ka na ea sa kb nb eb sb = addO f mode kb nb eb sb ka na ea sa := by
  unfold addO
  rw [Bool.and_comm (numB f ka na ea sa)]
end Go.Proofs.YtnkoeidolmiheaaGreatDoor
namespace Go.Proofs.YtnkoeidolmiheaaGreatDoor
set_option linter.unusedVariables false
set_option maxRecDepth 100000
/-- What Finish tells of more digits than it keeps is right, whatever stands behind them. -/
theorem finN_rightR (f : Int) (hf : f = 64 ∨ f = 128) (mode : Int) (neg : Bool) (ds : List Int) (e : Int) (rest : Bool) (want : Int) (hc : Canon ds) (hz : ds ≠ [0]) (hl : ds.length ≤ 200) (hr : rest = true → (limP f).toNat < ds.length) :
    numB f (finN (limP f).toNat (limL f) (limH f) mode neg ds e rest want).1 neg (finN (limP f).toNat (limL f) (limH f) mode neg ds e rest want).2.1 (finN (limP f).toNat (limL f) (limH f) mode neg ds e rest want).2.2.1 = true := by
  have hp : 1 ≤ (limP f).toNat ∧ (limP f).toNat ≤ 34 ∧ limL f ≤ limH f := by rcases hf with rfl | rfl <;> decide
  have hv := vl_bd ds hc.1
  have hv0 := vl_pos ds hc hz
  have hj : finJ (limP f).toNat ds.length rest = 0 := by
    unfold finJ
    cases rest with
    | false => rfl
    | true => rw [if_pos rfl]; have := hr rfl; omega
  clear hr
  unfold finN
  simp only [hj, Nat.add_zero, Int.pow_zero, Int.mul_one]
  have hdr : finDr (limP f).toNat ds.length (limL f) (e - (0 : Nat)) = (max (max 0 ((ds.length : Int) - (limP f).toNat)) (limL f - e)).toNat := by unfold finDr; simp
  rw [hdr]
  generalize hd0 : (max (max 0 ((ds.length : Int) - (limP f).toNat)) (limL f - e)).toNat = dr
  have hep : limL f ≤ e + dr := by omega
  have hdn : (ds.length : Int) - (limP f).toNat ≤ dr := by omega
  have heL : (ds.length : Int) - (limP f).toNat < dr → 0 < dr → e + dr = limL f := by omega
  clear hd0 hdr hj
  generalize hP : (limP f).toNat = p at *
  generalize hq : finV mode neg (vl ds) dr rest = q
  generalize hls : finLs (vl ds) dr rest = lost
  -- what is rounded
  have hQ : 0 ≤ q ∧ q < 10 ^ (p + 1) ∧ (lost = false → q ≠ 0) ∧ (q = 0 → e + dr = limL f) := by
    have hp1 : (1 : Int) ≤ 10 ^ p := Int.add_one_le_of_lt (ten_pos p)
    have hpp : (10 : Int) ^ (p + 1) = 10 ^ p * 10 := Int.pow_succ ..
    by_cases h2 : 200 < dr
    · unfold finV at hq
      unfold finLs at hls
      rw [if_pos h2] at hq hls
      have hl2 : lost = true := by rw [← hls]; rfl
      have hone : (1 : Int) / 10 ^ 200 = 0 := by decide
      unfold rndV at hq
      rw [hone] at hq
      have h01 : q = 0 ∨ q = 1 := by rw [← hq]; split <;> simp
      refine ⟨by omega, by omega, fun h => (by rw [hl2] at h; cases h), fun _ => heL (by omega) (by omega)⟩
    · unfold finV at hq
      unfold finLs at hls
      rw [if_neg h2] at hq hls
      unfold rndV at hq
      have ht := ten_pos dr
      have hd1 : 0 ≤ vl ds / 10 ^ dr := Int.ediv_nonneg (by omega) (by omega)
      have hd2 : vl ds / 10 ^ dr < 10 ^ p := by
        refine Int.ediv_lt_of_lt_mul ht ?_
        rw [← Int.pow_add]
        exact Int.lt_of_lt_of_le hv.2 (pow_mono _ _ (by omega))
      have h01 : q = vl ds / 10 ^ dr ∨ q = vl ds / 10 ^ dr + 1 := by rw [← hq]; split <;> simp
      refine ⟨by omega, by omega, fun h hq0 => ?_, fun hq0 => ?_⟩
      · rw [← hls] at h
        have hm : vl ds % 10 ^ dr = 0 := by
          have h' : rest = false ∧ vl ds % 10 ^ dr = 0 := by simpa [rndL] using h
          exact h'.2
        have hz0 : vl ds / 10 ^ dr = 0 := by omega
        have := Int.emod_add_mul_ediv (vl ds) (10 ^ dr)
        rw [hm, hz0] at this
        simp at this
        omega
      · have hz0 : vl ds / 10 ^ dr = 0 := by omega
        have hlt : vl ds < 10 ^ dr := by
          have := Int.emod_add_mul_ediv (vl ds) (10 ^ dr)
          rw [hz0] at this
          have := Int.emod_lt_of_pos (vl ds) ht
          simp at *
          omega
        have hlo := canon_lo ds hc hz
        have : ¬ dr ≤ ds.length - 1 := fun h => by
          have := pow_mono dr (ds.length - 1) h
          omega
        have := hc.2.1
        exact heL (by omega) (by omega)
  obtain ⟨q0, q1, q2, q3⟩ := hQ
  have hq5 : q < 10 ^ 500 := Int.lt_of_lt_of_le q1 (pow_mono _ _ (by omega))
  obtain ⟨cq, vq⟩ := nt_spec q q0 hq5
  have lq : (nt q).length ≤ p + 1 := canon_le _ cq (p + 1) (by omega) (by rw [vq]; exact q1)
  have hH0 : q ≠ 0 → Hdg (nt q) := fun h => hdg_of _ cq (by rw [vq]; exact h)
  obtain ⟨t1, t2, t3⟩ := finT_right p hp.1 (nt q) cq lq
  have te : limL f ≤ finTE p (nt q) (e - (0 : Nat) + dr) := by unfold finTE; split <;> omega
  have tzh : q = 0 → finTE p (nt q) (e - (0 : Nat) + dr) ≤ limH f := fun h => by
    have hn0 : (nt q).length ≤ 1 := canon_le _ cq 1 (by omega) (by rw [vq, h]; decide)
    have := q3 h
    unfold finTE
    rw [if_neg (by omega)]
    omega
  generalize finT p (nt q) = D3 at *
  generalize finTE p (nt q) (e - (0 : Nat) + dr) = e3 at *
  obtain ⟨r1, r2, r3, r4⟩ := fin3_right lost D3 e3 want (limL f) (limH f) p t1 t2 te (fun h => t3 (hH0 (q2 h)))
  have hE : Hdg (fin3D lost D3 e3 want (limL f) (limH f) p) ∨ fin3E lost D3 e3 want (limL f) (limH f) p ≤ limH f := by
    cases lost with
    | false => exact .inl (r4 rfl)
    | true =>
      by_cases h : q = 0
      · exact .inr (tzh h)
      · exact .inl (t3 (hH0 h))
  have := fin5_right f hf mode neg _ _ (finF lost (ds.length + e) (limL f) p) r1 (by rw [hP]; exact r2) r3 hE
  rw [hP] at this
  exact this
theorem finD_rightR (f : Int) (hf : f = 64 ∨ f = 128) (mode : Int) (neg : Bool) (ds : List Int) (e : Int) (rest : Bool) (want : Int) (hc : Canon ds) (hl : ds.length ≤ 200) (hr : rest = true → (limP f).toNat < ds.length) :
    numB f (finD f mode neg ds e rest want).1 neg (finD f mode neg ds e rest want).2.1 (finD f mode neg ds e rest want).2.2.1 = true := by
  by_cases h : ds = [0]
  · have := finD_right f hf mode neg ds e want hc hl
    rw [h] at this ⊢
    rw [finD_0 f mode neg e e rest false want]
    exact this
  · rw [finD_ne _ _ _ _ _ _ _ h]
    exact finN_rightR f hf mode neg ds e rest want hc h hl hr
/-- A Result's number is right. -/
def Rgr (f : Int) (r : Bool × (Int × Int × ByteArray × Int)) : Prop := numB f r.2.1 r.1 r.2.2.1 r.2.2.2.1 = true
theorem sumY_right (f mode : Int) (n1 : Bool) (e1 : Int) (d1 : List Int) (n2 : Bool) (e2 : Int) (d2 : List Int) (M : Int) (hf : f = 64 ∨ f = 128) (c1 : Canon d1) (z1 : d1 ≠ [0]) (c2 : Canon d2) (z2 : d2 ≠ [0]) (l1 : d1.length ≤ 100) (hM1 : M ≤ e1) (hM2 : M ≤ e2) (hge : (d2.length : Int) + e2 ≤ d1.length + e1) : Rgr f (sumY f mode n1 e1 d1 n2 e2 d2 M) := by
  have hP : (limP f).toNat ≤ 34 := by rcases hf with rfl | rfl <;> decide
  have p181 : (10 : Int) ^ 181 = 10 ^ 180 * 10 := Int.pow_succ 10 180
  have p180 := ten_pos 180
  unfold sumY
  by_cases hfar : 180 < (d1.length : Int) + e1 - M
  · rw [if_pos hfar]
    have hb := (vl_bd d1 c1.1).2
    have v1 := vl_pos d1 c1 z1
    have p40 : (2 : Int) ≤ 10 ^ 40 := by decide
    have w1 : 1 * 10 ^ 40 ≤ vl d1 * 10 ^ 40 := Int.mul_le_mul_of_nonneg_right v1 (by omega)
    have w2 : vl d1 * 10 ^ 40 < 10 ^ d1.length * 10 ^ 40 := Int.mul_lt_mul_of_pos_right hb (by omega)
    rw [← Int.pow_add] at w2
    have w3 : (10 : Int) ^ (d1.length + 40) ≤ 10 ^ 180 := pow_mono _ _ (by omega)
    have w4 : (10 : Int) ^ 40 = 10 ^ 39 * 10 := Int.pow_succ 10 39
    have w5 := ten_pos 39
    obtain ⟨t, ht, ht2⟩ : ∃ t : Int, (vl d1 * 10 ^ 40 - if n1 = n2 then 0 else 1) = t ∧ (10 ^ 39 ≤ t ∧ t < 10 ^ 181) := ⟨_, rfl, by split <;> omega⟩
    rw [ht]
    obtain ⟨cN, vN, zN, lN⟩ := nt_ok t (by omega) ht2.2
    have hlen : 39 < (nt t).length := by
      have := (vl_bd (nt t) cN.1).2
      rw [vN] at this
      apply Nat.lt_of_not_le
      intro h
      have := pow_mono (nt t).length 39 h
      omega
    have hh := finD_rightR f hf mode n1 (nt t) (e1 - 40) true M cN lN (fun _ => by omega)
    unfold Rgr
    dsimp only
    exact hh
  · rw [if_neg hfar]
    obtain ⟨a1, b1⟩ := near_ok d1 e1 M c1 z1 hM1 (by omega)
    obtain ⟨a2, b2⟩ := near_ok d2 e2 M c2 z2 hM2 (by omega)
    generalize vl d1 * 10 ^ (e1 - M).toNat = X at *
    generalize vl d2 * 10 ^ (e2 - M).toNat = Y at *
    have fin : ∀ (g : Bool) (v : Int), 1 ≤ v → v < 10 ^ 181 → Rgr f (g, finD f mode g (nt v) M false M) := fun g v h0 h1 => by
      obtain ⟨cN, vN, zN, lN⟩ := nt_ok v h0 h1
      have hh := finD_right f hf mode g (nt v) M M cN lN
      generalize finD f mode g (nt v) M false M = R at *
      exact hh
    by_cases hn : n1 = n2
    · rw [if_pos hn]; exact fin n1 _ (by omega) (by omega)
    · rw [if_neg hn]
      by_cases hxy : X = Y
      · rw [if_pos hxy]
        have hh := finD_right f hf mode (decide (mode = 3)) [0] M M canon_zero (by decide)
        generalize finD f mode (decide (mode = 3)) [0] M false M = R at *
        exact hh
      · rw [if_neg hxy]
        by_cases hlt : Y < X
        · rw [if_pos hlt]; exact fin n1 _ (by omega) (by omega)
        · rw [if_neg hlt]; exact fin n2 _ (by omega) (by omega)
section
variable (f : Int) (mode : Int) (na : Bool) (ea : Int) (da : List Int) (nb : Bool) (eb : Int) (db : List Int)
theorem sumX_right (hf : f = 64 ∨ f = 128) (ca : Canon da) (cb : Canon db) (la : da.length ≤ 100) (lb : db.length ≤ 100) : Rgr f (sumX f mode na ea da nb eb db) := by
  unfold sumX
  by_cases h1 : da = [0] ∧ db = [0]
  · rw [if_pos h1]; exact finD_right f hf mode _ [0] (min ea eb) (min ea eb) canon_zero (by decide)
  · rw [if_neg h1]
    by_cases h2 : da = [0]
    · rw [if_pos h2]; exact finD_right f hf mode _ db _ _ cb (by omega)
    · rw [if_neg h2]
      by_cases h3 : db = [0]
      · rw [if_pos h3]; exact finD_right f hf mode _ da _ _ ca (by omega)
      · rw [if_neg h3]
        by_cases h4 : (da.length : Int) + ea < (db.length : Int) + eb
        · rw [if_pos h4]
          exact sumY_right f mode nb eb db na ea da (min ea eb) hf cb h3 ca h2 lb (Int.min_le_right _ _) (Int.min_le_left _ _) (Int.le_of_lt h4)
        · rw [if_neg h4]
          exact sumY_right f mode na ea da nb eb db (min ea eb) hf ca h2 cb h3 la (Int.min_le_left _ _) (Int.min_le_right _ _) (by omega)
theorem sumX_comm (la : da.length ≤ 34) (lb : db.length ≤ 34) : sumX f mode na ea da nb eb db = sumX f mode nb eb db na ea da := by
  have hm : min eb ea = min ea eb := Int.min_comm _ _
  unfold sumX
  rw [hm]
  by_cases h1 : da = [0] <;> by_cases h2 : db = [0]
  · rw [if_pos (show da = [0] ∧ db = [0] from ⟨h1, h2⟩), if_pos (show db = [0] ∧ da = [0] from ⟨h2, h1⟩)]
    have : (if na = nb then na else decide (mode = 3)) = if nb = na then nb else decide (mode = 3) := by
      by_cases h : na = nb
      · rw [if_pos h, if_pos h.symm, h]
      · rw [if_neg h, if_neg (fun q => h q.symm)]
    rw [this]
  · rw [if_neg (show ¬ (da = [0] ∧ db = [0]) from fun q => h2 q.2), if_pos h1, if_neg (show ¬ (db = [0] ∧ da = [0]) from fun q => h2 q.1), if_neg h2, if_pos h1]
  · rw [if_neg (show ¬ (da = [0] ∧ db = [0]) from fun q => h1 q.1), if_neg h1, if_pos h2, if_neg (show ¬ (db = [0] ∧ da = [0]) from fun q => h1 q.2), if_pos h2]
  · rw [if_neg (show ¬ (da = [0] ∧ db = [0]) from fun q => h1 q.1), if_neg h1, if_neg h2, if_neg (show ¬ (db = [0] ∧ da = [0]) from fun q => h1 q.2), if_neg h2, if_neg h1]
    by_cases c1 : (da.length : Int) + ea < (db.length : Int) + eb
    · rw [if_pos c1, if_neg (show ¬ (db.length : Int) + eb < (da.length : Int) + ea by omega)]
    · rw [if_neg c1]
      by_cases c2 : (db.length : Int) + eb < (da.length : Int) + ea
      · rw [if_pos c2]
      · rw [if_neg c2]
        exact sumY_turn f mode na ea da nb eb db (min ea eb) (by omega) (by omega)
end
/-- What two right numbers that are no NaN are. -/
theorem addR_cases (f mode : Int) (ka : Int) (na : Bool) (ea : Int) (sa : ByteArray) (kb : Int) (nb : Bool) (eb : Int) (sb : ByteArray) (hO : addO f mode ka na ea sa kb nb eb sb = true) (hS : spB 2 (tw2 ka kb) = false) :
    (f = 64 ∨ f = 128) ∧ (ka = 1 ∨ ka = 2) ∧ (kb = 1 ∨ kb = 2) ∧ (ka = 1 → Canon (dl sa) ∧ (dl sa).length ≤ 34) ∧ (kb = 1 → Canon (dl sb) ∧ (dl sb).length ≤ 34) := by
  unfold addO at hO
  simp only [Bool.and_eq_true, decide_eq_true_eq] at hO
  obtain ⟨hmo, hA, hBn⟩ := hO
  have hnan := of_decide_eq_false hS
  have n0 : ka ≠ 3 ∧ ka ≠ 4 := ⟨fun h => hnan ⟨0, by decide, .inl h⟩, fun h => hnan ⟨0, by decide, .inr h⟩⟩
  have n1 : kb ≠ 3 ∧ kb ≠ 4 := ⟨fun h => hnan ⟨1, by decide, .inl h⟩, fun h => hnan ⟨1, by decide, .inr h⟩⟩
  obtain ⟨hf, ea1, ka1, ca⟩ := right_two f ka na ea sa hA n0.1 n0.2
  obtain ⟨-, eb1, kb1, cb⟩ := right_two f kb nb eb sb hBn n1.1 n1.2
  have hL := lims f hf
  exact ⟨hf, ka1, kb1, fun h => ⟨(ca h).1, by have := (ca h).2.1; omega⟩, fun h => ⟨(cb h).1, by have := (cb h).2.1; omega⟩⟩
/-- What Add tells of right numbers is right. -/
theorem addR_right (f mode : Int) (ka : Int) (na : Bool) (ea : Int) (sa : ByteArray) (kb : Int) (nb : Bool) (eb : Int) (sb : ByteArray) (hO : addO f mode ka na ea sa kb nb eb sb = true) : Rgr f (addR f mode ka na ea sa kb nb eb sb) := by
  have hp0 : limP f ≠ 0 := fun h => by
    unfold addO at hO
    simp only [Bool.and_eq_true] at hO
    have hA := hO.2.1
    unfold numB at hA; rw [if_pos h] at hA; cases hA
  have hN : ∀ fl : Int, Rgr f (false, (3, 0, { data := #[] }, fl)) := fun fl => by
    show numB f 3 false 0 { data := #[] } = true
    unfold numB
    rw [if_neg hp0, if_neg (by decide), if_neg (by decide), if_pos (.inl rfl), ByteArray.toList_eq]
    rfl
  have hI : ∀ b : Bool, Rgr f (b, (2, 0, { data := #[] }, 0)) := fun b => by
    show numB f 2 b 0 { data := #[] } = true
    unfold numB
    rw [if_neg hp0, if_neg (by decide), if_pos rfl, ByteArray.toList_eq]
    rfl
  unfold addR
  rw [hO, if_pos rfl]
  cases hS : spB 2 (tw2 ka kb) with
  | true => rw [if_pos rfl]; exact hN _
  | false =>
    rw [if_neg (by decide)]
    obtain ⟨hf, k1, k2, c1, c2⟩ := addR_cases f mode ka na ea sa kb nb eb sb hO hS
    unfold addX
    by_cases h1 : ka = 2 ∧ kb = 2 ∧ na ≠ nb
    · rw [if_pos h1]; exact hN _
    · rw [if_neg h1]
      by_cases h2 : ka = 2
      · rw [if_pos h2]; exact hI _
      · rw [if_neg h2]
        by_cases h3 : kb = 2
        · rw [if_pos h3]; exact hI _
        · rw [if_neg h3]
          obtain ⟨q1, l1⟩ := c1 (by omega)
          obtain ⟨q2, l2⟩ := c2 (by omega)
          exact sumX_right f mode na ea (dl sa) nb eb (dl sb) hf q1 q2 (by omega) (by omega)
/-- Sums go both ways. -/
theorem addR_comm (f mode : Int) (ka : Int) (na : Bool) (ea : Int) (sa : ByteArray) (kb : Int) (nb : Bool) (eb : Int) (sb : ByteArray) : addR f mode ka na ea sa kb nb eb sb = addR f mode kb nb eb sb ka na ea sa := by
  unfold addR
  rw [addO_comm f mode kb nb eb sb, spB_comm kb ka, spF_comm kb ka]
  cases hO : addO f mode ka na ea sa kb nb eb sb with
  | false => rfl
  | true =>
    rw [if_pos rfl, if_pos rfl]
    cases hS : spB 2 (tw2 ka kb) with
    | true => rfl
    | false =>
      rw [if_neg (by decide), if_neg (by decide)]
      obtain ⟨hf, k1, k2, c1, c2⟩ := addR_cases f mode ka na ea sa kb nb eb sb hO hS
      unfold addX
      rcases k1 with rfl | rfl <;> rcases k2 with rfl | rfl
      · rw [if_neg (fun h => absurd h.1 (by decide)), if_neg (by decide), if_neg (by decide), if_neg (fun h => absurd h.1 (by decide)), if_neg (by decide), if_neg (by decide)]
        exact sumX_comm f mode na ea (dl sa) nb eb (dl sb) (c1 rfl).2 (c2 rfl).2
      · rw [if_neg (fun h => absurd h.1 (by decide)), if_neg (by decide), if_pos rfl, if_neg (fun h => absurd h.2.1 (by decide)), if_pos rfl]
      · rw [if_neg (fun h => absurd h.2.1 (by decide)), if_pos rfl, if_neg (fun h => absurd h.1 (by decide)), if_neg (by decide), if_pos rfl]
      · by_cases h : na = nb
        · rw [if_neg (fun q => q.2.2 h), if_pos rfl, if_neg (fun q => q.2.2 h.symm), if_pos rfl, h]
        · rw [if_pos ⟨rfl, rfl, h⟩, if_pos ⟨rfl, rfl, fun q => h q.symm⟩]
/-- Less what is turned: the sum. -/
theorem tuB_tuB (k : Int) (b : Bool) : tuB k (tuB k b) = b := by
  unfold tuB
  by_cases h : k = 1 ∨ k = 2
  · rw [if_pos h, if_pos h, Bool.not_not]
  · rw [if_neg h, if_neg h]
theorem subR_turned (f mode : Int) (ka : Int) (na : Bool) (ea : Int) (sa : ByteArray) (kb : Int) (nb : Bool) (eb : Int) (sb : ByteArray) : subR f mode ka na ea sa kb (tuB kb nb) eb sb = addR f mode ka na ea sa kb nb eb sb := by
  unfold subR
  rw [tuB_tuB]
/-- A number less itself. -/
theorem sub_self (f mode : Int) (hmo : 1 ≤ mode ∧ mode ≤ 5) (na : Bool) (ea : Int) (sa : ByteArray) (hA : numB f 1 na ea sa = true) : subR f mode 1 na ea sa 1 na ea sa = (decide (mode = 3), (1, ea, { data := #[48] }, 0)) := by
  obtain ⟨hf, ea1, -, ca⟩ := right_two f 1 na ea sa hA (by decide) (by decide)
  obtain ⟨q1, l1, x1, y1⟩ := ca rfl
  have hL := lims f hf
  have hu : tuB 1 na = !na := if_pos (.inl rfl)
  have hB' : numB f 1 (!na) ea sa = true := by rw [← hu, numB_tu]; exact hA
  have hne : na ≠ !na := by cases na <;> decide
  have hfz : ∀ g : Bool, finD f mode g [0] ea false ea = (1, ea, { data := #[48] }, 0) := fun g => by
    unfold finD
    rw [if_pos rfl, show min (limH f) (max (limL f) ea) = ea by omega]
  unfold subR
  rw [hu, addR_fin f mode hmo na ea sa (!na) ea sa hA hB']
  unfold sumX
  rw [show min ea ea = ea from Int.min_self ea]
  by_cases hz : dl sa = [0]
  · rw [if_pos ⟨hz, hz⟩, if_neg hne, hfz]
  · rw [if_neg (fun q => hz q.1), if_neg hz, if_neg hz, if_neg (Int.lt_irrefl _)]
    unfold sumY
    rw [if_neg (by omega), if_neg hne, if_pos rfl, hfz]
/-- A number and nought: no flag, and as much as before. -/
theorem add_nought (f mode : Int) (hmo : 1 ≤ mode ∧ mode ≤ 5) (na : Bool) (ea : Int) (sa : ByteArray) (hA : numB f 1 na ea sa = true) : ∃ g E S, addR f mode 1 na ea sa 1 false 0 { data := #[48] } = (g, (1, E, S, 0)) ∧ cpR f 1 g E S 1 na ea sa = 0 := by
  obtain ⟨hf, ea1, -, ca⟩ := right_two f 1 na ea sa hA (by decide) (by decide)
  obtain ⟨q1, l1, x1, y1⟩ := ca rfl
  have hL := lims f hf
  have hP : limP f = ((limP f).toNat : Int) := by rcases hf with rfl | rfl <;> decide
  have hp : limP f ≠ 0 ∧ 1 ≤ limP f ∧ limL f ≤ 0 ∧ 0 ≤ limH f := by rcases hf with rfl | rfl <;> decide
  have et : tx [0] = { data := #[48] } := by apply ByteArray.ext; rw [tx_data]; rfl
  have hB : numB f 1 false 0 (tx [0]) = true := by
    have := natB_tx (limP f) [0] canon_zero (by simp; omega)
    unfold numB
    rw [if_neg hp.1, if_pos rfl, this]
    simp [hp.2.2.1, hp.2.2.2]
  have ed : dl (tx [0]) = [0] := dl_tx [0] canon_zero.1
  rw [← et, addR_fin f mode hmo na ea sa false 0 (tx [0]) hA hB, ed]
  have hv := sumS_0r na ea (dl sa) false 0 (min ea 0) (Int.min_le_left _ _)
  by_cases hz : dl sa = [0]
  · rw [show sgv na (vl (dl sa)) = 0 by rw [hz]; exact sgv_0 na] at hv
    obtain ⟨g, E, hs⟩ := sumX_none f mode na ea (dl sa) false 0 [0] q1 canon_zero (by omega) (by decide) (sv_zero_of hv.symm)
    have hs2 := sumX_right0 f mode na ea (dl sa) false 0 [0] hf q1 canon_zero (by omega) (by decide) _ _ _ _ hs
    refine ⟨g, E, _, hs, ?_⟩
    unfold cpR
    rw [hs2, hA, Bool.and_self, if_pos rfl, if_neg (by decide), nou_zero, ea1, hz, nou_zero, Bool.and_self, if_pos rfl]
  · obtain ⟨D', E, hs, cD, hD⟩ := sumX_exact f mode na ea (dl sa) false 0 [0] hf q1 canon_zero (by omega) (by decide) na ea (dl sa) q1 hz (by omega) x1 y1 hv.symm
    have hs2 := sumX_right0 f mode na ea (dl sa) false 0 [0] hf q1 canon_zero (by omega) (by decide) _ _ _ _ hs
    refine ⟨na, E, _, hs, ?_⟩
    have zD : D' ≠ [0] := fun h => by
      rw [h, show vl [0] = 0 from rfl] at hD
      have := sv_zero_of hD.symm
      have := vl_pos _ q1 hz
      omega
    rw [ea1] at hA ⊢
    exact alike_fin f na E D' ea (dl sa) hs2 hA cD q1 zD hz hD
end Go.Proofs.YtnkoeidolmiheaaGreatDoor
