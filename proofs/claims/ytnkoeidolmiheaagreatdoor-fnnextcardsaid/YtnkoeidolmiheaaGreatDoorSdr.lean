/-
  Plain facts: sums rounded upward are at least, rounded downward at most the exact sum.
-/
import Derived.Test.YtnkoeidolmiheaaGreatDoorExh
namespace Go.Proofs.YtnkoeidolmiheaaGreatDoor
set_option linter.unusedVariables false
set_option maxRecDepth 100000
/-- At most as much: two numbers with their exponents. -/
def LV (v e v' e' : Int) : Prop := v * 10 ^ (e - min e e').toNat ≤ v' * 10 ^ (e' - min e e').toNat
theorem lv_at {v e v' e' : Int} (M : Int) (h1 : M ≤ e) (h2 : M ≤ e') : LV v e v' e' ↔ v * 10 ^ (e - M).toNat ≤ v' * 10 ^ (e' - M).toNat := by
  unfold LV
  have a1 : (e - M).toNat = (e - min e e').toNat + (min e e' - M).toNat := by omega
  have a2 : (e' - M).toNat = (e' - min e e').toNat + (min e e' - M).toNat := by omega
  rw [a1, a2, Int.pow_add, Int.pow_add, ← Int.mul_assoc, ← Int.mul_assoc]
  have hp := ten_pos (min e e' - M).toNat
  generalize v * 10 ^ (e - min e e').toNat = X
  generalize v' * 10 ^ (e' - min e e').toNat = Y
  constructor
  · exact fun h => Int.mul_le_mul_of_nonneg_right h (Int.le_of_lt hp)
  · exact fun h => Int.le_of_mul_le_mul_right h hp
theorem SV.lv {v e v' e' : Int} (h : SV v e v' e') : LV v e v' e' := by
  unfold LV
  rw [sv_at h (min e e') (Int.min_le_left _ _) (Int.min_le_right _ _)]
  exact Int.le_refl _
theorem LV.trans {v e v' e' v'' e'' : Int} (h : LV v e v' e') (g : LV v' e' v'' e'') : LV v e v'' e'' := by
  have m1 : min e (min e' e'') ≤ e := by omega
  have m2 : min e (min e' e'') ≤ e' := by omega
  have m3 : min e (min e' e'') ≤ e'' := by omega
  rw [lv_at _ m1 m2] at h
  rw [lv_at _ m2 m3] at g
  rw [lv_at _ m1 m3]
  exact Int.le_trans h g
theorem lv_same {v v' e : Int} (h : v ≤ v') : LV v e v' e := by
  rw [lv_at e (Int.le_refl _) (Int.le_refl _)]
  simp [h]
theorem LV.neg {v e v' e' : Int} (h : LV v e v' e') : LV (-v') e' (-v) e := by
  rw [lv_at (min e e') (Int.min_le_right _ _) (Int.min_le_left _ _), Int.neg_mul, Int.neg_mul]
  unfold LV at h
  exact Int.neg_le_neg h
/-- Does the mode never round away from nought, does it never round towards it? -/
def upM (mode : Int) (neg : Bool) : Bool := (decide (mode = 4) && !neg) || (decide (mode = 3) && neg)
theorem rnd_down (mode : Int) (neg : Bool) (v : Int) (k : Nat) (rest : Bool) (h : finG mode neg = true) : rndV mode neg v k rest * 10 ^ k ≤ v := by
  have hU : rndU mode neg v k rest = false := by
    unfold finG at h
    unfold rndU upB upO
    by_cases m2 : mode = 2
    · subst m2; rfl
    · by_cases m3 : mode = 3
      · subst m3
        cases neg
        · simp
        · simp at h
      · by_cases m4 : mode = 4
        · subst m4
          cases neg
          · simp at h
          · simp
        · simp [m2, m3, m4] at h
  unfold rndV
  rw [hU]
  simp only [Bool.false_eq_true, if_false, Int.add_zero]
  exact Int.ediv_mul_le _ (Int.ne_of_gt (ten_pos k))
/-- One where something stands behind. -/
def rb (rest : Bool) : Int := if rest then 1 else 0
theorem rnd_up (mode : Int) (neg : Bool) (v : Int) (k : Nat) (rest : Bool) (h : upM mode neg = true) : v + rb rest ≤ rndV mode neg v k rest * 10 ^ k := by
  have hU : rndU mode neg v k rest = rndL v k rest := by
    unfold upM at h
    unfold rndU upB upO
    by_cases m4 : mode = 4
    · subst m4
      cases neg
      · simp
      · simp at h
    · by_cases m3 : mode = 3
      · subst m3
        cases neg
        · simp at h
        · simp
      · simp [m3, m4] at h
  unfold rndV
  rw [hU]
  have hp := ten_pos k
  have hd := Int.mul_ediv_add_emod v (10 ^ k)
  have hm := Int.emod_lt_of_pos v hp
  have hm0 := Int.emod_nonneg v (Int.ne_of_gt hp)
  unfold rndL
  rw [Int.mul_comm] at hd
  unfold rb
  cases rest with
  | true =>
    simp only [Bool.true_or, if_true]
    rw [Int.add_mul, Int.one_mul]
    omega
  | false =>
    simp only [Bool.false_or, decide_eq_true_eq, Bool.false_eq_true, if_false, Int.add_zero]
    by_cases c : v % 10 ^ k = 0
    · rw [if_neg (fun q => q c), Int.add_zero]
      omega
    · rw [if_pos c, Int.add_mul, Int.one_mul]
      omega
theorem finT_value (p : Nat) (q : Int) (e : Int) (h0 : 0 ≤ q) (h1 : q ≤ 10 ^ p) (hp1 : 1 ≤ p) (hp : p ≤ 34) : SV (vl (finT p (nt q))) (finTE p (nt q) e) q e := by
  have h5 : q < 10 ^ 500 := Int.lt_of_le_of_lt h1 (Int.lt_of_lt_of_le (show (10 : Int) ^ p < 10 ^ (p + 1) by rw [Int.pow_succ]; have := ten_pos p; omega) (pow_mono _ _ (by omega)))
  obtain ⟨cq, vq⟩ := nt_spec q h0 h5
  unfold finT finTE
  by_cases h : p < (nt q).length
  · rw [if_pos h, if_pos h]
    have hz : nt q ≠ [0] := fun hz => by rw [hz] at h; simp at h; omega
    have lo := canon_lo (nt q) cq hz
    rw [vq] at lo
    have lo2 := Int.le_trans (pow_mono p ((nt q).length - 1) (by omega)) lo
    have lq : (nt q).length ≤ p + 1 := canon_le _ cq (p + 1) (by omega) (by rw [vq, Int.pow_succ]; have := ten_pos p; omega)
    have hd : (nt q).take p ++ (nt q).drop p = nt q := List.take_append_drop _ _
    have hl : ((nt q).drop p).length = 1 := by simp; omega
    have hv := vl_append ((nt q).take p) ((nt q).drop p)
    rw [hd, hl, vq] at hv
    have hb := vl_bd ((nt q).drop p) (fun d hd => cq.1 d (List.mem_of_mem_drop hd))
    rw [hl] at hb
    generalize vl ((nt q).drop p) = b at *
    generalize vl ((nt q).take p) = a at *
    have e1 : (10 : Int) ^ 1 = 10 := by decide
    rw [e1] at hv hb
    have e2 : (10 : Int) ^ p = 10 ^ (p - 1) * 10 := by rw [← Int.pow_succ, Nat.succ_eq_add_one, show p - 1 + 1 = p by omega]
    generalize (10 : Int) ^ (p - 1) = T at *
    generalize (10 : Int) ^ p = T2 at *
    have : q = a * 10 := by omega
    rw [this]
    have s := sv_shift a e 1
    rw [e1] at s
    exact s.symm
  · rw [if_neg h, if_neg h, vq]
    exact SV.refl _ _
theorem fin3_valueL (lost : Bool) (D : List Int) (e want low high : Int) (p : Nat) (hp : 0 < D.length) : SV (vl (fin3D lost D e want low high p)) (fin3E lost D e want low high p) (vl D) e := by
  cases lost with
  | false => exact fin3_value D e want low high p hp
  | true =>
    unfold fin3D fin3E
    rw [if_pos rfl, if_pos rfl]
    exact SV.refl _ _
theorem fin4_value (D : List Int) (e high : Int) (p : Nat) : SV (vl (fin4D D e high p)) (fin4E D e high p) (vl D) e := by
  unfold fin4D fin4E
  rw [vl_noughts]
  have s1 := sv_shift (vl D) (e - (fC D.length p e high : Int)) (fC D.length p e high)
  rw [show e - (fC D.length p e high : Int) + (fC D.length p e high : Int) = e by omega] at s1
  exact s1
theorem vl_nines (p : Nat) : vl (List.replicate p 9) < 10 ^ p := by
  have := (vl_bd (List.replicate p (9 : Int)) (fun d hd => by have := (List.mem_replicate.1 hd).2; omega)).2
  rwa [List.length_replicate] at this
/-- The end, where nothing is rounded away from nought: at most as much. -/
theorem fin5_down (p : Nat) (hp : 1 ≤ p) (high mode : Int) (neg : Bool) (D : List Int) (e fl : Int) (hD : Canon D) (hH : Hdg D ∨ e ≤ high) (hG : finG mode neg = true) (k E : Int) (S : ByteArray) (F : Int) (h : fin5 p high mode neg D e fl = (k, E, S, F)) :
    k = 1 ∧ ∃ R, S = tx R ∧ Dec R ∧ LV (vl R) E (vl D) e := by
  unfold fin5 at h
  by_cases h1 : fin4E D e high p ≤ high
  · rw [if_pos h1] at h
    obtain ⟨rfl, rfl, rfl, -⟩ : 1 = k ∧ fin4E D e high p = E ∧ tx (fin4D D e high p) = S ∧ fl = F := by simpa only [Prod.mk.injEq] using h
    refine ⟨rfl, _, rfl, ?_, (fin4_value D e high p).lv⟩
    unfold fin4D
    intro d hd
    rcases List.mem_append.1 hd with q | q
    · exact hD.1 d q
    · have := (List.mem_replicate.1 q).2; omega
  · rw [if_neg h1, if_pos hG] at h
    obtain ⟨rfl, rfl, rfl, -⟩ : 1 = k ∧ high = E ∧ tx (List.replicate p 9) = S ∧ 20 = F := by simpa only [Prod.mk.injEq] using h
    refine ⟨rfl, _, rfl, fun d hd => by have := (List.mem_replicate.1 hd).2; omega, ?_⟩
    have hHd : Hdg D := hH.resolve_right (fun q => h1 (by unfold fin4E; omega))
    have hst := fC_stop D.length p e high
    unfold fin4E at h1
    have hn : p ≤ D.length + fC D.length p e high := by omega
    have hlo : 10 ^ (D.length - 1) ≤ vl D := canon_lo D hHd.canon (fun q => hHd.2.2 (by rw [q]; rfl))
    have hl := hHd.2.1
    rw [lv_at high (Int.le_refl _) (by omega)]
    rw [show (high - high).toNat = 0 by omega, Int.pow_zero, Int.mul_one]
    have h9 := vl_nines p
    have : 10 ^ p ≤ vl D * 10 ^ (e - high).toNat := by
      have q1 : 10 ^ (D.length - 1) * 10 ^ (e - high).toNat ≤ vl D * 10 ^ (e - high).toNat := Int.mul_le_mul_of_nonneg_right hlo (Int.le_of_lt (ten_pos _))
      rw [← Int.pow_add] at q1
      exact Int.le_trans (pow_mono _ _ (by omega)) q1
    omega
/-- The end, where nothing is rounded towards nought: at least as much, or an infinity. -/
theorem fin5_up (p : Nat) (high mode : Int) (neg : Bool) (D : List Int) (e fl : Int) (hD : Dec D) (hG : finG mode neg = false) (k E : Int) (S : ByteArray) (F : Int) (h : fin5 p high mode neg D e fl = (k, E, S, F)) :
    k = 2 ∨ (k = 1 ∧ ∃ R, S = tx R ∧ Dec R ∧ LV (vl D) e (vl R) E) := by
  unfold fin5 at h
  by_cases h1 : fin4E D e high p ≤ high
  · rw [if_pos h1] at h
    obtain ⟨rfl, rfl, rfl, -⟩ : 1 = k ∧ fin4E D e high p = E ∧ tx (fin4D D e high p) = S ∧ fl = F := by simpa only [Prod.mk.injEq] using h
    refine .inr ⟨rfl, _, rfl, ?_, (fin4_value D e high p).symm.lv⟩
    unfold fin4D
    intro d hd
    rcases List.mem_append.1 hd with q | q
    · exact hD d q
    · have := (List.mem_replicate.1 q).2; omega
  · rw [if_neg h1, hG, if_neg (by decide)] at h
    exact .inl (congrArg (fun t : Int × Int × ByteArray × Int => t.1) h).symm
theorem up_G (mode : Int) (neg : Bool) (h : upM mode neg = true) : finG mode neg = false := by
  unfold upM at h
  unfold finG
  by_cases m4 : mode = 4
  · subst m4
    cases neg
    · rfl
    · simp at h
  · by_cases m3 : mode = 3
    · subst m3
      cases neg
      · simp at h
      · rfl
    · simp [m3, m4] at h
/-- The heart of both: what stands ahead of the end, and the number that was rounded. -/
theorem finN_core (f : Int) (hf : f = 64 ∨ f = 128) (mode : Int) (neg : Bool) (ds : List Int) (e : Int) (rest : Bool) (want : Int) (hc : Canon ds) (hz : ds ≠ [0]) (hl : ds.length ≤ 200) (hr : rest = true → (limP f).toNat < ds.length) :
    ∃ (D : List Int) (e3 fl q : Int) (dr : Nat), finN (limP f).toNat (limL f) (limH f) mode neg ds e rest want = fin5 (limP f).toNat (limH f) mode neg D e3 fl ∧ Canon D ∧ (Hdg D ∨ e3 ≤ limH f) ∧ SV (vl D) e3 q (e + dr)
      ∧ (finG mode neg = true → q * 10 ^ dr ≤ vl ds) ∧ (upM mode neg = true → vl ds + rb rest ≤ q * 10 ^ dr) := by
  have hp : 1 ≤ (limP f).toNat ∧ (limP f).toNat ≤ 34 ∧ limL f ≤ limH f := by rcases hf with rfl | rfl <;> decide
  have hv := vl_bd ds hc.1
  have hv0 := vl_pos ds hc hz
  have hj : finJ (limP f).toNat ds.length rest = 0 := by
    unfold finJ
    cases rest with
    | false => rfl
    | true => rw [if_pos rfl]; have := hr rfl; omega
  clear hr
  unfold finN
  simp only [hj, Nat.add_zero, Int.pow_zero, Int.mul_one]
  have hdr : finDr (limP f).toNat ds.length (limL f) (e - (0 : Nat)) = (max (max 0 ((ds.length : Int) - (limP f).toNat)) (limL f - e)).toNat := by unfold finDr; simp
  rw [hdr]
  generalize hd0 : (max (max 0 ((ds.length : Int) - (limP f).toNat)) (limL f - e)).toNat = dr
  have hep : limL f ≤ e + dr := by omega
  have hdn : (ds.length : Int) - (limP f).toNat ≤ dr := by omega
  have heL : (ds.length : Int) - (limP f).toNat < dr → 0 < dr → e + dr = limL f := by omega
  clear hd0 hdr hj
  generalize hP : (limP f).toNat = p at *
  generalize hq : finV mode neg (vl ds) dr rest = q
  generalize hls : finLs (vl ds) dr rest = lost
  have hp1 : (1 : Int) ≤ 10 ^ p := Int.add_one_le_of_lt (ten_pos p)
  have hpp : (10 : Int) ^ (p + 1) = 10 ^ p * 10 := Int.pow_succ ..
  have ht := ten_pos dr
  -- what is rounded
  have hQ : 0 ≤ q ∧ q ≤ 10 ^ p ∧ (lost = false → q ≠ 0) ∧ (q = 0 → e + dr = limL f) ∧ (finG mode neg = true → q * 10 ^ dr ≤ vl ds) ∧ (upM mode neg = true → vl ds + rb rest ≤ q * 10 ^ dr) := by
    by_cases h2 : 200 < dr
    · unfold finV at hq
      unfold finLs at hls
      rw [if_pos h2] at hq hls
      have hl2 : lost = true := by rw [← hls]; rfl
      have hone : (1 : Int) / 10 ^ 200 = 0 := by decide
      have hdn := rnd_down mode neg 1 200 true
      have hup := rnd_up mode neg 1 200 true
      rw [hq] at hdn hup
      unfold rndV at hq
      rw [hone] at hq
      have h01 : q = 0 ∨ q = 1 := by rw [← hq]; split <;> simp
      have p200 : (2 : Int) ≤ 10 ^ 200 := by decide
      have hsm : vl ds + rb rest ≤ 10 ^ dr := by
        have := Int.lt_of_lt_of_le hv.2 (pow_mono ds.length dr (by omega))
        unfold rb
        split <;> omega
      refine ⟨by omega, by omega, fun h => (by rw [hl2] at h; cases h), fun _ => heL (by omega) (by omega), fun hG => ?_, fun hU => ?_⟩
      · have := hdn hG
        have : q = 0 := by rcases h01 with h | h <;> subst h <;> omega
        rw [this, Int.zero_mul]; omega
      · have := hup hU
        rw [show rb true = 1 from rfl] at this
        have : q = 1 := by rcases h01 with h | h <;> subst h <;> omega
        rw [this, Int.one_mul]; exact hsm
    · unfold finV at hq
      unfold finLs at hls
      rw [if_neg h2] at hq hls
      have hdw := rnd_down mode neg (vl ds) dr rest
      have hup := rnd_up mode neg (vl ds) dr rest
      rw [hq] at hdw hup
      unfold rndV at hq
      have hd1 : 0 ≤ vl ds / 10 ^ dr := Int.ediv_nonneg (by omega) (by omega)
      have hd2 : vl ds / 10 ^ dr < 10 ^ p := by
        refine Int.ediv_lt_of_lt_mul ht ?_
        rw [← Int.pow_add]
        exact Int.lt_of_lt_of_le hv.2 (pow_mono _ _ (by omega))
      have h01 : q = vl ds / 10 ^ dr ∨ q = vl ds / 10 ^ dr + 1 := by rw [← hq]; split <;> simp
      refine ⟨by omega, by omega, fun h hq0 => ?_, fun hq0 => ?_, hdw, hup⟩
      · rw [← hls] at h
        have hm : vl ds % 10 ^ dr = 0 := by
          have h' : rest = false ∧ vl ds % 10 ^ dr = 0 := by simpa [rndL] using h
          exact h'.2
        have hz0 : vl ds / 10 ^ dr = 0 := by omega
        have := Int.emod_add_mul_ediv (vl ds) (10 ^ dr)
        rw [hm, hz0] at this
        simp at this
        omega
      · have hz0 : vl ds / 10 ^ dr = 0 := by omega
        have hlt : vl ds < 10 ^ dr := by
          have := Int.emod_add_mul_ediv (vl ds) (10 ^ dr)
          rw [hz0] at this
          have := Int.emod_lt_of_pos (vl ds) ht
          simp at *
          omega
        have hlo := canon_lo ds hc hz
        have : ¬ dr ≤ ds.length - 1 := fun h => by
          have := pow_mono dr (ds.length - 1) h
          omega
        have := hc.2.1
        exact heL (by omega) (by omega)
  obtain ⟨q0, q1, q2, q3, q4, q5⟩ := hQ
  have hq5 : q < 10 ^ 500 := Int.lt_of_le_of_lt q1 (Int.lt_of_lt_of_le (show (10 : Int) ^ p < 10 ^ (p + 1) by omega) (pow_mono _ _ (by omega)))
  obtain ⟨cq, vq⟩ := nt_spec q q0 hq5
  have lq : (nt q).length ≤ p + 1 := canon_le _ cq (p + 1) (by omega) (by rw [vq]; omega)
  have hH0 : q ≠ 0 → Hdg (nt q) := fun h => hdg_of _ cq (by rw [vq]; exact h)
  obtain ⟨t1, t2, t3⟩ := finT_right p hp.1 (nt q) cq lq
  have te : limL f ≤ finTE p (nt q) (e - (0 : Nat) + dr) := by unfold finTE; split <;> omega
  have tzh : q = 0 → finTE p (nt q) (e - (0 : Nat) + dr) ≤ limH f := fun h => by
    have hn0 : (nt q).length ≤ 1 := canon_le _ cq 1 (by omega) (by rw [vq, h]; decide)
    have := q3 h
    unfold finTE
    rw [if_neg (by omega)]
    omega
  have svT := finT_value p q (e - (0 : Nat) + dr) q0 q1 hp.1 hp.2.1
  rw [show e - ((0 : Nat) : Int) + (dr : Int) = e + dr by omega] at svT te tzh ⊢
  generalize finT p (nt q) = D3 at *
  generalize finTE p (nt q) (e + dr) = e3 at *
  obtain ⟨r1, r2, r3, r4⟩ := fin3_right lost D3 e3 want (limL f) (limH f) p t1 t2 te (fun h => t3 (hH0 (q2 h)))
  have hE : Hdg (fin3D lost D3 e3 want (limL f) (limH f) p) ∨ fin3E lost D3 e3 want (limL f) (limH f) p ≤ limH f := by
    cases lost with
    | false => exact .inl (r4 rfl)
    | true =>
      by_cases h : q = 0
      · exact .inr (tzh h)
      · exact .inl (t3 (hH0 h))
  exact ⟨_, _, _, q, dr, rfl, r1, hE, (fin3_valueL lost D3 e3 want (limL f) (limH f) p t1.2.1).trans svT, q4, q5⟩
/-- Rounded towards nought: finite, and at most as much. -/
theorem finN_down (f : Int) (hf : f = 64 ∨ f = 128) (mode : Int) (neg : Bool) (ds : List Int) (e : Int) (rest : Bool) (want : Int) (hc : Canon ds) (hz : ds ≠ [0]) (hl : ds.length ≤ 200) (hr : rest = true → (limP f).toNat < ds.length) (hG : finG mode neg = true)
    (k E : Int) (S : ByteArray) (F : Int) (h : finN (limP f).toNat (limL f) (limH f) mode neg ds e rest want = (k, E, S, F)) : k = 1 ∧ ∃ R, S = tx R ∧ Dec R ∧ LV (vl R) E (vl ds) e := by
  obtain ⟨D, e3, fl, q, dr, he, cD, hH, sv, q4, -⟩ := finN_core f hf mode neg ds e rest want hc hz hl hr
  rw [he] at h
  have hp : 1 ≤ (limP f).toNat := by rcases hf with rfl | rfl <;> decide
  obtain ⟨hk, R, hS, dR, hv⟩ := fin5_down _ hp _ _ _ D e3 fl cD hH hG k E S F h
  refine ⟨hk, R, hS, dR, hv.trans (sv.lv.trans ?_)⟩
  rw [lv_at e (by omega) (Int.le_refl _), show (e + (dr : Int) - e).toNat = dr by omega, show (e - e).toNat = 0 by omega, Int.pow_zero, Int.mul_one]
  exact q4 hG
/-- Rounded away from nought: infinite, or at least as much. -/
theorem finN_up (f : Int) (hf : f = 64 ∨ f = 128) (mode : Int) (neg : Bool) (ds : List Int) (e : Int) (rest : Bool) (want : Int) (hc : Canon ds) (hz : ds ≠ [0]) (hl : ds.length ≤ 200) (hr : rest = true → (limP f).toNat < ds.length) (hU : upM mode neg = true)
    (k E : Int) (S : ByteArray) (F : Int) (h : finN (limP f).toNat (limL f) (limH f) mode neg ds e rest want = (k, E, S, F)) : k = 2 ∨ (k = 1 ∧ ∃ R, S = tx R ∧ Dec R ∧ LV (vl ds + rb rest) e (vl R) E) := by
  obtain ⟨D, e3, fl, q, dr, he, cD, hH, sv, -, q5⟩ := finN_core f hf mode neg ds e rest want hc hz hl hr
  rw [he] at h
  rcases fin5_up _ _ _ _ D e3 fl cD.1 (up_G _ _ hU) k E S F h with hk | ⟨hk, R, hS, dR, hv⟩
  · exact .inl hk
  · refine .inr ⟨hk, R, hS, dR, LV.trans ?_ (sv.symm.lv.trans hv)⟩
    rw [lv_at e (Int.le_refl _) (by omega), show (e + (dr : Int) - e).toNat = dr by omega, show (e - e).toNat = 0 by omega, Int.pow_zero, Int.mul_one]
    exact q5 hU
end Go.Proofs.YtnkoeidolmiheaaGreatDoor
namespace Go.Proofs.YtnkoeidolmiheaaGreatDoor
set_option linter.unusedVariables false
set_option maxRecDepth 100000
theorem nou_tx (d : List Int) (hc : Canon d) (hz : d ≠ [0]) : nouB 1 (tx d) = false := by
  unfold nouB
  rw [tx_is0 d hc.1 hz, Bool.and_false]
theorem cI_mul (x y : Int) (k : Nat) : cI (x * 10 ^ k) (y * 10 ^ k) = cI x y := by
  have hp := ten_pos k
  rcases Int.lt_trichotomy x y with h | h | h
  · rw [cI_lt _ _ h, cI_lt _ _ (Int.mul_lt_mul_of_pos_right h hp)]
  · rw [h, cI_same, cI_same]
  · rw [cI_gt _ _ h, cI_gt _ _ (Int.mul_lt_mul_of_pos_right h hp)]
theorem cI_neg (x y : Int) : cI (-x) (-y) = cI y x := by
  rcases Int.lt_trichotomy x y with h | h | h
  · rw [cI_gt _ _ h, cI_gt _ _ (show -y < -x by omega)]
  · rw [h, cI_same, cI_same]
  · rw [cI_lt _ _ h, cI_lt _ _ (show -x < -y by omega)]
/-- Without signs. -/
theorem cu_val (ea : Int) (da : List Int) (eb : Int) (db : List Int) (ca : Canon da) (za : da ≠ [0]) (cb : Canon db) (zb : db ≠ [0]) (M : Int) (h1 : M ≤ ea) (h2 : M ≤ eb) :
    cmpU false 1 ea (tx da) 1 eb (tx db) = cI (vl da * 10 ^ (ea - M).toNat) (vl db * 10 ^ (eb - M).toNat) := by
  have key : ∀ (e1 : Int) (d1 : List Int) (e2 : Int) (d2 : List Int), Canon d1 → Canon d2 → d1 ≠ [0] → d2 ≠ [0] → M ≤ e1 → M ≤ e2 → e1 + (d1.length : Int) < e2 + (d2.length : Int) → vl d1 * 10 ^ (e1 - M).toNat < vl d2 * 10 ^ (e2 - M).toNat := fun e1 d1 e2 d2 c1 c2 z1 z2 m1 m2 h => by
    have lo := canon_lo d2 c2 z2
    have hi := (vl_bd d1 c1.1).2
    have n2 := c2.2.1
    have q1 : 10 ^ (d2.length - 1) * 10 ^ (e2 - M).toNat ≤ vl d2 * 10 ^ (e2 - M).toNat := Int.mul_le_mul_of_nonneg_right lo (Int.le_of_lt (ten_pos _))
    have q2 : vl d1 * 10 ^ (e1 - M).toNat < 10 ^ d1.length * 10 ^ (e1 - M).toNat := Int.mul_lt_mul_of_pos_right hi (ten_pos _)
    rw [← Int.pow_add] at q1 q2
    have := pow_mono (d1.length + (e1 - M).toNat) (d2.length - 1 + (e2 - M).toNat) (by omega)
    omega
  rw [cu_fin ea (tx da) eb (tx db) (nou_tx da ca za) (nou_tx db cb zb), tx_size, tx_size]
  rcases Int.lt_trichotomy (ea + (da.length : Int)) (eb + (db.length : Int)) with h | h | h
  · rw [cI_lt _ _ h, cI_lt _ _ (key ea da eb db ca cb za zb h1 h2 h)]; rfl
  · rw [h, cI_same]
    show Lib.compareBytes _ _ = _
    exact cmp_trS da db ca.1 cb.1 (ea - M).toNat (eb - M).toNat (by omega)
  · rw [cI_gt _ _ h, cI_gt _ _ (key eb db ea da cb ca zb za h2 h1 h)]; rfl
/-- With signs. -/
theorem cp_val (f : Int) (na : Bool) (ea : Int) (da : List Int) (nb : Bool) (eb : Int) (db : List Int) (hA : numB f 1 na ea (tx da) = true) (hB : numB f 1 nb eb (tx db) = true) (ca : Canon da) (cb : Canon db) (M : Int) (h1 : M ≤ ea) (h2 : M ≤ eb) :
    cpR f 1 na ea (tx da) 1 nb eb (tx db) = cI (sgv na (vl da) * 10 ^ (ea - M).toNat) (sgv nb (vl db) * 10 ^ (eb - M).toNat) := by
  have hpos : ∀ (d : List Int) (e : Int), Canon d → d ≠ [0] → 0 < vl d * 10 ^ (e - M).toNat := fun d e c z => Int.mul_pos (by have := vl_pos d c z; omega) (ten_pos _)
  rw [sgv_mul, sgv_mul]
  unfold cpR
  rw [hA, hB, Bool.and_self, if_pos rfl, if_neg (by decide)]
  by_cases za : da = [0]
  · subst za
    rw [show vl [0] = 0 from rfl, Int.zero_mul, sgv_0, nou_zero, Bool.true_and]
    by_cases zb : db = [0]
    · subst zb
      rw [show vl [0] = 0 from rfl, Int.zero_mul, sgv_0, nou_zero, if_pos rfl, cI_same]
    · have hb := nou_tx db cb zb
      have p := hpos db eb cb zb
      rw [hb, if_neg (by decide)]
      have hl := nou_less f 1 na ea (tx [0]) 1 nb eb (tx db) hB (.inl rfl) nou_zero hb
      have hg := cmpU_turn false 1 ea (tx [0]) 1 eb (tx db)
      rw [hl] at hg
      generalize vl db * 10 ^ (eb - M).toNat = Y at *
      unfold cmpR
      cases na <;> cases nb <;> simp only [sgv, Bool.not_true, Bool.not_false, Bool.and_true, Bool.and_false, Bool.false_eq_true, if_true, if_false, hl, hg]
      · exact (cI_lt _ _ (by omega)).symm
      · exact (cI_gt _ _ (by omega)).symm
      · exact (cI_lt _ _ (by omega)).symm
      · exact (cI_gt _ _ (by omega)).symm
  · have ha := nou_tx da ca za
    have p := hpos da ea ca za
    rw [ha, Bool.false_and, if_neg (by decide)]
    by_cases zb : db = [0]
    · subst zb
      rw [show vl [0] = 0 from rfl, Int.zero_mul, sgv_0]
      have hl := nou_less f 1 nb eb (tx [0]) 1 na ea (tx da) hA (.inl rfl) nou_zero ha
      have hg := cmpU_turn false 1 eb (tx [0]) 1 ea (tx da)
      rw [hl] at hg
      generalize vl da * 10 ^ (ea - M).toNat = X at *
      unfold cmpR
      cases na <;> cases nb <;> simp only [sgv, Bool.not_true, Bool.not_false, Bool.and_true, Bool.and_false, Bool.false_eq_true, if_true, if_false, hl, hg]
      · exact (cI_gt _ _ (by omega)).symm
      · exact (cI_gt _ _ (by omega)).symm
      · exact (cI_lt _ _ (by omega)).symm
      · exact (cI_lt _ _ (by omega)).symm
    · have q := hpos db eb cb zb
      have v1 := cu_val ea da eb db ca za cb zb M h1 h2
      have v2 := cu_val eb db ea da cb zb ca za M h2 h1
      generalize vl da * 10 ^ (ea - M).toNat = X at *
      generalize vl db * 10 ^ (eb - M).toNat = Y at *
      unfold cmpR
      cases na <;> cases nb <;> simp only [sgv, Bool.not_true, Bool.not_false, Bool.and_true, Bool.and_false, Bool.false_eq_true, if_true, if_false, v1, v2]
      · exact (cI_gt _ _ (by omega)).symm
      · exact (cI_lt _ _ (by omega)).symm
      · exact (cI_neg X Y).symm
theorem cI_le (x y : Int) (h : x ≤ y) : cI x y = 0 ∨ cI x y = -1 := by unfold cI; split <;> (try split) <;> omega
theorem cI_ge (x y : Int) (h : y ≤ x) : cI x y = 0 ∨ cI x y = 1 := by unfold cI; split <;> (try split) <;> omega
/-- At most as much by value: no more by the order. -/
theorem cp_le (f : Int) (na : Bool) (ea : Int) (da : List Int) (nb : Bool) (eb : Int) (db : List Int) (hA : numB f 1 na ea (tx da) = true) (hB : numB f 1 nb eb (tx db) = true) (ca : Canon da) (cb : Canon db) (h : LV (sgv na (vl da)) ea (sgv nb (vl db)) eb) :
    cpR f 1 na ea (tx da) 1 nb eb (tx db) = 0 ∨ cpR f 1 na ea (tx da) 1 nb eb (tx db) = -1 := by
  rw [cp_val f na ea da nb eb db hA hB ca cb (min ea eb) (Int.min_le_left _ _) (Int.min_le_right _ _)]
  exact cI_le _ _ h
theorem cp_ge (f : Int) (na : Bool) (ea : Int) (da : List Int) (nb : Bool) (eb : Int) (db : List Int) (hA : numB f 1 na ea (tx da) = true) (hB : numB f 1 nb eb (tx db) = true) (ca : Canon da) (cb : Canon db) (h : LV (sgv nb (vl db)) eb (sgv na (vl da)) ea) :
    cpR f 1 na ea (tx da) 1 nb eb (tx db) = 0 ∨ cpR f 1 na ea (tx da) 1 nb eb (tx db) = 1 := by
  rw [cp_val f na ea da nb eb db hA hB ca cb (min ea eb) (Int.min_le_left _ _) (Int.min_le_right _ _)]
  rw [lv_at (min ea eb) (Int.min_le_right _ _) (Int.min_le_left _ _)] at h
  exact cI_ge _ _ h
/-- An infinity and a finite number. -/
theorem cp_infb (f : Int) (na : Bool) (ea : Int) (sa : ByteArray) (nb : Bool) (eb : Int) (sb : ByteArray) (hA : numB f 1 na ea sa = true) (hB : numB f 2 nb eb sb = true) : cpR f 1 na ea sa 2 nb eb sb = if nb then 1 else -1 := by
  have hn : nouB 2 sb = false := rfl
  unfold cpR
  rw [hA, hB, Bool.and_self, if_pos rfl, if_neg (by decide), hn, Bool.and_false, if_neg (by decide)]
  have e1 := cu_infb ea sa eb sb
  have e2 := cu_infa eb sb ea sa
  unfold cmpR
  cases na <;> cases nb <;> simp [e1, e2]
theorem LV.sg {v e v' e' : Int} (h : LV v e v' e') (n : Bool) : (n = false → LV (sgv n v) e (sgv n v') e') ∧ (n = true → LV (sgv n v') e' (sgv n v) e) := by
  refine ⟨fun q => ?_, fun q => ?_⟩
  · subst q; exact h
  · subst q; exact h.neg
end Go.Proofs.YtnkoeidolmiheaaGreatDoor
namespace Go.Proofs.YtnkoeidolmiheaaGreatDoor
set_option linter.unusedVariables false
set_option maxRecDepth 100000
theorem tx_0 : tx [0] = { data := #[48] } := by apply ByteArray.ext; rw [tx_data]; rfl
theorem finD_dn (f : Int) (hf : f = 64 ∨ f = 128) (mode : Int) (g : Bool) (ds : List Int) (e : Int) (rest : Bool) (want : Int) (hc : Canon ds) (hl : ds.length ≤ 200) (hr : rest = true → (limP f).toNat < ds.length) (hG : finG mode g = true)
    (k E : Int) (S : ByteArray) (F : Int) (h : finD f mode g ds e rest want = (k, E, S, F)) : k = 1 ∧ ∃ R, S = tx R ∧ Dec R ∧ LV (vl R) E (vl ds) e := by
  unfold finD at h
  by_cases hz : ds = [0]
  · rw [if_pos hz] at h
    obtain ⟨rfl, rfl, rfl, -⟩ : 1 = k ∧ min (limH f) (max (limL f) want) = E ∧ { data := #[48] } = S ∧ 0 = F := by simpa only [Prod.mk.injEq] using h
    subst hz
    exact ⟨rfl, [0], tx_0.symm, canon_zero.1, (sv_zero _ _).lv⟩
  · rw [if_neg hz] at h
    exact finN_down f hf mode g ds e rest want hc hz hl hr hG k E S F h
theorem finD_upw (f : Int) (hf : f = 64 ∨ f = 128) (mode : Int) (g : Bool) (ds : List Int) (e : Int) (rest : Bool) (want : Int) (hc : Canon ds) (hl : ds.length ≤ 200) (hr : rest = true → (limP f).toNat < ds.length) (hU : upM mode g = true)
    (k E : Int) (S : ByteArray) (F : Int) (h : finD f mode g ds e rest want = (k, E, S, F)) : k = 2 ∨ (k = 1 ∧ ∃ R, S = tx R ∧ Dec R ∧ LV (vl ds + rb rest) e (vl R) E) := by
  unfold finD at h
  by_cases hz : ds = [0]
  · rw [if_pos hz] at h
    obtain ⟨rfl, rfl, rfl, -⟩ : 1 = k ∧ min (limH f) (max (limL f) want) = E ∧ { data := #[48] } = S ∧ 0 = F := by simpa only [Prod.mk.injEq] using h
    subst hz
    have h0 : rest = false := by
      cases rest with
      | false => rfl
      | true =>
        have := hr rfl
        have : 1 ≤ (limP f).toNat := by rcases hf with rfl | rfl <;> decide
        simp at *
        omega
    subst h0
    exact .inr ⟨rfl, [0], tx_0.symm, canon_zero.1, (sv_zero _ _).lv⟩
  · rw [if_neg hz] at h
    exact finN_up f hf mode g ds e rest want hc hz hl hr hU k E S F h
/-- What is told is at least a number with its exponent. -/
def AtLeast (T e : Int) (r : Bool × (Int × Int × ByteArray × Int)) : Prop := (r.2.1 = 2 ∧ r.1 = false) ∨ (r.2.1 = 1 ∧ ∃ R, r.2.2.2.1 = tx R ∧ Dec R ∧ LV T e (sgv r.1 (vl R)) r.2.2.1)
def AtMost (T e : Int) (r : Bool × (Int × Int × ByteArray × Int)) : Prop := (r.2.1 = 2 ∧ r.1 = true) ∨ (r.2.1 = 1 ∧ ∃ R, r.2.2.2.1 = tx R ∧ Dec R ∧ LV (sgv r.1 (vl R)) r.2.2.1 T e)
/-- Rounded upward. -/
theorem finD_ceil (f : Int) (hf : f = 64 ∨ f = 128) (g : Bool) (ds : List Int) (e : Int) (rest : Bool) (want : Int) (hc : Canon ds) (hl : ds.length ≤ 200) (hr : rest = true → (limP f).toNat < ds.length) (T M : Int)
    (h0 : g = false → LV T M (vl ds + rb rest) e) (h1 : g = true → LV T M (-vl ds) e) : AtLeast T M (g, finD f 4 g ds e rest want) := by
  obtain ⟨r, hr2⟩ : ∃ r, finD f 4 g ds e rest want = r := ⟨_, rfl⟩
  rw [hr2]
  obtain ⟨k, E, S, F⟩ := r
  cases g with
  | false =>
    rcases finD_upw f hf 4 false ds e rest want hc hl hr rfl k E S F hr2 with h | ⟨h, R, hS, dR, hv⟩
    · exact .inl ⟨h, rfl⟩
    · exact .inr ⟨h, R, hS, dR, (h0 rfl).trans hv⟩
  | true =>
    obtain ⟨h, R, hS, dR, hv⟩ := finD_dn f hf 4 true ds e rest want hc hl hr rfl k E S F hr2
    exact .inr ⟨h, R, hS, dR, (h1 rfl).trans hv.neg⟩
theorem sumY_ceil (f : Int) (hf : f = 64 ∨ f = 128) (n1 : Bool) (e1 : Int) (d1 : List Int) (n2 : Bool) (e2 : Int) (d2 : List Int) (M : Int) (c1 : Canon d1) (z1 : d1 ≠ [0]) (c2 : Canon d2) (z2 : d2 ≠ [0]) (hl : d1.length + d2.length ≤ 120) (m1 : M ≤ e1) (m2 : M ≤ e2) (hm : M = e1 ∨ M = e2) (hge : (d2.length : Int) + e2 ≤ d1.length + e1) :
    AtLeast (sumS n1 e1 d1 n2 e2 d2 M) M (sumY f 4 n1 e1 d1 n2 e2 d2 M) := by
  have hP : (limP f).toNat ≤ 34 := by rcases hf with rfl | rfl <;> decide
  have p181 : (10 : Int) ^ 181 = 10 ^ 180 * 10 := Int.pow_succ 10 180
  have p180 := ten_pos 180
  unfold sumY sumS
  rw [sgv_mul, sgv_mul]
  by_cases hfar : 180 < (d1.length : Int) + e1 - M
  · rw [if_pos hfar]
    have hMe : M = e2 := by rcases hm with h | h <;> omega
    have hb := (vl_bd d1 c1.1).2
    have hb2 := (vl_bd d2 c2.1).2
    have v1 := vl_pos d1 c1 z1
    have v2 := vl_pos d2 c2 z2
    have p40 : (2 : Int) ≤ 10 ^ 40 := by decide
    have w1 : 1 * 10 ^ 40 ≤ vl d1 * 10 ^ 40 := Int.mul_le_mul_of_nonneg_right v1 (by omega)
    have w2 : vl d1 * 10 ^ 40 < 10 ^ d1.length * 10 ^ 40 := Int.mul_lt_mul_of_pos_right hb (by omega)
    rw [← Int.pow_add] at w2
    have w3 : (10 : Int) ^ (d1.length + 40) ≤ 10 ^ 180 := pow_mono _ _ (by omega)
    have w4 : (10 : Int) ^ 40 = 10 ^ 39 * 10 := Int.pow_succ 10 39
    have w5 := ten_pos 39
    obtain ⟨dl, hdl⟩ : ∃ dl : Int, (if n1 = n2 then (0 : Int) else 1) = dl := ⟨_, rfl⟩
    have hdl2 : dl = 0 ∨ dl = 1 := by rw [← hdl]; split <;> simp
    rw [hdl]
    obtain ⟨cN, vN, zN, lN⟩ := nt_ok (vl d1 * 10 ^ 40 - dl) (by omega) (by omega)
    have hlen : 39 < (nt (vl d1 * 10 ^ 40 - dl)).length := by
      have := (vl_bd _ cN.1).2
      rw [vN] at this
      apply Nat.lt_of_not_le
      intro h
      have := pow_mono (nt (vl d1 * 10 ^ 40 - dl)).length 39 h
      omega
    -- all at the exponent M
    have hx : (e2 - M).toNat = 0 := by omega
    rw [hx, Int.pow_zero, Int.mul_one]
    have hX : vl d1 * 10 ^ (e1 - M).toNat = vl d1 * 10 ^ 40 * 10 ^ (e1 - 40 - M).toNat := by
      rw [Int.mul_assoc, ← Int.pow_add, show 40 + (e1 - 40 - M).toNat = (e1 - M).toNat by omega]
    have hY : vl d2 ≤ 10 ^ (e1 - 40 - M).toNat := Int.le_trans (Int.le_of_lt hb2) (pow_mono _ _ (by omega))
    have tp := ten_pos (e1 - 40 - M).toNat
    rw [hX]
    refine finD_ceil f hf n1 _ (e1 - 40) true M cN lN (fun _ => by omega) _ M (fun h => ?_) (fun h => ?_)
    · subst h
      rw [lv_at M (Int.le_refl _) (by omega), vN, show (M - M).toNat = 0 by omega, Int.pow_zero, Int.mul_one, show rb true = 1 from rfl]
      generalize (10 : Int) ^ (e1 - 40 - M).toNat = Q at *
      generalize vl d1 * 10 ^ 40 = V at *
      rw [show (V - dl + 1) * Q = V * Q + (1 - dl) * Q by rw [← Int.add_mul, show V + (1 - dl) = V - dl + 1 by omega]]
      cases n2
      · have : dl = 0 := by rw [← hdl]; rfl
        subst this
        simp [sgv]
        omega
      · have : dl = 1 := by rw [← hdl]; rfl
        subst this
        simp [sgv]
        omega
    · subst h
      rw [lv_at M (Int.le_refl _) (by omega), vN, show (M - M).toNat = 0 by omega, Int.pow_zero, Int.mul_one]
      generalize (10 : Int) ^ (e1 - 40 - M).toNat = Q at *
      generalize vl d1 * 10 ^ 40 = V at *
      rw [show -(V - dl) * Q = -(V * Q) + dl * Q by rw [← Int.neg_mul, ← Int.add_mul, show -V + dl = -(V - dl) by omega]]
      cases n2
      · have : dl = 1 := by rw [← hdl]; rfl
        subst this
        simp [sgv]
        omega
      · have : dl = 0 := by rw [← hdl]; rfl
        subst this
        simp [sgv]
        omega
  · rw [if_neg hfar]
    obtain ⟨a1, b1⟩ := near_ok d1 e1 M c1 z1 m1 (by omega)
    obtain ⟨a2, b2⟩ := near_ok d2 e2 M c2 z2 m2 (by omega)
    generalize vl d1 * 10 ^ (e1 - M).toNat = X at *
    generalize vl d2 * 10 ^ (e2 - M).toNat = Y at *
    have fin : ∀ (g : Bool) (v T : Int), 1 ≤ v → v < 10 ^ 181 → T = sgv g v → AtLeast T M (g, finD f 4 g (nt v) M false M) := fun g v T h0 h1 hT => by
      obtain ⟨cN, vN, zN, lN⟩ := nt_ok v h0 h1
      refine finD_ceil f hf g (nt v) M false M cN lN (fun h => by cases h) T M (fun h => ?_) (fun h => ?_)
      · subst h hT; rw [vN]; exact lv_same (by simp [rb])
      · subst h hT; rw [vN]; exact lv_same (by simp [sgv])
    by_cases hn : n1 = n2
    · rw [if_pos hn]
      subst hn
      exact fin n1 _ _ (by omega) (by omega) (by cases n1 <;> simp [sgv] <;> omega)
    · rw [if_neg hn]
      have hn2 : n2 = !n1 := by cases n1 <;> cases n2 <;> first | rfl | exact absurd rfl hn
      subst hn2
      by_cases hxy : X = Y
      · rw [if_pos hxy]
        refine finD_ceil f hf _ [0] M false M canon_zero (by decide) (fun h => by cases h) _ M (fun h => ?_) (fun h => ?_)
        · rw [show vl [0] = 0 from rfl]; exact lv_same (by subst hxy; cases n1 <;> simp [sgv, rb] <;> omega)
        · rw [show vl [0] = 0 from rfl]; exact lv_same (by subst hxy; cases n1 <;> simp [sgv] <;> omega)
      · rw [if_neg hxy]
        by_cases hlt : Y < X
        · rw [if_pos hlt]
          exact fin n1 _ _ (by omega) (by omega) (by cases n1 <;> simp [sgv] <;> omega)
        · rw [if_neg hlt]
          exact fin (!n1) _ _ (by omega) (by omega) (by cases n1 <;> simp [sgv] <;> omega)
theorem AtLeast.of {T M T' M' : Int} {r : Bool × (Int × Int × ByteArray × Int)} (h : AtLeast T M r) (hv : LV T' M' T M) : AtLeast T' M' r := by
  rcases h with h | ⟨h, R, hS, dR, hl⟩
  · exact .inl h
  · exact .inr ⟨h, R, hS, dR, hv.trans hl⟩
/-- A sum rounded upward is at least the exact one. -/
theorem sumX_ceil (f : Int) (hf : f = 64 ∨ f = 128) (na : Bool) (ea : Int) (da : List Int) (nb : Bool) (eb : Int) (db : List Int) (ca : Canon da) (cb : Canon db) (hl : da.length + db.length ≤ 120) :
    AtLeast (sumS na ea da nb eb db (min ea eb)) (min ea eb) (sumX f 4 na ea da nb eb db) := by
  have one : ∀ (g : Bool) (d : List Int) (e want : Int), Canon d → d.length ≤ 120 → AtLeast (sgv g (vl d)) e (g, finD f 4 g d e false want) := fun g d e want c l => by
    refine finD_ceil f hf g d e false want c (by omega) (fun h => by cases h) _ e (fun h => ?_) (fun h => ?_)
    · subst h; exact lv_same (by simp [sgv, rb])
    · subst h; exact lv_same (by simp [sgv])
  unfold sumX
  by_cases h1 : da = [0] ∧ db = [0]
  · rw [if_pos h1]
    obtain ⟨rfl, rfl⟩ := h1
    have hs : sumS na ea [0] nb eb [0] (min ea eb) = 0 := by unfold sumS; rw [show vl [0] = 0 from rfl, sgv_0, sgv_0]; simp
    rw [hs]
    refine (one _ [0] (min ea eb) _ canon_zero (by decide)).of ?_
    rw [show vl [0] = 0 from rfl, sgv_0]
    exact lv_same (Int.le_refl _)
  · rw [if_neg h1]
    by_cases h2 : da = [0]
    · rw [if_pos h2]
      subst h2
      exact (one nb db eb _ cb (by omega)).of (sumS_0l na ea nb eb db (min ea eb) (Int.min_le_right _ _)).symm.lv
    · rw [if_neg h2]
      by_cases h3 : db = [0]
      · rw [if_pos h3]
        subst h3
        exact (one na da ea _ ca (by omega)).of (sumS_0r na ea da nb eb (min ea eb) (Int.min_le_left _ _)).symm.lv
      · rw [if_neg h3]
        by_cases h4 : (da.length : Int) + ea < (db.length : Int) + eb
        · rw [if_pos h4, sumS_comm]
          exact sumY_ceil f hf nb eb db na ea da (min ea eb) cb h3 ca h2 (by omega) (Int.min_le_right _ _) (Int.min_le_left _ _) (by omega) (Int.le_of_lt h4)
        · rw [if_neg h4]
          exact sumY_ceil f hf na ea da nb eb db (min ea eb) ca h2 cb h3 hl (Int.min_le_left _ _) (Int.min_le_right _ _) (by omega) (by omega)
/-- Rounding downward is rounding upward with the other sign. -/
theorem finN_mirror (p : Nat) (low high : Int) (neg : Bool) (ds : List Int) (e : Int) (rest : Bool) (want : Int) : finN p low high 3 neg ds e rest want = finN p low high 4 (!neg) ds e rest want := by
  have hr : ∀ v k r, rndV 3 neg v k r = rndV 4 (!neg) v k r := fun v k r => by
    unfold rndV rndU upB upO
    simp
  have hV : ∀ v k r, finV 3 neg v k r = finV 4 (!neg) v k r := fun v k r => by
    unfold finV
    rw [hr, hr]
  have hG : finG 3 neg = finG 4 (!neg) := by unfold finG; cases neg <;> rfl
  unfold finN
  simp only [hV]
  unfold fin5
  rw [hG]
theorem finD_mirror (f : Int) (neg : Bool) (ds : List Int) (e : Int) (rest : Bool) (want : Int) : finD f 3 neg ds e rest want = finD f 4 (!neg) ds e rest want := by
  unfold finD
  rw [finN_mirror]
theorem sumY_mirror (f : Int) (n1 : Bool) (e1 : Int) (d1 : List Int) (n2 : Bool) (e2 : Int) (d2 : List Int) (M : Int) : sumY f 3 n1 e1 d1 n2 e2 d2 M = (!(sumY f 4 (!n1) e1 d1 (!n2) e2 d2 M).1, (sumY f 4 (!n1) e1 d1 (!n2) e2 d2 M).2) := by
  unfold sumY
  have hn : ((!n1) = (!n2)) = (n1 = n2) := by cases n1 <;> cases n2 <;> simp
  simp only [finD_mirror, hn]
  split
  · simp
  · split
    · simp
    · split
      · simp
      · split <;> simp
theorem sumX_mirror (f : Int) (na : Bool) (ea : Int) (da : List Int) (nb : Bool) (eb : Int) (db : List Int) : sumX f 3 na ea da nb eb db = (!(sumX f 4 (!na) ea da (!nb) eb db).1, (sumX f 4 (!na) ea da (!nb) eb db).2) := by
  unfold sumX
  have hn : ((!na) = (!nb)) = (na = nb) := by cases na <;> cases nb <;> simp
  simp only [finD_mirror, sumY_mirror, hn]
  split
  · cases na <;> cases nb <;> rfl
  · split
    · simp
    · split
      · simp
      · split <;> rfl
theorem AtLeast.mirror {T M : Int} {r : Bool × (Int × Int × ByteArray × Int)} (h : AtLeast (-T) M r) : AtMost T M (!r.1, r.2) := by
  rcases h with ⟨h1, h2⟩ | ⟨h, R, hS, dR, hl⟩
  · exact .inl ⟨h1, by show (!r.1) = true; rw [h2]; rfl⟩
  · refine .inr ⟨h, R, hS, dR, ?_⟩
    have := hl.neg
    rw [Int.neg_neg] at this
    show LV (sgv (!r.1) (vl R)) r.2.2.1 T M
    rw [show sgv (!r.1) (vl R) = -sgv r.1 (vl R) by cases r.1 <;> simp [sgv]]
    exact this
/-- A sum rounded downward is at most the exact one. -/
theorem sumX_floor (f : Int) (hf : f = 64 ∨ f = 128) (na : Bool) (ea : Int) (da : List Int) (nb : Bool) (eb : Int) (db : List Int) (ca : Canon da) (cb : Canon db) (hl : da.length + db.length ≤ 120) :
    AtMost (sumS na ea da nb eb db (min ea eb)) (min ea eb) (sumX f 3 na ea da nb eb db) := by
  rw [sumX_mirror]
  refine AtLeast.mirror ?_
  have hs : -sumS na ea da nb eb db (min ea eb) = sumS (!na) ea da (!nb) eb db (min ea eb) := by
    unfold sumS
    rw [show sgv (!na) (vl da) = -sgv na (vl da) by cases na <;> simp [sgv], show sgv (!nb) (vl db) = -sgv nb (vl db) by cases nb <;> simp [sgv], Int.neg_mul, Int.neg_mul]
    omega
  rw [hs]
  exact sumX_ceil f hf (!na) ea da (!nb) eb db ca cb hl
end Go.Proofs.YtnkoeidolmiheaaGreatDoor
