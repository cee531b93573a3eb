/-
  Plain facts: a result that the format can tell is finished exactly, with no flag.
-/
import Derived.Test.YtnkoeidolmiheaaGreatDoorSpt
import Derived.Test.YtnkoeidolmiheaaGreatDoorFinA
import Derived.Test.YtnkoeidolmiheaaGreatDoorNatS
import Derived.Test.YtnkoeidolmiheaaGreatDoorSmL
namespace Go.Proofs.YtnkoeidolmiheaaGreatDoor
set_option linter.unusedVariables false
set_option maxRecDepth 100000
/-- Digits with no nought ahead. -/
def Hdg (D : List Int) : Prop := Dec D ∧ 0 < D.length ∧ D.headD 0 ≠ 0
theorem Hdg.canon {D : List Int} (h : Hdg D) : Canon D := ⟨h.1, h.2.1, .inr h.2.2⟩
theorem Hdg.take {D : List Int} (h : Hdg D) (k : Nat) (hk : 0 < k) : Hdg (D.take k) := by
  refine ⟨fun d hd => h.1 d (List.mem_of_mem_take hd), by have := h.2.1; simp; omega, ?_⟩
  cases D with
  | nil => exact absurd h.2.1 (by simp)
  | cons x r => cases k with
    | zero => omega
    | succ k => simpa using h.2.2
theorem Hdg.zeros {D : List Int} (h : Hdg D) (k : Nat) : Hdg (D ++ List.replicate k 0) := by
  refine ⟨fun d hd => ?_, by have := h.2.1; simp; omega, ?_⟩
  · rcases List.mem_append.1 hd with q | q
    · exact h.1 d q
    · rw [List.mem_replicate] at q; omega
  · cases D with
    | nil => exact absurd h.2.1 (by simp)
    | cons x r => simpa using h.2.2
theorem hdg_of (D : List Int) (h : Canon D) (hv : vl D ≠ 0) : Hdg D := by
  refine ⟨h.1, h.2.1, ?_⟩
  rcases h.2.2 with q | q
  · match D, q with
    | [x], _ =>
      show x ≠ 0
      intro h
      subst h
      exact hv (by rfl)
  · exact q
/-- What fin5 tells of digits that are right up to their exponent. -/
theorem fin5_right (f : Int) (hf : f = 64 ∨ f = 128) (mode : Int) (neg : Bool) (D : List Int) (e fl : Int) (hC : Canon D) (hl : D.length ≤ (limP f).toNat) (he : limL f ≤ e) (hH : Hdg D ∨ e ≤ limH f) :
    numB f (fin5 (limP f).toNat (limH f) mode neg D e fl).1 neg (fin5 (limP f).toNat (limH f) mode neg D e fl).2.1 (fin5 (limP f).toNat (limH f) mode neg D e fl).2.2.1 = true := by
  have hp0 : limP f ≠ 0 ∧ 0 < limP f ∧ limL f ≤ limH f := by rcases hf with rfl | rfl <;> decide
  unfold fin5
  split
  · rename_i h1
    show numB f 1 neg (fin4E D e (limH f) (limP f).toNat) (tx (fin4D D e (limH f) (limP f).toNat)) = true
    unfold numB
    rw [if_neg hp0.1, if_pos rfl]
    have hfc : fC D.length (limP f).toNat e (limH f) ≤ (limP f).toNat - D.length ∧ (fC D.length (limP f).toNat e (limH f) : Int) ≤ (e - limH f).toNat := by unfold fC; omega
    have hlen : (fin4D D e (limH f) (limP f).toNat).length = D.length + fC D.length (limP f).toNat e (limH f) := by unfold fin4D; simp
    have hc4 : Canon (fin4D D e (limH f) (limP f).toNat) := by
      unfold fin4D
      rcases hH with q | q
      · exact (q.zeros _).canon
      · have : fC D.length (limP f).toNat e (limH f) = 0 := by unfold fC; omega
        rw [this]; simpa using hC
    have hn := natB_tx (limP f) _ hc4 (by rw [hlen]; omega)
    rw [hn]
    have hlo : limL f ≤ fin4E D e (limH f) (limP f).toNat := by unfold fin4E; omega
    simp [hlo, h1]
  · split
    · show numB f 1 neg (limH f) (tx (List.replicate (limP f).toNat 9)) = true
      unfold numB
      rw [if_neg hp0.1, if_pos rfl]
      have hc9 : Canon (List.replicate (limP f).toNat (9 : Int)) := by
        refine ⟨fun d hd => by rw [List.mem_replicate] at hd; omega, by simp; omega, .inr ?_⟩
        cases hq : (limP f).toNat with
        | zero => omega
        | succ q => simp [List.replicate_succ]
      rw [natB_tx (limP f) _ hc9 (by simp; omega)]
      simp [hp0.2.2]
    · show numB f 2 neg 0 { data := #[] } = true
      unfold numB
      rw [if_neg hp0.1, if_neg (by decide), if_pos rfl, ByteArray.toList_eq]
      rfl
/-- What fin3 makes of digits that are right. -/
theorem fin3_right (lost : Bool) (D : List Int) (e want low high : Int) (p : Nat) (hC : Canon D) (hl : D.length ≤ p) (he : low ≤ e) (hH : lost = false → Hdg D) :
    Canon (fin3D lost D e want low high p) ∧ (fin3D lost D e want low high p).length ≤ p ∧ low ≤ fin3E lost D e want low high p ∧ (lost = false → Hdg (fin3D lost D e want low high p)) := by
  unfold fin3D fin3E
  cases lost with
  | true => exact ⟨hC, hl, he, fun h => by cases h⟩
  | false =>
    have hd := hH rfl
    have hA := fA_len D e want high hC.2.1
    have hB : fB (D.length - fA D e want high) p (e + fA D e want high) want low ≤ p - (D.length - fA D e want high) ∧ fB (D.length - fA D e want high) p (e + fA D e want high) want low ≤ (e + fA D e want high - low).toNat := by unfold fB; omega
    simp only [Bool.false_eq_true, if_false]
    have q := (hd.take (D.length - fA D e want high) (by omega)).zeros (fB (D.length - fA D e want high) p (e + fA D e want high) want low)
    refine ⟨q.canon, ?_, by omega, fun _ => q⟩
    simp
    omega
theorem finT_right (p : Nat) (hp : 1 ≤ p) (D : List Int) (hC : Canon D) (hl : D.length ≤ p + 1) : Canon (finT p D) ∧ (finT p D).length ≤ p ∧ (Hdg D → Hdg (finT p D)) := by
  unfold finT
  split
  · rename_i h
    have hd : Hdg D := ⟨hC.1, hC.2.1, by rcases hC.2.2 with q | q; · omega
                                         · exact q⟩
    have q := hd.take p (by omega)
    exact ⟨q.canon, by simp; omega, fun _ => q⟩
  · exact ⟨hC, by omega, id⟩
/-- What Finish tells of digits with nothing behind them is right. -/
theorem finN_right (f : Int) (hf : f = 64 ∨ f = 128) (mode : Int) (neg : Bool) (ds : List Int) (e want : Int) (hc : Canon ds) (hz : ds ≠ [0]) (hl : ds.length ≤ 200) :
    numB f (finN (limP f).toNat (limL f) (limH f) mode neg ds e false want).1 neg (finN (limP f).toNat (limL f) (limH f) mode neg ds e false want).2.1 (finN (limP f).toNat (limL f) (limH f) mode neg ds e false want).2.2.1 = true := by
  have hp : 1 ≤ (limP f).toNat ∧ (limP f).toNat ≤ 34 ∧ limL f ≤ limH f := by rcases hf with rfl | rfl <;> decide
  have hv := vl_bd ds hc.1
  have hv0 := vl_pos ds hc hz
  have hj : finJ (limP f).toNat ds.length false = 0 := rfl
  unfold finN
  simp only [hj, Nat.add_zero, Int.pow_zero, Int.mul_one]
  have hdr : finDr (limP f).toNat ds.length (limL f) (e - (0 : Nat)) = (max (max 0 ((ds.length : Int) - (limP f).toNat)) (limL f - e)).toNat := by unfold finDr; simp
  rw [hdr]
  generalize hd0 : (max (max 0 ((ds.length : Int) - (limP f).toNat)) (limL f - e)).toNat = dr
  have hep : limL f ≤ e + dr := by omega
  have hdn : (ds.length : Int) - (limP f).toNat ≤ dr := by omega
  have heL : (ds.length : Int) - (limP f).toNat < dr → 0 < dr → e + dr = limL f := by omega
  clear hd0 hdr hj
  generalize hP : (limP f).toNat = p at *
  generalize hq : finV mode neg (vl ds) dr false = q
  generalize hls : finLs (vl ds) dr false = lost
  -- what is rounded
  have hQ : 0 ≤ q ∧ q < 10 ^ (p + 1) ∧ (lost = false → q ≠ 0) ∧ (q = 0 → e + dr = limL f) := by
    have hp1 : (1 : Int) ≤ 10 ^ p := Int.add_one_le_of_lt (ten_pos p)
    have hpp : (10 : Int) ^ (p + 1) = 10 ^ p * 10 := Int.pow_succ ..
    by_cases h2 : 200 < dr
    · unfold finV at hq
      unfold finLs at hls
      rw [if_pos h2] at hq hls
      have hl2 : lost = true := by rw [← hls]; rfl
      have hone : (1 : Int) / 10 ^ 200 = 0 := by decide
      unfold rndV at hq
      rw [hone] at hq
      have h01 : q = 0 ∨ q = 1 := by rw [← hq]; split <;> simp
      refine ⟨by omega, by omega, fun h => (by rw [hl2] at h; cases h), fun _ => heL (by omega) (by omega)⟩
    · unfold finV at hq
      unfold finLs at hls
      rw [if_neg h2] at hq hls
      unfold rndV at hq
      have ht := ten_pos dr
      have hd1 : 0 ≤ vl ds / 10 ^ dr := Int.ediv_nonneg (by omega) (by omega)
      have hd2 : vl ds / 10 ^ dr < 10 ^ p := by
        refine Int.ediv_lt_of_lt_mul ht ?_
        rw [← Int.pow_add]
        exact Int.lt_of_lt_of_le hv.2 (pow_mono _ _ (by omega))
      have h01 : q = vl ds / 10 ^ dr ∨ q = vl ds / 10 ^ dr + 1 := by rw [← hq]; split <;> simp
      refine ⟨by omega, by omega, fun h hq0 => ?_, fun hq0 => ?_⟩
      · rw [← hls] at h
        have hm : vl ds % 10 ^ dr = 0 := by simpa [rndL] using h
        have hz0 : vl ds / 10 ^ dr = 0 := by omega
        have := Int.emod_add_mul_ediv (vl ds) (10 ^ dr)
        rw [hm, hz0] at this
        simp at this
        omega
      · have hz0 : vl ds / 10 ^ dr = 0 := by omega
        have hlt : vl ds < 10 ^ dr := by
          have := Int.emod_add_mul_ediv (vl ds) (10 ^ dr)
          rw [hz0] at this
          have := Int.emod_lt_of_pos (vl ds) ht
          simp at *
          omega
        have hlo := canon_lo ds hc hz
        have : ¬ dr ≤ ds.length - 1 := fun h => by
          have := pow_mono dr (ds.length - 1) h
          omega
        have := hc.2.1
        exact heL (by omega) (by omega)
  obtain ⟨q0, q1, q2, q3⟩ := hQ
  have hq5 : q < 10 ^ 500 := Int.lt_of_lt_of_le q1 (pow_mono _ _ (by omega))
  obtain ⟨cq, vq⟩ := nt_spec q q0 hq5
  have lq : (nt q).length ≤ p + 1 := canon_le _ cq (p + 1) (by omega) (by rw [vq]; exact q1)
  have hH0 : q ≠ 0 → Hdg (nt q) := fun h => hdg_of _ cq (by rw [vq]; exact h)
  obtain ⟨t1, t2, t3⟩ := finT_right p hp.1 (nt q) cq lq
  have te : limL f ≤ finTE p (nt q) (e - (0 : Nat) + dr) := by unfold finTE; split <;> omega
  have tzh : q = 0 → finTE p (nt q) (e - (0 : Nat) + dr) ≤ limH f := fun h => by
    have hn0 : (nt q).length ≤ 1 := canon_le _ cq 1 (by omega) (by rw [vq, h]; decide)
    have := q3 h
    unfold finTE
    rw [if_neg (by omega)]
    omega
  generalize finT p (nt q) = D3 at *
  generalize finTE p (nt q) (e - (0 : Nat) + dr) = e3 at *
  obtain ⟨r1, r2, r3, r4⟩ := fin3_right lost D3 e3 want (limL f) (limH f) p t1 t2 te (fun h => t3 (hH0 (q2 h)))
  have hE : Hdg (fin3D lost D3 e3 want (limL f) (limH f) p) ∨ fin3E lost D3 e3 want (limL f) (limH f) p ≤ limH f := by
    cases lost with
    | false => exact .inl (r4 rfl)
    | true =>
      by_cases h : q = 0
      · exact .inr (tzh h)
      · exact .inl (t3 (hH0 h))
  have := fin5_right f hf mode neg _ _ (finF lost (ds.length + e) (limL f) p) r1 (by rw [hP]; exact r2) r3 hE
  rw [hP] at this
  exact this
/-- What Finish tells is right, nought or not. -/
theorem finD_right (f : Int) (hf : f = 64 ∨ f = 128) (mode : Int) (neg : Bool) (ds : List Int) (e want : Int) (hc : Canon ds) (hl : ds.length ≤ 200) :
    numB f (finD f mode neg ds e false want).1 neg (finD f mode neg ds e false want).2.1 (finD f mode neg ds e false want).2.2.1 = true := by
  unfold finD
  by_cases h : ds = [0]
  · rw [if_pos h]
    have hp : limP f ≠ 0 ∧ 1 ≤ limP f ∧ limL f ≤ limH f := by rcases hf with rfl | rfl <;> decide
    have hn : natB (limP f) { data := #[48] } = true := by
      have := natB_tx (limP f) [0] ⟨fun d hd => by simp at hd; omega, by simp, .inl rfl⟩ (by simp; omega)
      have et : tx [0] = { data := #[48] } := by apply ByteArray.ext; rw [tx_data]; rfl
      rw [et] at this
      exact this
    show numB f 1 neg (min (limH f) (max (limL f) want)) { data := #[48] } = true
    unfold numB
    rw [if_neg hp.1, if_pos rfl, hn]
    have h1 : limL f ≤ min (limH f) (max (limL f) want) := by omega
    have h2 : min (limH f) (max (limL f) want) ≤ limH f := by omega
    simp [h1, h2]
  · rw [if_neg h]
    exact finN_right f hf mode neg ds e want hc h hl
end Go.Proofs.YtnkoeidolmiheaaGreatDoor
namespace Go.Proofs.YtnkoeidolmiheaaGreatDoor
set_option linter.unusedVariables false
set_option maxRecDepth 100000
/-- v with the exponent e stands for as much as v' with e'. -/
def SV (v e v' e' : Int) : Prop := (e ≤ e' ∧ v = v' * 10 ^ (e' - e).toNat) ∨ (e' ≤ e ∧ v' = v * 10 ^ (e - e').toNat)
theorem SV.refl (v e : Int) : SV v e v e := .inl ⟨Int.le_refl _, by simp⟩
theorem SV.symm {v e v' e' : Int} (h : SV v e v' e') : SV v' e' v e := h.elim .inr .inl
theorem sv_at {v e v' e' : Int} (h : SV v e v' e') (M : Int) (h1 : M ≤ e) (h2 : M ≤ e') : v * 10 ^ (e - M).toNat = v' * 10 ^ (e' - M).toNat := by
  rcases h with ⟨h, rfl⟩ | ⟨h, rfl⟩
  · rw [Int.mul_assoc, ← Int.pow_add, show (e' - e).toNat + (e - M).toNat = (e' - M).toNat by omega]
  · rw [Int.mul_assoc, ← Int.pow_add, show (e - e').toNat + (e' - M).toNat = (e - M).toNat by omega]
theorem pow_cancel {a b : Int} {k : Nat} (h : a * 10 ^ k = b * 10 ^ k) : a = b := Int.eq_of_mul_eq_mul_right (Int.ne_of_gt (ten_pos k)) h
theorem sv_of {v e v' e' : Int} (M : Int) (h1 : M ≤ e) (h2 : M ≤ e') (h : v * 10 ^ (e - M).toNat = v' * 10 ^ (e' - M).toNat) : SV v e v' e' := by
  by_cases c : e ≤ e'
  · refine .inl ⟨c, pow_cancel (k := (e - M).toNat) ?_⟩
    rw [h, Int.mul_assoc, ← Int.pow_add, show (e' - e).toNat + (e - M).toNat = (e' - M).toNat by omega]
  · refine .inr ⟨by omega, pow_cancel (k := (e' - M).toNat) ?_⟩
    rw [← h, Int.mul_assoc, ← Int.pow_add, show (e - e').toNat + (e' - M).toNat = (e - M).toNat by omega]
theorem SV.trans {v e v' e' v'' e'' : Int} (h : SV v e v' e') (g : SV v' e' v'' e'') : SV v e v'' e'' := by
  have a := sv_at h (min e (min e' e'')) (by omega) (by omega)
  have b := sv_at g (min e (min e' e'')) (by omega) (by omega)
  exact sv_of (min e (min e' e'')) (by omega) (by omega) (a.trans b)
theorem sv_shift (v e : Int) (k : Nat) : SV (v * 10 ^ k) e v (e + k) := .inl ⟨by omega, by rw [show (e + (k : Int) - e).toNat = k by omega]⟩
/-- Noughts at the end taken away. -/
theorem take_zeros (D : List Int) (A : Nat) (hA : A ≤ D.length) (h : ∀ i, i < A → D.getD (D.length - 1 - i) 0 = 0) : D = D.take (D.length - A) ++ List.replicate A 0 := by
  apply List.ext_getElem?
  intro i
  by_cases h1 : i < D.length - A
  · rw [List.getElem?_append_left (by rw [List.length_take]; omega), List.getElem?_take_of_lt h1]
  · rw [List.getElem?_append_right (by rw [List.length_take]; omega), List.length_take]
    by_cases h2 : i < D.length
    · rw [List.getElem?_replicate_of_lt (by omega)]
      have := h (D.length - 1 - i) (by omega)
      rw [show D.length - 1 - (D.length - 1 - i) = i by omega] at this
      rw [List.getD, List.getElem?_eq_getElem h2] at this
      rw [List.getElem?_eq_getElem h2]
      exact congrArg some this
    · rw [List.getElem?_eq_none (by omega), List.getElem?_eq_none (by rw [List.length_replicate]; omega)]
/-- The exponent as near to the wanted one as it may be: the value stays. -/
theorem fin3_value (D : List Int) (e want low high : Int) (p : Nat) (hp : 0 < D.length) : SV (vl (fin3D false D e want low high p)) (fin3E false D e want low high p) (vl D) e := by
  unfold fin3D fin3E
  rw [if_neg (by decide), if_neg (by decide)]
  have hA := take_zeros D (fA D e want high) (Nat.le_of_lt (fA_len D e want high hp)) (fun i hi => (fA_more D e want high i hi).2.2.2)
  generalize fA D e want high = A at *
  rw [vl_noughts]
  have hv : vl D = vl (D.take (D.length - A)) * 10 ^ A := by
    have := congrArg vl hA
    rw [vl_noughts] at this
    exact this
  generalize D.take (D.length - A) = T at *
  rw [hv]
  generalize fB _ p (e + (A : Int)) want low = B
  have s1 := sv_shift (vl T) (e + A - B) B
  have s2 := sv_shift (vl T) e A
  rw [show e + (A : Int) - B + B = e + A by omega] at s1
  exact s1.trans s2.symm
theorem fin3_grow (D : List Int) (e want low high : Int) (p : Nat) (hp : 0 < D.length) : 0 < (fin3D false D e want low high p).length := by
  unfold fin3D
  rw [if_neg (by decide), List.length_append, List.length_take, List.length_replicate]
  have := fA_len D e want high hp
  omega
/-- WHAT THE FORMAT CAN TELL IS TOLD. -/
theorem finN_exact (f : Int) (hf : f = 64 ∨ f = 128) (mode : Int) (neg : Bool) (ds : List Int) (e want : Int) (hc : Canon ds) (hz : ds ≠ [0]) (hl : ds.length ≤ 200) (d' : List Int) (e' : Int) (hc' : Canon d') (hz' : d' ≠ [0]) (hl' : d'.length ≤ (limP f).toNat) (he' : limL f ≤ e') (hh' : e' ≤ limH f) (hsv : SV (vl ds) e (vl d') e') :
    ∃ D E, finN (limP f).toNat (limL f) (limH f) mode neg ds e false want = (1, E, tx D, 0) ∧ Canon D ∧ SV (vl D) E (vl ds) e ∧ E ≤ limH f := by
  have hP : 2 ≤ (limP f).toNat ∧ (limP f).toNat ≤ 34 := by rcases hf with rfl | rfl <;> decide
  have hlh : limL f ≤ limH f := by rcases hf with rfl | rfl <;> decide
  generalize (limP f).toNat = P at *
  generalize limL f = low at *
  generalize limH f = high at *
  have lo := canon_lo ds hc hz
  have hi := (vl_bd ds hc.1).2
  have lo' := canon_lo d' hc' hz'
  have hi' := (vl_bd d' hc'.1).2
  have n1 := hc.2.1
  have n1' := hc'.2.1
  have v1 : 1 ≤ vl ds := by have := ten_pos (ds.length - 1); omega
  obtain ⟨dr, hdr⟩ : ∃ dr, finDr P ds.length low e = dr := ⟨_, rfl⟩
  -- how long the digits are
  have hlens : dr = 0 ∨ (e < e' ∧ (dr : Int) ≤ e' - e ∧ ds.length = d'.length + (e' - e).toNat) := by
    rcases Nat.eq_zero_or_pos dr with h0 | h0
    · exact .inl h0
    · right
      rcases hsv with ⟨h, hv⟩ | ⟨h, hv⟩
      · have hlen := len_more d' ds hc' hz' hc (e' - e).toNat 0 (by rw [hv]; omega) (by decide) (ten_pos _)
        unfold finDr at hdr
        omega
      · exfalso
        have hlen := len_more ds d' hc hz hc' (e - e').toNat 0 (by rw [hv]; omega) (by decide) (ten_pos _)
        unfold finDr at hdr
        omega
  have hdvd : ∃ q, vl ds = q * 10 ^ dr ∧ 1 ≤ q := by
    rcases hlens with rfl | ⟨h1, h2, h3⟩
    · exact ⟨vl ds, by simp, v1⟩
    · rcases hsv with ⟨h, hv⟩ | ⟨h, hv⟩
      · refine ⟨vl d' * 10 ^ ((e' - e).toNat - dr), ?_, ?_⟩
        · rw [hv, Int.mul_assoc, ← Int.pow_add, show (e' - e).toNat - dr + dr = (e' - e).toNat by omega]
        · have h1' : 1 ≤ vl d' := by have := ten_pos (d'.length - 1); omega
          have := Int.mul_le_mul_of_nonneg_right h1' (Int.le_of_lt (ten_pos ((e' - e).toNat - dr)))
          have := ten_pos ((e' - e).toNat - dr)
          omega
      · omega
  obtain ⟨q, hq, q1⟩ := hdvd
  have hdr2 : dr ≤ 200 := by rcases hlens with h | ⟨h1, h2, h3⟩ <;> omega
  have hmod : vl ds % 10 ^ dr = 0 := by rw [hq]; exact Int.mul_emod_left _ _
  have hdiv : vl ds / 10 ^ dr = q := by rw [hq]; exact Int.mul_ediv_cancel _ (Int.ne_of_gt (ten_pos dr))
  have hj : finJ P ds.length false = 0 := by unfold finJ; simp
  have hL : finLs (vl ds) dr false = false := by
    unfold finLs rndL
    rw [if_neg (by omega), hmod]; rfl
  have hV : finV mode neg (vl ds) dr false = q := by
    unfold finV
    rw [if_neg (by omega)]
    unfold rndV rndU
    have hU : upB mode neg (halfI (vl ds % 10 ^ dr) (10 ^ dr) false dr) (rndL (vl ds) dr false) (vl ds / 10 ^ dr) = false := by
      have hr : rndL (vl ds) dr false = false := by unfold rndL; rw [hmod]; rfl
      have hh : halfI (vl ds % 10 ^ dr) (10 ^ dr) false dr = -1 := by
        unfold halfI
        rw [hmod]
        by_cases c : dr = 0
        · rw [if_pos c]
        · rw [if_neg c, if_pos (by have := ten_pos dr; omega)]
      rw [hr, hh]
      unfold upB upO
      by_cases m1 : mode = 1
      · rw [if_pos m1]; rfl
      · rw [if_neg m1]
        by_cases m3 : mode = 3
        · rw [if_pos m3]; rfl
        · rw [if_neg m3]
          by_cases m4 : mode = 4
          · rw [if_pos m4]; rfl
          · rw [if_neg m4]
            by_cases m5 : mode = 5
            · rw [if_pos m5]; rfl
            · rw [if_neg m5]
    rw [hU, hdiv]; simp
  have hqb : q < 10 ^ (ds.length - dr) ∧ dr < ds.length := by
    have hdl : dr < ds.length := by
      rcases hlens with h | ⟨h1, h2, h3⟩ <;> omega
    refine ⟨?_, hdl⟩
    have : q * 10 ^ dr < 10 ^ (ds.length - dr) * 10 ^ dr := by
      rw [← hq, ← Int.pow_add, show ds.length - dr + dr = ds.length by omega]; exact hi
    exact Int.lt_of_mul_lt_mul_right this (Int.le_of_lt (ten_pos dr))
  obtain ⟨cD, vD⟩ := nt_spec q (by omega) (Int.lt_of_lt_of_le hqb.1 (pow_mono _ _ (by omega)))
  obtain ⟨D, hD⟩ : ∃ D, nt q = D := ⟨_, rfl⟩
  rw [hD] at cD vD
  have hDl : D.length ≤ ds.length - dr := canon_le D cD _ (by omega) (by rw [vD]; exact hqb.1)
  have hDP : D.length ≤ P := by
    have : ds.length - dr ≤ P := by rw [← hdr]; unfold finDr; omega
    omega
  have hlowD : low ≤ e + dr := by rw [← hdr]; unfold finDr; omega
  have hHd : Hdg D := hdg_of D cD (by omega)
  unfold finN
  simp only [hj, Nat.add_zero, Int.pow_zero, Int.mul_one]
  rw [show e - ((0 : Nat) : Int) = e by simp, hdr, hL, hV, hD]
  have hT : finT P D = D := by unfold finT; rw [if_neg (by omega)]
  have hTE : finTE P D (e + dr) = e + dr := by unfold finTE; rw [if_neg (by omega)]
  rw [hT, hTE]
  have sv0 : SV (vl D) (e + dr) (vl ds) e := by
    rw [vD, hq]
    exact (sv_shift q e dr).symm
  have sv3 := (fin3_value D (e + dr) want low high P cD.2.1).trans sv0
  obtain ⟨r1, r2, r3, r4⟩ := fin3_right false D (e + dr) want low high P cD hDP hlowD (fun _ => hHd)
  generalize fin3D false D (e + dr) want low high P = D3 at *
  generalize fin3E false D (e + dr) want low high P = e3 at *
  have hF : finF false ((ds.length : Int) + e) low P = 0 := by unfold finF; rw [if_neg (by decide)]
  rw [hF]
  -- there is room below the greatest exponent
  have hroom : fin4E D3 e3 high P ≤ high := by
    unfold fin4E fC
    by_cases c : e3 ≤ high
    · omega
    · have s := sv3.trans hsv
      have hH3 : Hdg D3 := r4 rfl
      have hz3 : D3 ≠ [0] := fun h => by rw [h] at hH3; exact hH3.2.2 rfl
      rcases s with ⟨h, hv⟩ | ⟨h, hv⟩
      · omega
      · have := len_more D3 d' r1 hz3 hc' (e3 - e').toNat 0 (by rw [hv]; omega) (by decide) (ten_pos _)
        omega
  unfold fin5
  rw [if_pos hroom]
  refine ⟨fin4D D3 e3 high P, fin4E D3 e3 high P, rfl, ?_, ?_, hroom⟩
  · unfold fin4D; exact ((r4 rfl).zeros _).canon
  · unfold fin4D fin4E
    rw [vl_noughts]
    have s1 := sv_shift (vl D3) (e3 - (fC D3.length P e3 high : Int)) (fC D3.length P e3 high)
    rw [show e3 - (fC D3.length P e3 high : Int) + (fC D3.length P e3 high : Int) = e3 by omega] at s1
    exact s1.trans sv3
end Go.Proofs.YtnkoeidolmiheaaGreatDoor
