/-
  Plain facts: a result that the format can tell is finished exactly, with no flag.
-/
import Derived.Test.YteofommckgeemaaGreatDoorSps
import Derived.Test.YteofommckgeemaaGreatDoorFinA
import Derived.Test.YteofommckgeemaaGreatDoorNatS
import Derived.Test.YteofommckgeemaaGreatDoorRni
import Derived.Test.YteofommckgeemaaGreatDoorMuPs
import Derived.Test.YteofommckgeemaaGreatDoorSmn

namespace Go.Proofs.YteofommckgeemaaGreatDoor
set_option linter.unusedVariables false
set_option maxRecDepth 100000
/-- Digits with no nought ahead. -/
def Hdg (D : List Int) : Prop := Dec D ∧ 0 < D.length ∧ D.headD 0 ≠ 0
theorem Hdg.canon {D : List Int} (h : Hdg D) : Canon D := ⟨h.1, h.2.1, .inr h.2.2⟩
theorem Hdg.take {D : List Int} (h : Hdg D) (k : Nat) (hk : 0 < k) : Hdg (D.take k) := by
  refine ⟨fun d hd => h.1 d (List.mem_of_mem_take hd), by have := h.2.1; simp; omega, ?_⟩
  cases D with
  | nil => exact absurd h.2.1 (by simp)
  | cons x r => cases k with
    | zero => omega
    | succ k => simpa using h.2.2
theorem Hdg.zeros {D : List Int} (h : Hdg D) (k : Nat) : Hdg (D ++ List.replicate k 0) := by
  refine ⟨fun d hd => ?_, by have := h.2.1; simp; omega, ?_⟩
  · rcases List.mem_append.1 hd with q | q
    · exact h.1 d q
    · rw [List.mem_replicate] at q; omega
  · cases D with
    | nil => exact absurd h.2.1 (by simp)
    | cons x r => simpa using h.2.2
theorem hdg_of (D : List Int) (h : Canon D) (hv : vl D ≠ 0) : Hdg D := by
  refine ⟨h.1, h.2.1, ?_⟩
  rcases h.2.2 with q | q
  · match D, q with
    | [x], _ =>
      show x ≠ 0
      intro h
      subst h
      exact hv (by rfl)
  · exact q
/-- What fin5 tells of digits that are right up to their exponent. -/
theorem fin5_right (f : Int) (hf : f = 64 ∨ f = 128) (mode : Int) (neg : Bool) (D : List Int) (e fl : Int) (hC : Canon D) (hl : D.length ≤ (limP f).toNat) (he : limL f ≤ e) (hH : Hdg D ∨ e ≤ limH f) :
    numB f (fin5 (limP f).toNat (limH f) mode neg D e fl).1 neg (fin5 (limP f).toNat (limH f) mode neg D e fl).2.1 (fin5 (limP f).toNat (limH f) mode neg D e fl).2.2.1 = true := by
  have hp0 : limP f ≠ 0 ∧ 0 < limP f ∧ limL f ≤ limH f := by rcases hf with rfl | rfl <;> decide
  unfold fin5
  split
  · rename_i h1
    show numB f 1 neg (fin4E D e (limH f) (limP f).toNat) (tx (fin4D D e (limH f) (limP f).toNat)) = true
    unfold numB
    rw [if_neg hp0.1, if_pos rfl]
    have hfc : fC D.length (limP f).toNat e (limH f) ≤ (limP f).toNat - D.length ∧ (fC D.length (limP f).toNat e (limH f) : Int) ≤ (e - limH f).toNat := by unfold fC; omega
    have hlen : (fin4D D e (limH f) (limP f).toNat).length = D.length + fC D.length (limP f).toNat e (limH f) := by unfold fin4D; simp
    have hc4 : Canon (fin4D D e (limH f) (limP f).toNat) := by
      unfold fin4D
      rcases hH with q | q
      · exact (q.zeros _).canon
      · have : fC D.length (limP f).toNat e (limH f) = 0 := by unfold fC; omega
        rw [this]; simpa using hC
    have hn := natB_tx (limP f) _ hc4 (by rw [hlen]; omega)
    rw [hn]
    have hlo : limL f ≤ fin4E D e (limH f) (limP f).toNat := by unfold fin4E; omega
    simp [hlo, h1]
  · split
    · show numB f 1 neg (limH f) (tx (List.replicate (limP f).toNat 9)) = true
      unfold numB
      rw [if_neg hp0.1, if_pos rfl]
      have hc9 : Canon (List.replicate (limP f).toNat (9 : Int)) := by
        refine ⟨fun d hd => by rw [List.mem_replicate] at hd; omega, by simp; omega, .inr ?_⟩
        cases hq : (limP f).toNat with
        | zero => omega
        | succ q => simp [List.replicate_succ]
      rw [natB_tx (limP f) _ hc9 (by simp; omega)]
      simp [hp0.2.2]
    · show numB f 2 neg 0 { data := #[] } = true
      unfold numB
      rw [if_neg hp0.1, if_neg (by decide), if_pos rfl, ByteArray.toList_eq]
      rfl
/-- What fin3 makes of digits that are right. -/
theorem fin3_right (lost : Bool) (D : List Int) (e want low high : Int) (p : Nat) (hC : Canon D) (hl : D.length ≤ p) (he : low ≤ e) (hH : lost = false → Hdg D) :
    Canon (fin3D lost D e want low high p) ∧ (fin3D lost D e want low high p).length ≤ p ∧ low ≤ fin3E lost D e want low high p ∧ (lost = false → Hdg (fin3D lost D e want low high p)) := by
  unfold fin3D fin3E
  cases lost with
  | true => exact ⟨hC, hl, he, fun h => by cases h⟩
  | false =>
    have hd := hH rfl
    have hA := fA_len D e want high hC.2.1
    have hB : fB (D.length - fA D e want high) p (e + fA D e want high) want low ≤ p - (D.length - fA D e want high) ∧ fB (D.length - fA D e want high) p (e + fA D e want high) want low ≤ (e + fA D e want high - low).toNat := by unfold fB; omega
    simp only [Bool.false_eq_true, if_false]
    have q := (hd.take (D.length - fA D e want high) (by omega)).zeros (fB (D.length - fA D e want high) p (e + fA D e want high) want low)
    refine ⟨q.canon, ?_, by omega, fun _ => q⟩
    simp
    omega
theorem finT_right (p : Nat) (hp : 1 ≤ p) (D : List Int) (hC : Canon D) (hl : D.length ≤ p + 1) : Canon (finT p D) ∧ (finT p D).length ≤ p ∧ (Hdg D → Hdg (finT p D)) := by
  unfold finT
  split
  · rename_i h
    have hd : Hdg D := ⟨hC.1, hC.2.1, by rcases hC.2.2 with q | q; · omega
                                         · exact q⟩
    have q := hd.take p (by omega)
    exact ⟨q.canon, by simp; omega, fun _ => q⟩
  · exact ⟨hC, by omega, id⟩
/-- What Finish tells of digits with nothing behind them is right. -/
theorem finN_right (f : Int) (hf : f = 64 ∨ f = 128) (mode : Int) (neg : Bool) (ds : List Int) (e want : Int) (hc : Canon ds) (hz : ds ≠ [0]) (hl : ds.length ≤ 200) :
    numB f (finN (limP f).toNat (limL f) (limH f) mode neg ds e false want).1 neg (finN (limP f).toNat (limL f) (limH f) mode neg ds e false want).2.1 (finN (limP f).toNat (limL f) (limH f) mode neg ds e false want).2.2.1 = true := by
  have hp : 1 ≤ (limP f).toNat ∧ (limP f).toNat ≤ 34 ∧ limL f ≤ limH f := by rcases hf with rfl | rfl <;> decide
  have hv := vl_bd ds hc.1
  have hv0 := vl_pos ds hc hz
  have hj : finJ (limP f).toNat ds.length false = 0 := rfl
  unfold finN
  simp only [hj, Nat.add_zero, Int.pow_zero, Int.mul_one]
  have hdr : finDr (limP f).toNat ds.length (limL f) (e - (0 : Nat)) = (max (max 0 ((ds.length : Int) - (limP f).toNat)) (limL f - e)).toNat := by unfold finDr; simp
  rw [hdr]
  generalize hd0 : (max (max 0 ((ds.length : Int) - (limP f).toNat)) (limL f - e)).toNat = dr
  have hep : limL f ≤ e + dr := by omega
  have hdn : (ds.length : Int) - (limP f).toNat ≤ dr := by omega
  have heL : (ds.length : Int) - (limP f).toNat < dr → 0 < dr → e + dr = limL f := by omega
  clear hd0 hdr hj
  generalize hP : (limP f).toNat = p at *
  generalize hq : finV mode neg (vl ds) dr false = q
  generalize hls : finLs (vl ds) dr false = lost
  -- what is rounded
  have hQ : 0 ≤ q ∧ q < 10 ^ (p + 1) ∧ (lost = false → q ≠ 0) ∧ (q = 0 → e + dr = limL f) := by
    have hp1 : (1 : Int) ≤ 10 ^ p := Int.add_one_le_of_lt (ten_pos p)
    have hpp : (10 : Int) ^ (p + 1) = 10 ^ p * 10 := Int.pow_succ ..
    by_cases h2 : 200 < dr
    · unfold finV at hq
      unfold finLs at hls
      rw [if_pos h2] at hq hls
      have hl2 : lost = true := by rw [← hls]; rfl
      have hone : (1 : Int) / 10 ^ 200 = 0 := by decide
      unfold rndV at hq
      rw [hone] at hq
      have h01 : q = 0 ∨ q = 1 := by rw [← hq]; split <;> simp
      refine ⟨by omega, by omega, fun h => (by rw [hl2] at h; cases h), fun _ => heL (by omega) (by omega)⟩
    · unfold finV at hq
      unfold finLs at hls
      rw [if_neg h2] at hq hls
      unfold rndV at hq
      have ht := ten_pos dr
      have hd1 : 0 ≤ vl ds / 10 ^ dr := Int.ediv_nonneg (by omega) (by omega)
      have hd2 : vl ds / 10 ^ dr < 10 ^ p := by
        refine Int.ediv_lt_of_lt_mul ht ?_
        rw [← Int.pow_add]
        exact Int.lt_of_lt_of_le hv.2 (pow_mono _ _ (by omega))
      have h01 : q = vl ds / 10 ^ dr ∨ q = vl ds / 10 ^ dr + 1 := by rw [← hq]; split <;> simp
      refine ⟨by omega, by omega, fun h hq0 => ?_, fun hq0 => ?_⟩
      · rw [← hls] at h
        have hm : vl ds % 10 ^ dr = 0 := by simpa [rndL] using h
        have hz0 : vl ds / 10 ^ dr = 0 := by omega
        have := Int.emod_add_mul_ediv (vl ds) (10 ^ dr)
        rw [hm, hz0] at this
        simp at this
        omega
      · have hz0 : vl ds / 10 ^ dr = 0 := by omega
        have hlt : vl ds < 10 ^ dr := by
          have := Int.emod_add_mul_ediv (vl ds) (10 ^ dr)
          rw [hz0] at this
          have := Int.emod_lt_of_pos (vl ds) ht
          simp at *
          omega
        have hlo := canon_lo ds hc hz
        have : ¬ dr ≤ ds.length - 1 := fun h => by
          have := pow_mono dr (ds.length - 1) h
          omega
        have := hc.2.1
        exact heL (by omega) (by omega)
  obtain ⟨q0, q1, q2, q3⟩ := hQ
  have hq5 : q < 10 ^ 500 := Int.lt_of_lt_of_le q1 (pow_mono _ _ (by omega))
  obtain ⟨cq, vq⟩ := nt_spec q q0 hq5
  have lq : (nt q).length ≤ p + 1 := canon_le _ cq (p + 1) (by omega) (by rw [vq]; exact q1)
  have hH0 : q ≠ 0 → Hdg (nt q) := fun h => hdg_of _ cq (by rw [vq]; exact h)
  obtain ⟨t1, t2, t3⟩ := finT_right p hp.1 (nt q) cq lq
  have te : limL f ≤ finTE p (nt q) (e - (0 : Nat) + dr) := by unfold finTE; split <;> omega
  have tzh : q = 0 → finTE p (nt q) (e - (0 : Nat) + dr) ≤ limH f := fun h => by
    have hn0 : (nt q).length ≤ 1 := canon_le _ cq 1 (by omega) (by rw [vq, h]; decide)
    have := q3 h
    unfold finTE
    rw [if_neg (by omega)]
    omega
  generalize finT p (nt q) = D3 at *
  generalize finTE p (nt q) (e - (0 : Nat) + dr) = e3 at *
  obtain ⟨r1, r2, r3, r4⟩ := fin3_right lost D3 e3 want (limL f) (limH f) p t1 t2 te (fun h => t3 (hH0 (q2 h)))
  have hE : Hdg (fin3D lost D3 e3 want (limL f) (limH f) p) ∨ fin3E lost D3 e3 want (limL f) (limH f) p ≤ limH f := by
    cases lost with
    | false => exact .inl (r4 rfl)
    | true =>
      by_cases h : q = 0
      · exact .inr (tzh h)
      · exact .inl (t3 (hH0 h))
  have := fin5_right f hf mode neg _ _ (finF lost (ds.length + e) (limL f) p) r1 (by rw [hP]; exact r2) r3 hE
  rw [hP] at this
  exact this
/-- What Finish tells is right, nought or not. -/
theorem finD_right (f : Int) (hf : f = 64 ∨ f = 128) (mode : Int) (neg : Bool) (ds : List Int) (e want : Int) (hc : Canon ds) (hl : ds.length ≤ 200) :
    numB f (finD f mode neg ds e false want).1 neg (finD f mode neg ds e false want).2.1 (finD f mode neg ds e false want).2.2.1 = true := by
  unfold finD
  by_cases h : ds = [0]
  · rw [if_pos h]
    have hp : limP f ≠ 0 ∧ 1 ≤ limP f ∧ limL f ≤ limH f := by rcases hf with rfl | rfl <;> decide
    have hn : natB (limP f) { data := #[48] } = true := by
      have := natB_tx (limP f) [0] ⟨fun d hd => by simp at hd; omega, by simp, .inl rfl⟩ (by simp; omega)
      have et : tx [0] = { data := #[48] } := by apply ByteArray.ext; rw [tx_data]; rfl
      rw [et] at this
      exact this
    show numB f 1 neg (min (limH f) (max (limL f) want)) { data := #[48] } = true
    unfold numB
    rw [if_neg hp.1, if_pos rfl, hn]
    have h1 : limL f ≤ min (limH f) (max (limL f) want) := by omega
    have h2 : min (limH f) (max (limL f) want) ≤ limH f := by omega
    simp [h1, h2]
  · rw [if_neg h]
    exact finN_right f hf mode neg ds e want hc h hl
end Go.Proofs.YteofommckgeemaaGreatDoor

namespace Go.Proofs.YteofommckgeemaaGreatDoor
open Go.RowKit
set_option linter.unusedVariables false
set_option maxRecDepth 100000
theorem bz_app (a b : List UInt8) : bz (a ++ b) = bz a ++ bz b := by unfold bz; rw [List.map_append]
theorem ba_list (a b : ByteArray) : (a ++ b).data.toList = a.data.toList ++ b.data.toList := by rw [ByteArray.data_append, Array.toList_append]
theorem txl (ds : List Int) : (tx ds).data.toList = ds.map fun d => UInt8.ofNat (48 + d).toNat := by rw [tx_data]
theorem bz_tx (ds : List Int) (h : Dec ds) : bz (tx ds).data.toList = ds.map (48 + ·) := by
  rw [txl]
  unfold bz
  rw [List.map_map]
  apply List.map_congr_left
  intro d hd
  have := h d hd
  show (((UInt8.ofNat (48 + d).toNat).toNat : Nat) : Int) = 48 + d
  rw [UInt8.toNat_ofNat']
  omega
theorem up_down (ds : List Int) : (ds.map (48 + ·)).map (· - 48) = ds := by
  rw [List.map_map]
  conv => rhs; rw [← List.map_id ds]
  apply List.map_congr_left
  intro d _
  show 48 + d - 48 = d
  omega
theorem dgB_up (d : Int) (h : 0 ≤ d ∧ d ≤ 9) : dgB (48 + d) = true := decide_eq_true (by omega)
theorem pWhl_digits (A : List Int) (h : Dec A) (r D : List Int) : pWhl (A.map (48 + ·) ++ r) D = pWhl r (D ++ A.map (48 + ·)) := by
  induction A generalizing D with
  | nil => rw [List.map_nil, List.nil_append, List.append_nil]
  | cons d A ih =>
    rw [List.map_cons, List.cons_append]
    conv => lhs; unfold pWhl
    rw [if_pos (dgB_up d (h d List.mem_cons_self)), ih (fun x hx => h x (List.mem_cons_of_mem _ hx)), List.append_assoc, List.singleton_append]
theorem pFrc_digits (A : List Int) (h : Dec A) (r D : List Int) (n : Nat) : pFrc (A.map (48 + ·) ++ r) D n = pFrc r (D ++ A.map (48 + ·)) (n + A.length) := by
  induction A generalizing D n with
  | nil => rw [List.map_nil, List.nil_append, List.append_nil]; rfl
  | cons d A ih =>
    rw [List.map_cons, List.cons_append]
    conv => lhs; unfold pFrc
    rw [if_pos (dgB_up d (h d List.mem_cons_self)), ih (fun x hx => h x (List.mem_cons_of_mem _ hx)), List.append_assoc, List.singleton_append, List.length_cons, Nat.add_right_comm, Nat.add_assoc]
theorem pExp_digits (A : List Int) (h : Dec A) (D : List Int) (n : Nat) (ng : Bool) (P : List Int) : pExp (A.map (48 + ·)) D n ng P = pFin [] D n ng (P ++ A.map (48 + ·)) := by
  induction A generalizing P with
  | nil => rw [List.map_nil, List.append_nil]; rfl
  | cons d A ih =>
    rw [List.map_cons]
    conv => lhs; unfold pExp
    rw [if_pos (dgB_up d (h d List.mem_cons_self)), ih (fun x hx => h x (List.mem_cons_of_mem _ hx)), List.append_assoc, List.singleton_append]
theorem pWhl_mark (t D : List Int) (ht : t = [] ∨ ∃ u, t = 69 :: u) : pWhl t D = pMark t D 0 := by
  rcases ht with rfl | ⟨u, rfl⟩
  · rfl
  · conv => lhs; unfold pWhl
    rw [if_neg (by decide), if_neg (by decide)]
theorem pFrc_mark (t D : List Int) (n : Nat) (ht : t = [] ∨ ∃ u, t = 69 :: u) : pFrc t D n = pMark t D n := by
  rcases ht with rfl | ⟨u, rfl⟩
  · rfl
  · conv => lhs; unfold pFrc
    rw [if_neg (by decide)]
theorem pWhl_pt (A B : List Int) (hA : Dec A) (hB : Dec B) (t : List Int) (ht : t = [] ∨ ∃ u, t = 69 :: u) :
    pWhl (bz (ptT A B).data.toList ++ t) [] = pMark t ((A ++ B).map (48 + ·)) B.length := by
  unfold ptT
  split
  · rename_i h
    subst h
    rw [bz_tx A hA, pWhl_digits A hA, List.nil_append, pWhl_mark t _ ht, List.append_nil]; rfl
  · rw [ba_list, ba_list, bz_app, bz_app, bz_tx A hA, bz_tx B hB, List.append_assoc, List.append_assoc, pWhl_digits A hA, List.nil_append]
    have e : bz ({ data := #[46] } : ByteArray).data.toList = [46] := rfl
    rw [e, List.singleton_append]
    conv => lhs; unfold pWhl
    rw [if_neg (by decide), if_pos rfl, pFrc_digits B hB, pFrc_mark t _ _ ht, Nat.zero_add, List.map_append]
theorem dcL_dec (n : Nat) : Dec (dcL n) := by
  induction n using Nat.strongRecOn with
  | ind n ih =>
    by_cases h : n < 10
    · rw [dcL_one h]; intro d hd; rw [List.mem_singleton.1 hd]; omega
    · rw [dcL_more h]
      intro d hd
      rcases List.mem_append.1 hd with q | q
      · exact ih (n / 10) (by omega) d q
      · rw [List.mem_singleton.1 q]; omega
theorem pe_dcL (n : Nat) : pe ((dcL n).map (48 + ·)) = n := by
  induction n using Nat.strongRecOn with
  | ind n ih =>
    by_cases h : n < 10
    · rw [dcL_one h]
      show 10 * 0 + ((48 + (n : Int)) - 48) = n
      omega
    · rw [dcL_more h, List.map_append, List.map_cons, List.map_nil, pe_more, ih (n / 10) (by omega)]
      omega
/-- A sign and a power's digits behind E. -/
theorem pSgn_pw (x : Int) (hx : -10000 < x ∧ x < 10000) (D : List Int) (n : Nat) :
    ∃ ng P, pSgn (bz (pwT x).data.toList) D n = some (D, n, ng, P) ∧ scE n ng P = x - n := by
  have key : ∀ (m : Nat), m < 10000 → ∀ ng, pExp ((dcL m).map (48 + ·)) D n ng [] = some (D, n, ng, (dcL m).map (48 + ·)) := fun m hm ng => by
    rw [pExp_digits _ (dcL_dec m), List.nil_append]
    unfold pFin
    have h1 := dcL_len m hm
    have h2 := List.length_pos_iff.2 (dcL_ne m)
    rw [if_neg, pEnd, if_pos rfl]
    rintro (q | q)
    · exact dcL_ne m (List.map_eq_nil_iff.1 q)
    · rw [List.length_map] at q; omega
  by_cases h : x < 0
  · have e : bz (pwT x).data.toList = 45 :: (dcL (-x).toNat).map (48 + ·) := by
      unfold pwT
      rw [if_pos h, ba_list, bz_app, bz_tx _ (dcL_dec _)]; rfl
    refine ⟨true, (dcL (-x).toNat).map (48 + ·), ?_, ?_⟩
    · rw [e]
      exact key _ (by omega) true
    · unfold scE
      rw [if_pos rfl, pe_dcL]; omega
  · have e : bz (pwT x).data.toList = 43 :: (dcL x.toNat).map (48 + ·) := by
      unfold pwT
      rw [if_neg h, ba_list, bz_app, bz_tx _ (dcL_dec _)]; rfl
    refine ⟨false, (dcL x.toNat).map (48 + ·), ?_, ?_⟩
    · rw [e]
      exact key _ (by omega) false
    · unfold scE
      rw [if_neg (by decide), pe_dcL]; omega
theorem strip_zpad (m : Nat) (L : List Int) (h : Canon L) : strip (zpad m L) = L := by
  unfold zpad
  rw [strip_noughts _ _ (fun e => by have := h.2.1; rw [e] at this; simp at this), strip_self L h]
/-- The number's text, parsed, is the number. -/
theorem show_parse (e : Int) (L : List Int) (hC : Canon L) (hl : L.length ≤ 34) (he : -6176 ≤ e ∧ e ≤ 6111) :
    ∃ D n ng P, pWhl (bz (fnT e L).data.toList) [] = some (D, n, ng, P) ∧ strip (D.map (· - 48)) = L ∧ scE n ng P = e := by
  unfold fnT
  split
  · rename_i h
    generalize hk : (-e).toNat = k
    have hz := zpad_len (k + 1) L
    have hd := zpad_dec (k + 1) L hC.1
    generalize hn : (zpad (k + 1) L).length - k = n
    have hp := pWhl_pt ((zpad (k + 1) L).take n) ((zpad (k + 1) L).drop n) (fun d hd' => hd d (List.mem_of_mem_take hd')) (fun d hd' => hd d (List.mem_of_mem_drop hd')) [] (.inl rfl)
    rw [List.append_nil, List.take_append_drop] at hp
    have hne : (zpad (k + 1) L).map (48 + ·) ≠ [] := fun q => by
      have := congrArg List.length q
      rw [List.length_map, List.length_nil] at this
      omega
    refine ⟨(zpad (k + 1) L).map (48 + ·), ((zpad (k + 1) L).drop n).length, false, [], ?_, ?_, ?_⟩
    · rw [hp]
      show (if _ = [] then none else pEnd [] _ _ false []) = _
      rw [if_neg hne]
      rfl
    · rw [up_down, strip_zpad _ L hC]
    · have e0 : pe [] = 0 := rfl
      unfold scE
      rw [if_neg (by decide), e0, List.length_drop]
      omega
  · have hb := hC.2.1
    have hT : Dec (L.take 1) := fun d hd' => hC.1 d (List.mem_of_mem_take hd')
    have hD : Dec (L.drop 1) := fun d hd' => hC.1 d (List.mem_of_mem_drop hd')
    obtain ⟨ng, P, h1, h2⟩ := pSgn_pw ((L.length : Int) - 1 + e) (by omega) (L.map (48 + ·)) (L.drop 1).length
    have hne : L.map (48 + ·) ≠ [] := fun q => by
      have := congrArg List.length q
      rw [List.length_map, List.length_nil] at this
      omega
    refine ⟨L.map (48 + ·), (L.drop 1).length, ng, P, ?_, ?_, ?_⟩
    · rw [ba_list, ba_list, bz_app, bz_app, List.append_assoc]
      have e1 : bz ({ data := #[69] } : ByteArray).data.toList = [69] := rfl
      rw [e1, List.singleton_append, pWhl_pt _ _ hT hD _ (.inr ⟨_, rfl⟩), List.take_append_drop]
      show (if _ = [] then none else if (69 : Int) = 69 ∨ (69 : Int) = 101 then pSgn _ _ _ else _) = _
      rw [if_neg hne, if_pos (.inl rfl), h1]
    · rw [up_down, strip_self L hC]
    · rw [h2, List.length_drop]; omega
theorem ptT_head (A B : List Int) (hA : A ≠ []) : ∃ r, (ptT A B).data.toList = UInt8.ofNat (48 + A.headD 0).toNat :: r := by
  cases A with
  | nil => exact absurd rfl hA
  | cons d A =>
    unfold ptT
    split
    · exact ⟨_, by rw [txl]; rfl⟩
    · refine ⟨(A.map fun d => UInt8.ofNat (48 + d).toNat) ++ ({ data := #[46] } : ByteArray).data.toList ++ (tx B).data.toList, ?_⟩
      rw [ba_list, ba_list, txl (d :: A), List.map_cons, List.cons_append, List.cons_append]
      rfl
theorem fnT_head (e : Int) (L : List Int) (hC : Canon L) : ∃ (d : Int) (r : List UInt8), 0 ≤ d ∧ d ≤ 9 ∧ (fnT e L).data.toList = UInt8.ofNat (48 + d).toNat :: r := by
  have hhd : ∀ A : List Int, A ≠ [] → Dec A → 0 ≤ A.headD 0 ∧ A.headD 0 ≤ 9 := fun A hA hd => by
    cases A with
    | nil => exact absurd rfl hA
    | cons d A => exact hd d List.mem_cons_self
  unfold fnT
  split
  · rename_i h
    generalize hk : (-e).toNat = k
    have hz := zpad_len (k + 1) L
    have hd := zpad_dec (k + 1) L hC.1
    have hA : (zpad (k + 1) L).take ((zpad (k + 1) L).length - k) ≠ [] := fun q => by
      have := congrArg List.length q
      rw [List.length_take, List.length_nil] at this
      omega
    obtain ⟨r, hr⟩ := ptT_head _ ((zpad (k + 1) L).drop ((zpad (k + 1) L).length - k)) hA
    obtain ⟨h0, h9⟩ := hhd _ hA (fun d hd' => hd d (List.mem_of_mem_take hd'))
    exact ⟨_, r, h0, h9, hr⟩
  · have hb := hC.2.1
    have hA : L.take 1 ≠ [] := fun q => by
      have := congrArg List.length q
      rw [List.length_take, List.length_nil] at this
      omega
    obtain ⟨r, hr⟩ := ptT_head _ (L.drop 1) hA
    obtain ⟨h0, h9⟩ := hhd _ hA (fun d hd' => hC.1 d (List.mem_of_mem_take hd'))
    refine ⟨_, r ++ ({ data := #[69] } : ByteArray).data.toList ++ (pwT ((L.length : Int) - 1 + e)).data.toList, h0, h9, ?_⟩
    rw [ba_list, ba_list, hr, List.cons_append, List.cons_append]
theorem txs (ds : List Int) : (tx ds).data.toList.length = ds.length := by rw [txl, List.length_map]
theorem ptT_len (A B : List Int) : (ptT A B).data.toList.length ≤ A.length + 1 + B.length := by
  unfold ptT
  split
  · rw [txs]; omega
  · rw [ba_list, ba_list, List.length_append, List.length_append, txs, txs]
    show A.length + 1 + B.length ≤ _
    omega
theorem pwT_len (x : Int) (hx : -10000 < x ∧ x < 10000) : (pwT x).data.toList.length ≤ 5 := by
  unfold pwT
  split
  · have := dcL_len (-x).toNat (by omega)
    rw [ba_list, List.length_append, txs]
    show 1 + _ ≤ 5
    omega
  · have := dcL_len x.toNat (by omega)
    rw [ba_list, List.length_append, txs]
    show 1 + _ ≤ 5
    omega
theorem fnT_len (e : Int) (L : List Int) (hC : Canon L) (hl : L.length ≤ 34) (he : -6176 ≤ e ∧ e ≤ 6111) : (fnT e L).data.toList.length ≤ 100 := by
  have hb := hC.2.1
  unfold fnT
  split
  · rename_i h
    generalize hk : (-e).toNat = k
    have hz := zpad_len (k + 1) L
    have := ptT_len ((zpad (k + 1) L).take ((zpad (k + 1) L).length - k)) ((zpad (k + 1) L).drop ((zpad (k + 1) L).length - k))
    rw [List.length_take, List.length_drop] at this
    omega
  · have h1 := ptT_len (L.take 1) (L.drop 1)
    rw [List.length_take, List.length_drop] at h1
    have h2 := pwT_len ((L.length : Int) - 1 + e) (by omega)
    rw [ba_list, ba_list, List.length_append, List.length_append]
    show _ + 1 + _ ≤ 100
    omega
theorem knK_digit (d : Int) (h0 : 0 ≤ d) (h9 : d ≤ 9) (r : List UInt8) : knK ((UInt8.ofNat (48 + d).toNat :: r).map lowB) = 0 := by
  obtain ⟨c, hc, hc2⟩ : ∃ c : UInt8, c.toNat ≤ 57 ∧ lowB (UInt8.ofNat (48 + d).toNat) = c := by
    refine ⟨_, ?_, rfl⟩
    have e : (UInt8.ofNat (48 + d).toNat).toNat = (48 + d).toNat := by rw [UInt8.toNat_ofNat']; omega
    unfold lowB
    rw [if_neg (by rw [e]; omega), e]
    omega
  have n1 : ∀ x : UInt8, 57 < x.toNat → ∀ u v : List UInt8, ¬ c :: u = x :: v := fun x hx u v q => by
    have := (List.cons.inj q).1
    subst this
    omega
  rw [List.map_cons, hc2]
  unfold knK nmInfinity nmInf nmNan nmSnan
  rw [if_neg (fun q => Or.elim q (n1 _ (by decide) _ _) (n1 _ (by decide) _ _)), if_neg (n1 _ (by decide) _ _), if_neg (n1 _ (by decide) _ _)]
theorem sgn_digit (b : Bool) (d : Int) (h0 : 0 ≤ d) (h9 : d ≤ 9) (r : List UInt8) : sgn ((sgnT b).data.toList ++ UInt8.ofNat (48 + d).toNat :: r) = b ∧ unS ((sgnT b).data.toList ++ UInt8.ofNat (48 + d).toNat :: r) = UInt8.ofNat (48 + d).toNat :: r := by
  have e : (UInt8.ofNat (48 + d).toNat).toNat = (48 + d).toNat := by rw [UInt8.toNat_ofNat']; omega
  have n43 : ¬ UInt8.ofNat (48 + d).toNat = 43 := fun q => by
    rw [q] at e
    have : (48 + d).toNat = 43 := e.symm
    omega
  have n45 : ¬ UInt8.ofNat (48 + d).toNat = 45 := fun q => by
    rw [q] at e
    have : (48 + d).toNat = 45 := e.symm
    omega
  cases b with
  | true => exact ⟨rfl, rfl⟩
  | false =>
    show sgn (UInt8.ofNat (48 + d).toNat :: r) = false ∧ unS (UInt8.ofNat (48 + d).toNat :: r) = _
    rw [sgn_cons, unS_cons, decide_eq_false n45, if_neg (fun q => Or.elim q n43 n45)]
    exact ⟨rfl, rfl⟩
/-- A number that is right is read back from its text, whatever the mode. -/
theorem text_back (k : Int) (b : Bool) (e : Int) (s : ByteArray) (m : Int) (hO : numB 128 k b e s = true) (hm : 1 ≤ m ∧ m ≤ 5) :
    rdR 128 m (shT k b e s).data.toList = .tuple #[rsV k b e s 0, .bool true] ∧ (shT k b e s).size ≤ 200 := by
  have hsh : shT k b e s = sgnT b ++ usT k e s := by unfold shT; rw [hO]; rfl
  have hsz : (shT k b e s).size = (shT k b e s).data.toList.length := Array.length_toList.symm
  rw [hsz]
  rw [hsh]
  rcases right_128 k b e s hO with ⟨rfl, hs, hp, hl, he⟩ | hk
  · have hC : Canon (dl s) := by
      have h := hO
      unfold numB at h
      rw [if_neg (by decide), if_pos rfl] at h
      simp only [Bool.and_eq_true] at h
      exact (natB_dl _ _ h.1).1
    have hus : usT 1 e s = fnT e (dl s) := by
      unfold usT
      rw [if_neg (by decide), if_neg (by decide), if_neg (by decide)]
    rw [hus, ba_list]
    have hlen := fnT_len e (dl s) hC hl he
    obtain ⟨d, r, h0, h9, hr⟩ := fnT_head e (dl s) hC
    obtain ⟨D, n, ng, P, p1, p2, p3⟩ := show_parse e (dl s) hC hl he
    obtain ⟨g1, g2⟩ := sgn_digit b d h0 h9 r
    have hsl : (sgnT b).data.toList.length ≤ 1 := by cases b <;> decide
    have hz : ((sgnT b).data.toList ++ (fnT e (dl s)).data.toList).length ≤ 200 := by rw [List.length_append]; omega
    refine ⟨?_, hz⟩
    unfold rdR
    rw [if_pos ⟨.inr rfl, hm, hz⟩]
    rw [hr] at p1 ⊢
    rw [g1, g2]
    unfold rdSt
    rw [knK_digit d h0 h9 r, if_neg (fun q => q rfl), p1]
    show Value.tuple #[rsD b (finD 128 m b (strip (D.map (· - 48))) (scE n ng P) false (scE n ng P)), .bool true] = _
    rw [p2, p3, finD_self 128 (.inr rfl) m b (dl s) e hC (by show _ ≤ (34 : Int); omega) (by show (-6176 : Int) ≤ _; omega) (by show _ ≤ (6111 : Int); omega), ← hs]
  · have hes : e = 0 ∧ s = { data := #[] } := by
      have h := hO
      unfold numB at h
      rw [if_neg (by decide)] at h
      have he : s.toList.isEmpty = true → s = { data := #[] } := fun q => by
        apply ByteArray.ext
        have := List.isEmpty_iff.1 q
        rw [ByteArray.toList_eq] at this
        exact Array.toList_inj.1 this
      rcases hk with rfl | ⟨rfl, rfl⟩ | ⟨rfl, rfl⟩
      · rw [if_neg (by decide), if_pos rfl] at h
        simp only [Bool.and_eq_true, decide_eq_true_eq] at h
        exact ⟨h.1, he h.2⟩
      · rw [if_neg (by decide), if_neg (by decide), if_pos (by decide)] at h
        simp only [Bool.and_eq_true, decide_eq_true_eq] at h
        exact ⟨h.1, he h.2.1⟩
      · rw [if_neg (by decide), if_neg (by decide), if_pos (by decide)] at h
        simp only [Bool.and_eq_true, decide_eq_true_eq] at h
        exact ⟨h.1, he h.2.1⟩
    obtain ⟨rfl, rfl⟩ := hes
    have nm : ∀ (k : Int) (b : Bool) (l : List UInt8), l.length ≤ 200 → sgn l = b → knK ((unS l).map lowB) = k → k ≠ 0 → (b && decide (k = 2)) = b → rdR 128 m l = .tuple #[rsV k b 0 { data := #[] } 0, .bool true] := fun k b l h1 h2 h3 h4 h5 => by
      unfold rdR
      rw [if_pos ⟨.inr rfl, hm, h1⟩]
      unfold rdSt
      rw [h2, h3, if_pos h4, h5]
    rcases hk with rfl | ⟨rfl, rfl⟩ | ⟨rfl, rfl⟩
    · cases b with
      | false => exact ⟨nm 2 false _ (by decide) rfl (by decide) (by decide) rfl, by decide⟩
      | true => exact ⟨nm 2 true _ (by decide) rfl (by decide) (by decide) rfl, by decide⟩
    · exact ⟨nm 3 false _ (by decide) rfl (by decide) (by decide) rfl, by decide⟩
    · exact ⟨nm 4 false _ (by decide) rfl (by decide) (by decide) rfl, by decide⟩
theorem shT_none (k : Int) (b : Bool) (e : Int) (s : ByteArray) : (shT k b e s = { data := #[] }) ↔ numB 128 k b e s = false := by
  constructor
  · intro h
    cases hO : numB 128 k b e s with
    | false => rfl
    | true =>
      have h1 := (text_back k b e s 1 hO (by decide)).1
      rw [h] at h1
      exact absurd h1 (by
        have : rdR 128 1 ({ data := #[] } : ByteArray).data.toList = .tuple #[rsV 0 false 0 { data := #[] } 0, .bool false] := rfl
        rw [this]
        intro q
        injection q with q
        have := congrArg (fun a : Array Value => a[1]?) q
        simp at this)
  · intro h; unfold shT; rw [h]; rfl
/-- What is read is right in the format, or nothing. -/
theorem rdR_told (f m : Int) (l : List UInt8) : rdR f m l = .tuple #[rsV 0 false 0 { data := #[] } 0, .bool false] ∨ ∃ k b e s F, rdR f m l = .tuple #[rsV k b e s F, .bool true] ∧ numB f k b e s = true := by
  unfold rdR
  split
  · rename_i h
    have hp : limP f ≠ 0 := by rcases h.1 with rfl | rfl <;> decide
    have hun := unS_len l
    unfold rdSt
    split
    · rename_i hk
      refine .inr ⟨_, _, _, _, _, rfl, ?_⟩
      unfold numB
      rw [if_neg hp]
      rcases knK_bd ((unS l).map lowB) with q | q | q | q
      · exact absurd q hk
      · rw [q, if_neg (by decide), if_pos rfl, ByteArray.toList_eq]; rfl
      · rw [q, if_neg (by decide), if_neg (by decide), if_pos (by decide), ByteArray.toList_eq]; cases sgn l <;> rfl
      · rw [q, if_neg (by decide), if_neg (by decide), if_pos (by decide), ByteArray.toList_eq]; cases sgn l <;> rfl
    · cases hx : pWhl (bz (unS l)) [] with
      | none => exact .inl rfl
      | some x =>
        obtain ⟨D, n, ng, P⟩ := x
        have hz : (bz (unS l)).length ≤ 200 := by unfold bz; rw [List.length_map]; omega
        obtain ⟨c1, c2, c3⟩ := prt_fin hx hz
        exact .inr ⟨_, _, _, _, _, rfl, finD_right f h.1 m _ _ _ _ c1 c2⟩
  · exact .inl rfl
end Go.Proofs.YteofommckgeemaaGreatDoor

namespace Go.Proofs.YteofommckgeemaaGreatDoor
set_option linter.unusedVariables false
set_option maxRecDepth 100000
/-- v with the exponent e stands for as much as v' with e'. -/
def SV (v e v' e' : Int) : Prop := (e ≤ e' ∧ v = v' * 10 ^ (e' - e).toNat) ∨ (e' ≤ e ∧ v' = v * 10 ^ (e - e').toNat)
theorem SV.refl (v e : Int) : SV v e v e := .inl ⟨Int.le_refl _, by simp⟩
theorem SV.symm {v e v' e' : Int} (h : SV v e v' e') : SV v' e' v e := h.elim .inr .inl
theorem sv_at {v e v' e' : Int} (h : SV v e v' e') (M : Int) (h1 : M ≤ e) (h2 : M ≤ e') : v * 10 ^ (e - M).toNat = v' * 10 ^ (e' - M).toNat := by
  rcases h with ⟨h, rfl⟩ | ⟨h, rfl⟩
  · rw [Int.mul_assoc, ← Int.pow_add, show (e' - e).toNat + (e - M).toNat = (e' - M).toNat by omega]
  · rw [Int.mul_assoc, ← Int.pow_add, show (e - e').toNat + (e' - M).toNat = (e - M).toNat by omega]
theorem pow_cancel {a b : Int} {k : Nat} (h : a * 10 ^ k = b * 10 ^ k) : a = b := Int.eq_of_mul_eq_mul_right (Int.ne_of_gt (ten_pos k)) h
theorem sv_of {v e v' e' : Int} (M : Int) (h1 : M ≤ e) (h2 : M ≤ e') (h : v * 10 ^ (e - M).toNat = v' * 10 ^ (e' - M).toNat) : SV v e v' e' := by
  by_cases c : e ≤ e'
  · refine .inl ⟨c, pow_cancel (k := (e - M).toNat) ?_⟩
    rw [h, Int.mul_assoc, ← Int.pow_add, show (e' - e).toNat + (e - M).toNat = (e' - M).toNat by omega]
  · refine .inr ⟨by omega, pow_cancel (k := (e' - M).toNat) ?_⟩
    rw [← h, Int.mul_assoc, ← Int.pow_add, show (e - e').toNat + (e' - M).toNat = (e - M).toNat by omega]
theorem SV.trans {v e v' e' v'' e'' : Int} (h : SV v e v' e') (g : SV v' e' v'' e'') : SV v e v'' e'' := by
  have a := sv_at h (min e (min e' e'')) (by omega) (by omega)
  have b := sv_at g (min e (min e' e'')) (by omega) (by omega)
  exact sv_of (min e (min e' e'')) (by omega) (by omega) (a.trans b)
end Go.Proofs.YteofommckgeemaaGreatDoor
