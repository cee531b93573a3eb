/-
  The next number of the program, walked.
-/
import Derived.Test.YtnkoeidolmiheaaGreatDoorSpt
import Derived.Test.YtnkoeidolmiheaaGreatDoorWhj
import Derived.Test.YtnkoeidolmiheaaGreatDoorFnc
import Derived.Test.YtnkoeidolmiheaaGreatDoorSmL
import Derived.Test.YtnkoeidolmiheaaGreatDoorQtl
namespace Go.Proofs.YtnkoeidolmiheaaGreatDoor
set_option linter.unusedVariables false
set_option maxRecDepth 100000
/-- Upward: what is left, and one more above nought, where something goes. -/
theorem nx_rnd_up (neg : Bool) (v : Int) (k : Nat) (h : v % 10 ^ k ≠ 0) : rndV 4 neg v k false = v / 10 ^ k + (if neg then 0 else 1) := by
  have e : rndU 4 neg v k false = !neg := by
    unfold rndU upB upO
    rw [if_neg (show ¬ (4 : Int) = 1 by decide), if_neg (show ¬ (4 : Int) = 3 by decide), if_pos rfl]
    unfold rndL
    rw [decide_eq_true h]
    cases neg <;> rfl
  unfold rndV
  rw [e]
  cases neg <;> rfl
theorem nx_finN_up (P : Nat) (low high : Int) (neg : Bool) (ds : List Int) (e want : Int) (dr : Nat) (hdr : finDr P ds.length low e = dr) (h2 : dr ≤ 200) (hl : vl ds % 10 ^ dr ≠ 0) :
    finN P low high 4 neg ds e false want = fin5 P high 4 neg (finT P (nt (vl ds / 10 ^ dr + (if neg then 0 else 1)))) (finTE P (nt (vl ds / 10 ^ dr + (if neg then 0 else 1))) (e + dr)) (finF true (ds.length + e) low P) := by
  have hj : finJ P ds.length false = 0 := by unfold finJ; simp
  have hL : finLs (vl ds) dr false = true := by
    unfold finLs
    rw [if_neg (by omega)]
    unfold rndL
    rw [decide_eq_true hl]; rfl
  have hV : finV 4 neg (vl ds) dr false = vl ds / 10 ^ dr + (if neg then 0 else 1) := by
    unfold finV
    rw [if_neg (by omega), nx_rnd_up neg (vl ds) dr hl]
  unfold finN
  simp only [hj, Nat.add_zero, Int.pow_zero, Int.mul_one]
  rw [show e - ((0 : Nat) : Int) = e by simp, hdr, hL, hV]
  unfold fin3D fin3E
  rw [if_pos rfl, if_pos rfl]
/-- No noughts come. -/
theorem fin5_in (P : Nat) (high : Int) (neg : Bool) (D : List Int) (e fl : Int) (he : e ≤ high) : fin5 P high 4 neg D e fl = (1, e, tx D, fl) := by
  have hc : fC D.length P e high = 0 := by unfold fC; omega
  unfold fin5 fin4E fin4D
  rw [hc]
  simp only [List.replicate_zero, List.append_nil]
  rw [if_pos (by omega)]
  simp
theorem fin5_out (P : Nat) (high : Int) (D : List Int) (e fl : Int) (he : ¬ e ≤ high) (hl : P ≤ D.length) : fin5 P high 4 false D e fl = (2, 0, { data := #[] }, 20) := by
  have hc : fC D.length P e high = 0 := by unfold fC; omega
  unfold fin5 fin4E fin4D
  rw [hc]
  rw [if_neg (by omega), if_neg (by decide)]
/-- How many noughts come behind the digits of a number for its next one. -/
def nxJ (P L : Nat) (e low : Int) : Nat := min (P - L) (e - low).toNat
/-- The next number upward, of the digits d above nought, below nought. -/
def nxPos (P : Nat) (low high : Int) (d : List Int) (e : Int) : Int × Int × ByteArray :=
  let D := nt (vl d * 10 ^ nxJ P d.length e low + 1)
  if finTE P D (e - nxJ P d.length e low) ≤ high then (1, finTE P D (e - nxJ P d.length e low), tx (finT P D)) else (2, 0, { data := #[] })
def nxNeg (P : Nat) (low : Int) (d : List Int) (e : Int) : Int × Int × ByteArray :=
  let D := nt (vl d * 10 ^ nxJ P d.length e low - 1)
  if D.length < P ∧ low < e - nxJ P d.length e low then (1, e - nxJ P d.length e low - 1, tx (List.replicate P 9)) else (1, e - nxJ P d.length e low, tx D)
theorem div_up (X M : Int) (h : 2 ≤ M) : (X * M + 1) / M = X ∧ (X * M + 1) % M = 1 := by
  have h1 : (X * M + 1) % M = 1 := by
    rw [Int.add_comm, Int.add_mul_emod_self_right]
    exact Int.emod_eq_of_lt (by omega) (by omega)
  refine ⟨?_, h1⟩
  rw [Int.add_comm, Int.add_mul_ediv_right _ _ (by omega), Int.ediv_eq_zero_of_lt (by omega) (by omega)]
  omega
theorem div_dn (X M : Int) (h : 2 ≤ M) : (X * M - 1) / M = X - 1 ∧ (X * M - 1) % M = M - 1 := by
  have e : X * M - 1 = (M - 1) + (X - 1) * M := by rw [Int.sub_mul]; omega
  rw [e]
  refine ⟨?_, ?_⟩
  · rw [Int.add_mul_ediv_right _ _ (by omega), Int.ediv_eq_zero_of_lt (by omega) (by omega)]; omega
  · rw [Int.add_mul_emod_self_right]; exact Int.emod_eq_of_lt (by omega) (by omega)
theorem ten_2 (k : Nat) (h : 1 ≤ k) : (2 : Int) ≤ 10 ^ k := by
  have := pow_mono 1 k h
  rw [Int.pow_one] at this
  omega
theorem pow_pred (n : Nat) (h : 1 ≤ n) : (10 : Int) ^ n = 10 ^ (n - 1) * 10 := by
  obtain ⟨m, rfl⟩ : ∃ m, n = m + 1 := ⟨n - 1, by omega⟩
  rw [show m + 1 - 1 = m by omega]
  exact Int.pow_succ 10 m
section
variable (P : Nat) (low high : Int) (d : List Int) (e : Int) (k : Nat)
theorem fp_pos (hP : 1 ≤ P) (hP2 : P ≤ 34) (hc : Canon d) (hz : d ≠ [0]) (hl : d.length ≤ P) (he : low ≤ e) (hh : e ≤ high) (hk : (k : Int) = (if low ≤ e - P - 1 then (P : Int) + 1 else e - low + 1)) (ds : List Int) (hds : Canon ds) (hv : vl ds = vl d * 10 ^ k + 1) (want : Int) :
    ∃ fl, finN P low high 4 false ds (e - k) false want = ((nxPos P low high d e).1, (nxPos P low high d e).2.1, (nxPos P low high d e).2.2, fl) := by
  have hL1 := hc.2.1
  obtain ⟨j, hj⟩ : ∃ j, nxJ P d.length e low = j := ⟨_, rfl⟩
  have hj1 : j ≤ P - d.length ∧ (j : Int) ≤ e - low ∧ (j = P - d.length ∨ (j : Int) = e - low) := by rw [← hj]; unfold nxJ; omega
  have hk1 : 1 ≤ k ∧ j + 1 ≤ k ∧ k ≤ P + 1 := by
    split at hk <;> omega
  have hlen : ds.length = d.length + k := len_more d ds hc hz hds k 1 hv (by decide) (by have := ten_2 k hk1.1; omega)
  have hdr : finDr P ds.length low (e - k) = k - j := by
    rw [hlen]; unfold finDr
    split at hk <;> omega
  have hp : (10 : Int) ^ k = 10 ^ j * 10 ^ (k - j) := by rw [← Int.pow_add, show j + (k - j) = k by omega]
  obtain ⟨q1, q2⟩ := div_up (vl d * 10 ^ j) (10 ^ (k - j)) (ten_2 _ (by omega))
  have hv2 : vl ds = vl d * 10 ^ j * 10 ^ (k - j) + 1 := by rw [hv, hp, Int.mul_assoc]
  rw [nx_finN_up P low high false ds (e - k) want (k - j) hdr (by omega) (by rw [hv2, q2]; decide), hv2, q1]
  rw [if_neg (by decide)]
  have x1 : e - (k : Int) + ((k - j : Nat) : Int) = e - j := by omega
  rw [x1]
  unfold nxPos
  rw [hj]
  simp only
  obtain ⟨D, hD⟩ : ∃ D, nt (vl d * 10 ^ j + 1) = D := ⟨_, rfl⟩
  rw [hD]
  by_cases hfit : finTE P D (e - j) ≤ high
  · rw [if_pos hfit, fin5_in P high false (finT P D) _ _ hfit]
    exact ⟨_, rfl⟩
  · rw [if_neg hfit, fin5_out P high (finT P D) _ _ hfit (by
      unfold finTE at hfit
      unfold finT
      by_cases c : P < D.length
      · rw [if_pos c, List.length_take]; omega
      · rw [if_neg c] at hfit; omega)]
    exact ⟨_, rfl⟩
theorem nines_is (P : Nat) : Canon (List.replicate (P + 1) 9) ∧ vl (List.replicate (P + 1) 9) = 10 ^ (P + 1) - 1 := by
  have key : ∀ n : Nat, vl (List.replicate n 9) = 10 ^ n - 1 := fun n => by
    induction n with
    | zero => rfl
    | succ n ih =>
      rw [List.replicate_succ', vl_snoc, ih, Int.pow_succ]; omega
  refine ⟨⟨fun x hx => by have := (List.mem_replicate.1 hx).2; omega, by simp, .inr (by simp [List.replicate_succ])⟩, key _⟩
theorem fp_neg (hP : 2 ≤ P) (hP2 : P ≤ 34) (hc : Canon d) (hz : d ≠ [0]) (hl : d.length ≤ P) (he : low ≤ e) (hh : e ≤ high) (hk : (k : Int) = (if low ≤ e - P - 1 then (P : Int) + 1 else e - low + 1)) (ds : List Int) (hds : Canon ds) (hv : vl ds = vl d * 10 ^ k - 1) (want : Int) :
    ∃ fl, finN P low high 4 true ds (e - k) false want = ((nxNeg P low d e).1, (nxNeg P low d e).2.1, (nxNeg P low d e).2.2, fl) := by
  have hL1 := hc.2.1
  obtain ⟨j, hj⟩ : ∃ j, nxJ P d.length e low = j := ⟨_, rfl⟩
  have hj1 : j ≤ P - d.length ∧ (j : Int) ≤ e - low ∧ (j = P - d.length ∨ (j : Int) = e - low) := by rw [← hj]; unfold nxJ; omega
  have hk1 : 1 ≤ k ∧ j + 1 ≤ k ∧ k ≤ P + 1 := by
    split at hk <;> omega
  have lo := canon_lo d hc hz
  have hi := (vl_bd d hc.1).2
  have tk := ten_2 k hk1.1
  have tj := ten_pos j
  have hp : (10 : Int) ^ k = 10 ^ j * 10 ^ (k - j) := by rw [← Int.pow_add, show j + (k - j) = k by omega]
  -- the digits of the difference made plain
  have hq0 : 0 ≤ vl d * 10 ^ j - 1 := by
    have h1 : (1 : Int) ≤ vl d := by have := ten_pos (d.length - 1); omega
    have : 1 * 10 ^ j ≤ vl d * 10 ^ j := Int.mul_le_mul_of_nonneg_right h1 (Int.le_of_lt tj)
    omega
  have hq1 : vl d * 10 ^ j - 1 < 10 ^ (d.length + j) := by
    have : vl d * 10 ^ j < 10 ^ d.length * 10 ^ j := Int.mul_lt_mul_of_pos_right hi tj
    rw [← Int.pow_add] at this
    omega
  obtain ⟨cq, vq⟩ := nt_spec (vl d * 10 ^ j - 1) hq0 (Int.lt_of_lt_of_le hq1 (pow_mono _ _ (by omega)))
  obtain ⟨D, hD⟩ : ∃ D, nt (vl d * 10 ^ j - 1) = D := ⟨_, rfl⟩
  rw [hD] at cq vq
  have hDl : D.length ≤ d.length + j := canon_le D cq _ (by omega) (by rw [vq]; exact hq1)
  unfold nxNeg
  rw [hj]
  simp only
  rw [hD]
  by_cases hpw : vl d = 10 ^ (d.length - 1) ∧ low < e - j
  · -- one and noughts, and there is room below
    obtain ⟨hpw, hlow⟩ := hpw
    have hjP : j = P - d.length := by omega
    have hlen : ds.length = d.length + k - 1 := by
      refine len_of ds hds _ (by omega) ?_ ?_
      · have e1 := pow_pred (d.length + k - 1) (by omega)
        have e2 : vl d * 10 ^ k = 10 ^ (d.length + k - 1) := by rw [hpw, ← Int.pow_add, show d.length - 1 + k = d.length + k - 1 by omega]
        have := ten_pos (d.length + k - 1 - 1)
        rw [hv, e2, e1]; omega
      · have e2 : vl d * 10 ^ k = 10 ^ (d.length + k - 1) := by rw [hpw, ← Int.pow_add, show d.length - 1 + k = d.length + k - 1 by omega]
        rw [hv, e2]; omega
    have hdr : finDr P ds.length low (e - k) = k - j - 1 := by
      rw [hlen]; unfold finDr
      split at hk <;> omega
    have hk2 : 1 ≤ k - j - 1 := by
      split at hk <;> omega
    have hv2 : vl ds = 10 ^ P * 10 ^ (k - j - 1) - 1 := by
      rw [hv, hpw, ← Int.pow_add, ← Int.pow_add, show d.length - 1 + k = P + (k - j - 1) by omega]
    obtain ⟨q1, q2⟩ := div_dn (10 ^ P) (10 ^ (k - j - 1)) (ten_2 _ hk2)
    have t2 := ten_2 _ hk2
    rw [nx_finN_up P low high true ds (e - k) want (k - j - 1) hdr (by omega) (by rw [hv2, q2]; omega), hv2, q1, if_pos rfl, Int.add_zero]
    obtain ⟨P', rfl⟩ : ∃ P', P = P' + 1 := ⟨P - 1, by omega⟩
    have hN : nt (10 ^ (P' + 1) - 1) = List.replicate (P' + 1) 9 := (nt_of _ _ (nines_is P').1 (nines_is P').2 (by rw [List.length_replicate]; omega)).symm
    rw [hN]
    have hT : finT (P' + 1) (List.replicate (P' + 1) 9) = List.replicate (P' + 1) 9 := by unfold finT; rw [if_neg (by rw [List.length_replicate]; omega)]
    have hTE : finTE (P' + 1) (List.replicate (P' + 1) 9) (e - (k : Int) + ((k - j - 1 : Nat) : Int)) = e - j - 1 := by unfold finTE; rw [if_neg (by rw [List.length_replicate]; omega)]; omega
    rw [hT, hTE, fin5_in _ _ _ _ _ _ (by omega)]
    have hcond : D.length < P' + 1 ∧ low < e - (j : Int) := by
      refine ⟨?_, hlow⟩
      have hb : vl D < 10 ^ P' := by
        rw [vq, hpw, ← Int.pow_add, show d.length - 1 + j = P' by omega]; omega
      have := canon_le D cq P' (by omega) hb
      omega
    rw [if_pos hcond]
    exact ⟨_, rfl⟩
  · -- all others
    have hlen : ds.length = d.length + k ∨ (ds.length = d.length + k - 1 ∧ ¬ low < e - j) := by
      by_cases hp1 : vl d = 10 ^ (d.length - 1)
      · right
        refine ⟨?_, fun h => hpw ⟨hp1, h⟩⟩
        refine len_of ds hds _ (by omega) ?_ ?_
        · have e1 := pow_pred (d.length + k - 1) (by omega)
          have e2 : vl d * 10 ^ k = 10 ^ (d.length + k - 1) := by rw [hp1, ← Int.pow_add, show d.length - 1 + k = d.length + k - 1 by omega]
          have := ten_pos (d.length + k - 1 - 1)
          rw [hv, e2, e1]; omega
        · have e2 : vl d * 10 ^ k = 10 ^ (d.length + k - 1) := by rw [hp1, ← Int.pow_add, show d.length - 1 + k = d.length + k - 1 by omega]
          rw [hv, e2]; omega
      · left
        refine len_of ds hds _ (by omega) ?_ ?_
        · have : (10 ^ (d.length - 1) + 1) * 10 ^ k ≤ vl d * 10 ^ k := Int.mul_le_mul_of_nonneg_right (by omega) (by omega)
          rw [Int.add_mul, ← Int.pow_add, show d.length - 1 + k = d.length + k - 1 by omega] at this
          rw [hv]; omega
        · have : vl d * 10 ^ k < 10 ^ d.length * 10 ^ k := Int.mul_lt_mul_of_pos_right hi (by omega)
          rw [← Int.pow_add] at this
          rw [hv]; omega
    have hdr : finDr P ds.length low (e - k) = k - j := by
      unfold finDr
      rcases hlen with h | ⟨h, h2⟩ <;> rw [h] <;> split at hk <;> omega
    have hv2 : vl ds = vl d * 10 ^ j * 10 ^ (k - j) - 1 := by rw [hv, hp, Int.mul_assoc]
    obtain ⟨q1, q2⟩ := div_dn (vl d * 10 ^ j) (10 ^ (k - j)) (ten_2 _ (by omega))
    have t2 := ten_2 (k - j) (by omega)
    rw [nx_finN_up P low high true ds (e - k) want (k - j) hdr (by omega) (by rw [hv2, q2]; omega), hv2, q1, if_pos rfl, Int.add_zero, hD]
    have hT : finT P D = D := by unfold finT; rw [if_neg (by omega)]
    have hTE : finTE P D (e - (k : Int) + ((k - j : Nat) : Int)) = e - j := by unfold finTE; rw [if_neg (by omega)]; omega
    rw [hT, hTE, fin5_in _ _ _ _ _ _ (by omega)]
    have hcond : ¬ (D.length < P ∧ low < e - (j : Int)) := by
      rintro ⟨h1, h2⟩
      have hp1 : vl d ≠ 10 ^ (d.length - 1) := fun h => hpw ⟨h, h2⟩
      have hjP : j = P - d.length := by omega
      have : (10 ^ (d.length - 1) + 1) * 10 ^ j ≤ vl d * 10 ^ j := Int.mul_le_mul_of_nonneg_right (by omega) (by omega)
      rw [Int.add_mul, ← Int.pow_add, show d.length - 1 + j = P - 1 by omega] at this
      have hb := (vl_bd D cq.1).2
      have := pow_mono D.length (P - 1) (by omega)
      omega
    rw [if_neg hcond]
    exact ⟨_, rfl⟩
end
end Go.Proofs.YtnkoeidolmiheaaGreatDoor
namespace Go.Proofs.YtnkoeidolmiheaaGreatDoor
set_option linter.unusedVariables false
set_option maxRecDepth 100000
/-- The next number of a finite one: sign, kind, exponent, digits. -/
def nxX (f : Int) (n : Bool) (e : Int) (d : List Int) : Bool × Int × Int × ByteArray :=
  if d = [0] then (false, 1, limL f, tx [1]) else if n then (true, nxNeg (limP f).toNat (limL f) d e) else (false, nxPos (limP f).toNat (limL f) (limH f) d e)
theorem nt_1 : nt 1 = [1] := (nt_of [1] 1 (canon_one 1 (by decide) (by decide)) rfl (by decide)).symm
theorem lims3 (f : Int) (hf : f = 64 ∨ f = 128) : 2 ≤ (limP f).toNat ∧ (limP f).toNat ≤ 34 ∧ limP f = ((limP f).toNat : Int) ∧ limL f ≤ limH f ∧ -6176 ≤ limL f ∧ limH f ≤ 6111 := by
  rcases hf with rfl | rfl <;> decide
theorem nx_prog (f : Int) (hf : f = 64 ∨ f = 128) (n : Bool) (e : Int) (d : List Int) (hc : Canon d) (hl : d.length ≤ (limP f).toNat) (he : limL f ≤ e) (hh : e ≤ limH f) :
    ∃ fl, fsN f 4 n e (vl d) false (limL f - 1) 1 = (nxX f n e d).1 ∧ fsR f 4 n e (vl d) false (limL f - 1) 1 = ((nxX f n e d).2.1, (nxX f n e d).2.2.1, (nxX f n e d).2.2.2, fl) := by
  obtain ⟨p2, p34, pP, lh, l1, l2⟩ := lims3 f hf
  generalize hP : (limP f).toNat = P at *
  generalize hlo : limL f = low at *
  generalize hhi : limH f = high at *
  unfold nxX fsR fsN
  rw [hP, hlo, hhi]
  by_cases hz : d = [0]
  · subst hz
    rw [if_pos rfl]
    have hs : sfT (limP f) n e (vl [0]) false (low - 1) 1 = (false, low - 1, 1) := by unfold sfT; rw [if_pos (show vl [0] = 0 from rfl)]
    rw [hs]
    simp only
    rw [if_neg (fun h => absurd h.1 (by decide)), nt_1, finD_ne _ _ _ _ _ _ _ (by decide), hP, hlo, hhi]
    rw [nx_finN_up P low high false [1] (low - 1) _ 1 (by unfold finDr; show (max (max 0 (((1 : Nat) : Int) - P)) (low - (low - 1))).toNat = 1; omega) (by decide) (by decide)]
    rw [show vl [1] / 10 ^ 1 + (if false = true then (0 : Int) else 1) = 1 by decide, nt_1]
    have hT : finT P [1] = [1] := by unfold finT; rw [if_neg (by show ¬ P < 1; omega)]
    have hTE : finTE P [1] (low - 1 + ((1 : Nat) : Int)) = low := by unfold finTE; rw [if_neg (by show ¬ P < 1; omega)]; omega
    rw [hT, hTE, fin5_in _ _ _ _ _ _ lh]
    exact ⟨_, rfl, rfl⟩
  · rw [if_neg hz]
    have lo := canon_lo d hc hz
    have hi := (vl_bd d hc.1).2
    have v1 : (1 : Int) ≤ vl d := by have := ten_pos (d.length - 1); omega
    have hL1 := hc.2.1
    obtain ⟨E, hE⟩ : ∃ E, sgE (limP f) e 1 (low - 1) = E := ⟨_, rfl⟩
    have hY : sgY (limP f) e 1 (low - 1) = 1 := by unfold sgY; split <;> rfl
    have hE2 : e - E = (if low ≤ e - P - 1 then (P : Int) + 1 else e - low + 1) := by
      rw [← hE]
      unfold sgE sgF farB
      rw [show (tn 1).size = 1 by rw [tn_tx, nt_1, tx_size]; rfl, pP]
      by_cases c : low ≤ e - P - 1
      · rw [if_pos c, if_pos (by simp only [decide_eq_true_eq]; omega)]; omega
      · rw [if_neg c, if_neg (by simp only [decide_eq_true_eq]; omega)]; omega
    obtain ⟨k, hk⟩ : ∃ k : Nat, (e - E).toNat = k := ⟨_, rfl⟩
    have hk2 : (k : Int) = e - E := by split at hE2 <;> omega
    have hkk : 1 ≤ k ∧ k ≤ P + 1 := by split at hE2 <;> omega
    have hX : sgX (limP f) e (vl d) 1 (low - 1) = vl d * 10 ^ k := by unfold sgX; rw [hE, hk]
    have hs : sfT (limP f) n e (vl d) false (low - 1) 1 = (esN n (vl d * 10 ^ k) false 1, E, esV n (vl d * 10 ^ k) false 1) := by
      unfold sfT
      rw [if_neg (by omega), if_neg (by decide), if_neg (by omega)]
      unfold sgT
      rw [hX, hY, hE]
    rw [hs]
    simp only
    have tk := ten_2 k hkk.1
    have hXb : 2 ≤ vl d * 10 ^ k := by
      have : 1 * 10 ^ k ≤ vl d * 10 ^ k := Int.mul_le_mul_of_nonneg_right v1 (by omega)
      omega
    have hXu : vl d * 10 ^ k < 10 ^ (d.length + k) := by
      have : vl d * 10 ^ k < 10 ^ d.length * 10 ^ k := Int.mul_lt_mul_of_pos_right hi (by omega)
      rw [← Int.pow_add] at this
      exact this
    have hXu2 : (10 : Int) ^ (d.length + k) ≤ 10 ^ 499 := pow_mono _ _ (by omega)
    have h500 : (10 : Int) ^ 500 = 10 ^ 499 * 10 := pow_pred 500 (by decide)
    have h499 := ten_pos 499
    have hEk : E = e - k := by omega
    cases n with
    | false =>
      have e1 : esN false (vl d * 10 ^ k) false 1 = false := by unfold esN; rw [if_pos rfl]
      have e2 : esV false (vl d * 10 ^ k) false 1 = vl d * 10 ^ k + 1 := by unfold esV; rw [if_pos rfl]
      rw [e1, e2, if_neg (by omega)]
      obtain ⟨cS, vS⟩ := nt_spec (vl d * 10 ^ k + 1) (by omega) (by omega)
      have hne : nt (vl d * 10 ^ k + 1) ≠ [0] := fun q => by rw [q] at vS; have : vl [0] = 0 := rfl; omega
      rw [finD_ne _ _ _ _ _ _ _ hne, hP, hlo, hhi, hEk]
      obtain ⟨fl, hfl⟩ := fp_pos P low high d e k (by omega) p34 hc hz hl he hh (by rw [hk2]; exact hE2) _ cS vS (min e (low - 1))
      rw [hfl]
      exact ⟨fl, rfl, rfl⟩
    | true =>
      have e1 : esN true (vl d * 10 ^ k) false 1 = true := by unfold esN; rw [if_neg (by decide), if_neg (by omega)]
      have e2 : esV true (vl d * 10 ^ k) false 1 = vl d * 10 ^ k - 1 := by unfold esV; rw [if_neg (by decide), if_neg (by omega)]
      rw [e1, e2, if_neg (by omega)]
      obtain ⟨cS, vS⟩ := nt_spec (vl d * 10 ^ k - 1) (by omega) (by omega)
      have hne : nt (vl d * 10 ^ k - 1) ≠ [0] := fun q => by rw [q] at vS; have : vl [0] = 0 := rfl; omega
      rw [finD_ne _ _ _ _ _ _ _ hne, hP, hlo, hhi, hEk]
      obtain ⟨fl, hfl⟩ := fp_neg P low high d e k p2 p34 hc hz hl he hh (by rw [hk2]; exact hE2) _ cS vS (min e (low - 1))
      rw [hfl]
      exact ⟨fl, rfl, rfl⟩
end Go.Proofs.YtnkoeidolmiheaaGreatDoor
namespace Go.Proofs.YtnkoeidolmiheaaGreatDoor
open Go.RowKit
set_option linter.unusedVariables false
set_option maxRecDepth 100000
set_option maxRecDepth 100000 in
theorem hairFor_any (f : Int) (hf : f = 64 ∨ f = 128) (w : World) : Calls Tryz.prog 105 #[.int .i64 f] w fun x w' => x = .returned (numV 1 false (limL f - 1) (tn 1)) ∧ Below w.heap.size w w' := by
  have HLm : Hid (∀ X, Calls Tryz.prog 112 #[.int .i64 f] X fun e w' => e = .returned (.tuple #[.int .i64 (limP f), .int .i64 (limL f), .int .i64 (limH f)]) ∧ Below X.heap.size X w') := fun X => iLimits_any f X
  obtain ⟨-, -, -, -, l1, l2⟩ := lims3 f hf
  have hl : limL f ≤ 6111 := by rcases hf with rfl | rfl <;> decide
  have hw : IntKind.i64.wrap (limL f - 1) = limL f - 1 := by rw [IntKind.wrap_i64]; omega
  have ht : tn 1 = { data := #[49] } := by rw [tn_tx, nt_1]; apply ByteArray.ext; rw [tx_data]; rfl
  rw [ht]
  have hbn := build_num 1 false (limL f - 1) { data := #[49] }
  have HZ : Hid (At4r (w.alloc (.cells #[.int .i64 0, .bool false, .int .i64 0, .string { data := #[] }] 25)) w.heap.size (.int .i64 0) (.bool false) (.int .i64 0) (.string { data := #[] }) ∧ Below w.heap.size w (w.alloc (.cells #[.int .i64 0, .bool false, .int .i64 0, .string { data := #[] }] 25))) := ⟨at4r_new w _ _ _ _, (Below.refl _ _).alloc (Nat.le_refl _) _⟩
  clear l1 l2 hl ht
  generalize limP f = PP at *
  generalize limL f = LL at *
  generalize limH f = HH at *
  go_enter Tryz.func105, Tryz.ntmps105
  go_wp2_with fail
  refine (HLm.out _).mono ?_
  rintro x w1 ⟨rfl, hb1⟩
  have HZ1 : Hid (At4r w1 w.heap.size (.int .i64 0) (.bool false) (.int .i64 0) (.string { data := #[] }) ∧ Below w.heap.size w w1) := ⟨HZ.out.1.next hb1, HZ.out.2.trans (hb1.mono HZ.out.2.size)⟩
  clear hb1 HZ HLm
  go_wp2_with (refine wpList_store_row rfl 25 (.tmp 2) (.tmp 14) rfl w.heap.size #[.int .i64 1, .bool false, .int .i64 (LL - 1), .string { data := #[49] }] rfl rfl _ _ HZ1.out.1 (by kernel_rfl) rfl (one4 _ _ _ _) ?_)
  have hP := (HZ1.out.1.row (.int .i64 1) (.bool false) (.int .i64 (LL - 1)) (.string { data := #[49] })).cells
  refine bodyPost_ret (results_num rfl _ _ rfl hP.1 hP.2.1 hP.2.2.1 hP.2.2.2.1) rfl ?_
  exact ⟨rfl, bel_row HZ1.out.2 (Nat.le_refl _) _⟩
theorem farthest_any (f : Int) (hf : f = 64 ∨ f = 128) (fm : Value) (hfm : fm = if f = 64 then .iface 146 (.agg #[]) else .iface 147 (.agg #[])) (neg : Bool) (w : World) : Calls Tryz.prog 104 #[fm, .bool neg] w fun x w' => x = .returned (numV 1 neg (limH f) (tx (List.replicate (limP f).toNat 9))) ∧ Below w.heap.size w w' := by
  rcases hf with rfl | rfl
  · rw [if_pos rfl] at hfm; subst hfm; exact farthest_64 neg w
  · rw [if_neg (by decide)] at hfm; subst hfm; exact farthest_128 neg w
theorem fmtOf_any (f : Int) (hf : f = 64 ∨ f = 128) (w : World) : Calls Tryz.prog 88 #[.int .i64 f] w fun e w' => e = .returned (.tuple #[if f = 64 then .iface 146 (.agg #[]) else .iface 147 (.agg #[]), .bool true]) ∧ w' = w := by
  rcases hf with rfl | rfl
  · exact fmtOf_64 w
  · exact fmtOf_128 w
/-- What is told of a right number that is no NaN. -/
def nuX (f : Int) (k : Int) (n : Bool) (e : Int) (s : ByteArray) : R5o :=
  if k = 2 then (if n then (true, (1, limH f, tx (List.replicate (limP f).toNat 9), 0)) else (false, (2, 0, { data := #[] }, 0)))
  else ((nxX f n e (dl s)).1, ((nxX f n e (dl s)).2.1, (nxX f n e (dl s)).2.2.1, (nxX f n e (dl s)).2.2.2, 0))
theorem inf_is (f : Int) (b : Bool) (e : Int) (s : ByteArray) (h : numB f 2 b e s = true) : e = 0 ∧ s = { data := #[] } := by
  unfold numB at h
  by_cases h0 : limP f = 0
  · rw [if_pos h0] at h; cases h
  rw [if_neg h0, if_neg (by decide), if_pos rfl] at h
  simp only [Bool.and_eq_true, decide_eq_true_eq] at h
  refine ⟨h.1, ?_⟩
  have h2 := h.2
  rw [ByteArray.toList_eq, List.isEmpty_iff] at h2
  apply ByteArray.ext
  exact Array.toList_eq_nil_iff.1 h2
/-- What the closure sees, and its own result. -/
def NuC (X : World) (p : Nat) (f k : Int) (n : Bool) (e : Int) (s : ByteArray) : Prop := X.cell? ⟨p, 0, none⟩ = some (.int .i64 f) ∧ At4r X (p + 1) (.int .i64 k) (.bool n) (.int .i64 e) (.string s) ∧ p < X.heap.size
theorem NuC.next {X X' : World} {p : Nat} {f k : Int} {n : Bool} {e : Int} {s : ByteArray} (h : NuC X p f k n e s) (hb : Below X.heap.size X X') : NuC X' p f k n e s := ⟨(hb.cell (p := ⟨p, 0, none⟩) h.2.2).trans h.1, h.2.1.next hb, Nat.lt_of_lt_of_le h.2.2 hb.size⟩
theorem field_res (k : Int) (b : Bool) (e : Int) (s : ByteArray) (fl : Int) (w : World) : (Instr.field 29 (rsV k b e s fl) 0).run Tryz.prog w = .ok (numV k b e s) w := by kernel_rfl
set_option maxRecDepth 100000 in
set_option maxHeartbeats 1000000 in
theorem next1_any (p : Nat) (f : Int) (k : Int) (n : Bool) (e : Int) (s : ByteArray) (X : World) (hr : numB f k n e s = true) (h3 : k ≠ 3) (h4 : k ≠ 4) (hC : NuC X p f k n e s) :
    Calls Tryz.prog 103 #[.pointer (some ⟨p + 1, 0, none⟩), .pointer (some ⟨p, 0, none⟩)] X fun x w' => (x = .returned (rsD (nuX f k n e s).1 (nuX f k n e s).2) ∨ x = thrown (rsD (nuX f k n e s).1 (nuX f k n e s).2)) ∧ Below X.heap.size X w' := by
  obtain ⟨hf, hs, hk12, h1⟩ := right_two f k n e s hr h3 h4
  have hZ := at5_new X (.int .i64 0) (.bool false) (.int .i64 0) (.string { data := #[] }) (.int .i64 0)
  have hb : Below X.heap.size X (X.alloc (.cells #[.int .i64 0, .bool false, .int .i64 0, .string { data := #[] }, .int .i64 0] 29)) := (Below.refl _ _).alloc (Nat.le_refl _) _
  have HZ : Hid (At5 (X.alloc (.cells #[.int .i64 0, .bool false, .int .i64 0, .string { data := #[] }, .int .i64 0] 29)) X.heap.size (.int .i64 0) (.bool false) (.int .i64 0) (.string { data := #[] }) (.int .i64 0) ∧ Below X.heap.size X (X.alloc (.cells #[.int .i64 0, .bool false, .int .i64 0, .string { data := #[] }, .int .i64 0] 29)) ∧ NuC (X.alloc (.cells #[.int .i64 0, .bool false, .int .i64 0, .string { data := #[] }, .int .i64 0] 29)) p f k n e s) := ⟨hZ, hb, hC.next hb⟩
  clear hZ hb hC
  have HH : Hid (∀ X, Calls Tryz.prog 105 #[.int .i64 f] X fun x w' => x = .returned (numV 1 false (limL f - 1) (tn 1)) ∧ Below X.heap.size X w') := fun X => hairFor_any f hf X
  obtain ⟨c0, ca, -⟩ := HZ.out.2.2
  obtain ⟨q0, q1, q2, q3, -⟩ := ca.cells
  clear ca
  rcases hk12 with rfl | rfl
  · -- finite
    obtain ⟨hc, hl, he, hh⟩ := h1 rfl
    obtain ⟨p2, p34, pP, lh, l1, l2⟩ := lims3 f hf
    have hb := vl_bd (dl s) hc.1
    have hln : (dl s).length ≤ (limP f).toNat := by omega
    obtain ⟨fl, e1, e2⟩ := nx_prog f hf n e (dl s) hc hln he hh
    have hsn : s = tn (vl (dl s)) := by rw [tn_tx, nt_vl (dl s) hc (by omega)]; exact hs
    have HF : Hid (∀ Y, Calls Tryz.prog 87 #[.int .i64 f, .int .i64 4, numV 1 n e s, numV 1 false (limL f - 1) (tn 1)] Y fun x w' => x = .returned (rsV (nxX f n e (dl s)).2.1 (nxX f n e (dl s)).1 (nxX f n e (dl s)).2.2.1 (nxX f n e (dl s)).2.2.2 fl) ∧ Below Y.heap.size Y w') := fun Y => by
      have := finishedSum_fin f 4 hf (by omega) n e (vl (dl s)) false (limL f - 1) 1 (dl s).length 1 Y hb.1 hb.2 (by decide) (by decide) (by have := hc.2.1; omega) (by decide) (by omega) (by omega) (by omega)
      rw [e1, e2, ← hsn] at this
      exact this
    have E : Hid (nuX f 1 n e s = ((nxX f n e (dl s)).1, ((nxX f n e (dl s)).2.1, (nxX f n e (dl s)).2.2.1, (nxX f n e (dl s)).2.2.2, 0))) := by show _ = _; unfold nuX; rw [if_neg (by decide)]
    rw [E.out]
    clear E e1 e2 hsn hb hln p2 p34 pP lh l1 l2 hc hl he hh h1 hs hr h3 h4 hf
    generalize nxX f n e (dl s) = R at *
    obtain ⟨R0, F1, F2, F3⟩ := R
    generalize tn 1 = T1 at *
    generalize limL f - 1 = L1 at *
    have hfr := field_res F1 R0 F2 F3 fl
    have hbr := build_res0 F1 R0 F2 F3
    go_enter Tryz.func103, Tryz.ntmps103
    go_upto_region 4 with fail
    generalize hX0 : X.alloc (.cells #[.int .i64 0, .bool false, .int .i64 0, .string { data := #[] }, .int .i64 0] 29) = X0 at *
    clear hX0
    have HX0 : Hid (Below X0.heap.size X0 X0.drew) := (Below.refl _ _).drew
    refine wp_region_tail (C := fun W => Below X0.heap.size X0 W) 4 (by kernel_rfl) (by kernel_rfl) HX0.out ?_
    simp only [List.take_succ_cons, List.take_zero, List.drop_succ_cons, List.drop_zero]
    repeat (refine wpQuiet_step (fun K hK => ?_); go_simp; first | (refine hK _ ?_; clear hK K) | (apply Exists.intro; refine ⟨fun wx hC => ?_, hK _ ?_⟩; (first | exact rfl | ((with_reducible refine Calls.class_of (HH.out wx) ?_); exact (fun w' hb => bel1 hC hb)) | (have u0 := (HZ.out.2.2.next hC).1; go_simp; exact rfl) | (obtain ⟨u0, u1, u2, u3, u4⟩ := (HZ.out.2.2.next hC).2.1.cells; go_simp; exact rfl)); clear hK K))
    refine wpQuiet_nil ?_
    intro w1 hb1
    have HZ1 : Hid (At5 w1 X.heap.size (.int .i64 0) (.bool false) (.int .i64 0) (.string { data := #[] }) (.int .i64 0) ∧ Below X.heap.size X w1) := ⟨HZ.out.1.below hb1 HZ.out.1.lt, HZ.out.2.1.trans (hb1.mono HZ.out.2.1.size)⟩
    clear hb1 HZ HX0 HH c0 q0 q1 q2 q3
    go_wp2_with fail
    refine (HF.out _).mono ?_
    rintro x w2 ⟨rfl, hb2⟩
    have HZ2 : Hid (At5 w2 X.heap.size (.int .i64 0) (.bool false) (.int .i64 0) (.string { data := #[] }) (.int .i64 0) ∧ Below X.heap.size X w2) := ⟨HZ1.out.1.below hb2 HZ1.out.1.lt, HZ1.out.2.trans (hb2.mono HZ1.out.2.size)⟩
    clear hb2 HZ1 HF
    go_wp2_with (refine wpList_store_row rfl 29 (.tmp 2) (.tmp 28) rfl X.heap.size #[.int .i64 F1, .bool R0, .int .i64 F2, .string F3, .int .i64 0] rfl rfl _ _ HZ2.out.1 (by kernel_rfl) rfl (one5 _ _ _ _ _) ?_)
    have hP := (HZ2.out.1.row (.int .i64 F1) (.bool R0) (.int .i64 F2) (.string F3) (.int .i64 0)).cells
    refine bodyPost_ret (results_res rfl _ _ rfl hP.1 hP.2.1 hP.2.2.1 hP.2.2.2.1 hP.2.2.2.2.1) rfl ?_
    exact ⟨.inl rfl, bel_row HZ2.out.2 (Nat.le_refl _) _⟩
  · -- infinite
    obtain ⟨rfl, rfl⟩ := inf_is f n e s hr
    cases n with
    | true =>
      have HFo : Hid (∀ X, Calls Tryz.prog 88 #[.int .i64 f] X fun e w' => e = .returned (.tuple #[if f = 64 then .iface 146 (.agg #[]) else .iface 147 (.agg #[]), .bool true]) ∧ w' = X) := fun X => fmtOf_any f hf X
      have HFa : Hid (∀ X, Calls Tryz.prog 104 #[if f = 64 then .iface 146 (.agg #[]) else .iface 147 (.agg #[]), .bool true] X fun x w' => x = .returned (numV 1 true (limH f) (tx (List.replicate (limP f).toNat 9))) ∧ Below X.heap.size X w') := fun X => farthest_any f hf _ rfl true X
      have E : Hid (nuX f 2 true 0 { data := #[] } = (true, (1, limH f, tx (List.replicate (limP f).toNat 9), 0))) := rfl
      rw [E.out]
      clear E HH hf h1 hs hr h3 h4
      generalize (if f = 64 then Value.iface 146 (.agg #[]) else .iface 147 (.agg #[])) = FM at *
      generalize tx (List.replicate (limP f).toNat 9) = NN at *
      generalize limH f = HI at *
      have hbr := build_res0 1 true HI NN
      go_enter Tryz.func103, Tryz.ntmps103
      go_wp2_with fail
      refine (HFo.out _).mono ?_
      rintro x w1 ⟨rfl, rfl⟩
      go_wp2_with fail
      refine (HFa.out _).mono ?_
      rintro x w2 ⟨rfl, hb2⟩
      have HZ2 : Hid (At5 w2 X.heap.size (.int .i64 0) (.bool false) (.int .i64 0) (.string { data := #[] }) (.int .i64 0) ∧ Below X.heap.size X w2) := ⟨HZ.out.1.below hb2 HZ.out.1.lt, HZ.out.2.1.trans (hb2.mono HZ.out.2.1.size)⟩
      clear hb2 HZ HFa HFo c0 q0 q1 q2 q3
      go_wp2_with (refine wpList_store_row rfl 29 (.tmp 2) (.tmp 21) rfl X.heap.size #[.int .i64 1, .bool true, .int .i64 HI, .string NN, .int .i64 0] rfl rfl _ _ HZ2.out.1 (by kernel_rfl) rfl (one5 _ _ _ _ _) ?_)
      have hP := (HZ2.out.1.row (.int .i64 1) (.bool true) (.int .i64 HI) (.string NN) (.int .i64 0)).cells
      refine bodyPost_ret (results_res rfl _ _ rfl hP.1 hP.2.1 hP.2.2.1 hP.2.2.2.1 hP.2.2.2.2.1) rfl ?_
      exact ⟨.inl rfl, bel_row HZ2.out.2 (Nat.le_refl _) _⟩
    | false =>
      have hti : tiE 2 (tw2 2 1) (tw2 false false) (tw2 0 (limL f - 1)) (tw2 { data := #[] } (tn 1)) = thrown (rsV 2 false 0 { data := #[] } 0) := by
        simp [tiE, tiX, tiA, tw2]
      have HF : Hid (∀ Y, Calls Tryz.prog 87 #[.int .i64 f, .int .i64 4, numV 2 false 0 { data := #[] }, numV 1 false (limL f - 1) (tn 1)] Y fun x w' => x = thrown (rsV 2 false 0 { data := #[] } 0) ∧ Below Y.heap.size Y w') := fun Y => finishedSum_thrown f 4 2 false 0 { data := #[] } 1 false (limL f - 1) (tn 1) Y _ hti
      have E : Hid (nuX f 2 false 0 { data := #[] } = (false, (2, 0, { data := #[] }, 0))) := rfl
      rw [E.out]
      clear E hti hf h1 hs hr h3 h4
      generalize tn 1 = T1 at *
      generalize limL f - 1 = L1 at *
      go_enter Tryz.func103, Tryz.ntmps103
      go_upto_region 4 with fail
      generalize hX0 : X.alloc (.cells #[.int .i64 0, .bool false, .int .i64 0, .string { data := #[] }, .int .i64 0] 29) = X0 at *
      clear hX0
      have HX0 : Hid (Below X0.heap.size X0 X0.drew) := (Below.refl _ _).drew
      refine wp_region_tail (C := fun W => Below X0.heap.size X0 W) 4 (by kernel_rfl) (by kernel_rfl) HX0.out ?_
      simp only [List.take_succ_cons, List.take_zero, List.drop_succ_cons, List.drop_zero]
      repeat (refine wpQuiet_step (fun K hK => ?_); go_simp; first | (refine hK _ ?_; clear hK K) | (apply Exists.intro; refine ⟨fun wx hC => ?_, hK _ ?_⟩; (first | exact rfl | ((with_reducible refine Calls.class_of (HH.out wx) ?_); exact (fun w' hb => bel1 hC hb)) | (have u0 := (HZ.out.2.2.next hC).1; go_simp; exact rfl) | (obtain ⟨u0, u1, u2, u3, u4⟩ := (HZ.out.2.2.next hC).2.1.cells; go_simp; exact rfl)); clear hK K))
      refine wpQuiet_nil ?_
      intro w1 hb1
      have HZ1 : Hid (Below X.heap.size X w1) := HZ.out.2.1.trans (hb1.mono HZ.out.2.1.size)
      clear hb1 HZ HX0 HH c0 q0 q1 q2 q3
      go_wp2_with fail
      refine (HF.out _).mono ?_
      rintro x w2 ⟨rfl, hb2⟩
      have HZ2 := HZ1.out.trans (hb2.mono HZ1.out.size)
      clear hb2 HZ1 HF
      go_wp2
      exact ⟨rfl, .inr rfl, HZ2⟩
set_option maxRecDepth 100000 in
set_option maxHeartbeats 1000000 in
theorem iNextUp_any (f : Int) (k : Int) (n : Bool) (e : Int) (s : ByteArray) (w : World) (hsa : s.size ≤ 4611686018427387904) :
    Calls Tryz.prog 35 #[.int .i64 f, numV k n e s] w fun x w' => x = .returned (rsD (ofR f 4 1 (fun _ => k) (fun _ => n) (fun _ => e) (fun _ => s) (nuX f k n e s)).1 (ofR f 4 1 (fun _ => k) (fun _ => n) (fun _ => e) (fun _ => s) (nuX f k n e s)).2) ∧ Below w.heap.size w w' := by
  have hmf : ∀ (fn : Fn) (first cap : Array Value) (w : World), (Instr.makeFunc fn first cap).run Tryz.prog w = .ok (.func fn first cap) w := fun _ _ _ _ => rfl
  have HE : ∀ args w, (callFunc 103 args).run Tryz.prog w = .ok (.enter 103 args) w := enters_of Tryz.func103 (by kernel_rfl) rfl
  -- the boxes: the format, the number, the result
  obtain ⟨W, hW⟩ : ∃ W, ((w.alloc (.cells #[.int .i64 f] 2)).alloc (.cells #[.int .i64 k, .bool n, .int .i64 e, .string s] 25)).alloc (.cells #[.int .i64 0, .bool false, .int .i64 0, .string { data := #[] }, .int .i64 0] 29) = W := ⟨_, rfl⟩
  have c1 := new_cell1 w (.int .i64 f) 2
  have z1 := new_size w (.cells #[.int .i64 f] 2)
  have b1 : Below w.heap.size w (w.alloc (.cells #[.int .i64 f] 2)) := (Below.refl _ _).alloc (Nat.le_refl _) _
  generalize hw1 : w.alloc (.cells #[.int .i64 f] 2) = w1 at *
  have h2 := at4r_new w1 (.int .i64 k) (.bool n) (.int .i64 e) (.string s)
  have z2 := new_size w1 (.cells #[.int .i64 k, .bool n, .int .i64 e, .string s] 25)
  have b2 : Below w1.heap.size w1 (w1.alloc (.cells #[.int .i64 k, .bool n, .int .i64 e, .string s] 25)) := (Below.refl _ _).alloc (Nat.le_refl _) _
  generalize hw2 : w1.alloc (.cells #[.int .i64 k, .bool n, .int .i64 e, .string s] 25) = w2 at *
  have h3 := at5_new w2 (.int .i64 0) (.bool false) (.int .i64 0) (.string { data := #[] }) (.int .i64 0)
  have z3 := new_size w2 (.cells #[.int .i64 0, .bool false, .int .i64 0, .string { data := #[] }, .int .i64 0] 29)
  have b3 : Below w2.heap.size w2 (w2.alloc (.cells #[.int .i64 0, .bool false, .int .i64 0, .string { data := #[] }, .int .i64 0] 29)) := (Below.refl _ _).alloc (Nat.le_refl _) _
  rw [hW] at h3 z3 b3
  rw [z1] at h2
  rw [z2, z1] at h3 z3
  have hC0 : NuC w1 w.heap.size f k n e s ∨ True := .inr trivial
  have hcW : NuC W w.heap.size f k n e s := by
    have hq : w2.cell? ⟨w.heap.size, 0, none⟩ = some (.int .i64 f) := (b2.cell (p := ⟨w.heap.size, 0, none⟩) (show w.heap.size < w1.heap.size by omega)).trans c1
    exact NuC.next (X := w2) ⟨hq, h2, by omega⟩ b3
  have hbW : Below w.heap.size w W := b1.trans ((b2.trans (b3.mono b2.size)).mono b1.size)
  have hR := at4r_new W (.int .i64 k) (.bool n) (.int .i64 e) (.string s)
  have hRb : Below W.heap.size W (W.alloc (.cells #[.int .i64 k, .bool n, .int .i64 e, .string s] 25)) := (Below.refl _ _).alloc (Nat.le_refl _) _
  have hN : NRw (W.alloc (.cells #[.int .i64 k, .bool n, .int .i64 e, .string s] 25)) W.heap.size 1 (fun _ => k) (fun _ => n) (fun _ => e) (fun _ => s) := by
    obtain ⟨q0, q1, q2, q3, -⟩ := hR.cells
    intro i hi
    obtain rfl : i = 0 := by omega
    exact ⟨q0, q1, q2, q3⟩
  have HO : Hid (Calls Tryz.prog 46 #[.int .i64 f, .int .i64 4, .func (.func 103) #[] #[.pointer (some ⟨w.heap.size + 1, 0, none⟩), .pointer (some ⟨w.heap.size, 0, none⟩)], .slice (some ⟨W.heap.size, 0, none⟩) 1 1] (W.alloc (.cells #[.int .i64 k, .bool n, .int .i64 e, .string s] 25)) fun x w' => x = .returned (rsD (ofR f 4 1 (fun _ => k) (fun _ => n) (fun _ => e) (fun _ => s) (nuX f k n e s)).1 (ofR f 4 1 (fun _ => k) (fun _ => n) (fun _ => e) (fun _ => s) (nuX f k n e s)).2) ∧ Below (W.alloc (.cells #[.int .i64 k, .bool n, .int .i64 e, .string s] 25)).heap.size (W.alloc (.cells #[.int .i64 k, .bool n, .int .i64 e, .string s] 25)) w') :=
    ofNumbers_any f 4 103 _ HE 1 W.heap.size (fun _ => k) (fun _ => n) (fun _ => e) (fun _ => s) (nuX f k n e s) _ (by decide) (by decide) hR.lt hN (fun i hi => hsa) (fun g1 g2 Y hY => by
      have hr : numB f k n e s = true := by
        unfold rightB at g1
        simp only [Bool.and_eq_true, decide_eq_true_eq] at g1
        exact g1.2 0 (by decide)
      have hn := of_decide_eq_false g2
      exact next1_any w.heap.size f k n e s Y hr (fun c => hn ⟨0, by decide, .inl c⟩) (fun c => hn ⟨0, by decide, .inr c⟩) ((hcW.next hRb).next hY))
  have HZ : Hid (At5 (W.alloc (.cells #[.int .i64 k, .bool n, .int .i64 e, .string s] 25)) (w.heap.size + 2) (.int .i64 0) (.bool false) (.int .i64 0) (.string { data := #[] }) (.int .i64 0) ∧ Below w.heap.size w (W.alloc (.cells #[.int .i64 k, .bool n, .int .i64 e, .string s] 25))) := ⟨h3.below hRb h3.lt, hbW.trans (hRb.mono hbW.size)⟩
  obtain ⟨r0, ra, -⟩ := hcW
  obtain ⟨a0, a1, a2, a3, -⟩ := ra.cells
  rw [z3] at HO
  rw [← hW, ← hw2, ← hw1] at HO HZ r0 a0 a1 a2 a3
  clear hW hw1 hw2 c1 z1 b1 h2 z2 b2 h3 z3 b3 hC0 hbW hR hRb hN ra hsa HE
  generalize ofR f 4 1 (fun _ => k) (fun _ => n) (fun _ => e) (fun _ => s) (nuX f k n e s) = R at *
  obtain ⟨R0, F1, F2, F3, F4⟩ := R
  go_enter Tryz.func35, Tryz.ntmps35
  go_wp2_with fail
  refine HO.out.mono ?_
  rintro x w4 ⟨rfl, hb4⟩
  have HZ1 : Hid (At5 w4 (w.heap.size + 2) (.int .i64 0) (.bool false) (.int .i64 0) (.string { data := #[] }) (.int .i64 0) ∧ Below w.heap.size w w4) := ⟨HZ.out.1.below hb4 HZ.out.1.lt, HZ.out.2.trans (hb4.mono HZ.out.2.size)⟩
  clear hb4 HZ HO r0 a0 a1 a2 a3
  go_wp2_with (refine wpList_store_row rfl 29 (.tmp 4) (.tmp 9) rfl (w.heap.size + 2) #[.int .i64 F1, .bool R0, .int .i64 F2, .string F3, .int .i64 F4] rfl rfl _ _ HZ1.out.1 (by kernel_rfl) rfl (one5 _ _ _ _ _) ?_)
  have hP := (HZ1.out.1.row (.int .i64 F1) (.bool R0) (.int .i64 F2) (.string F3) (.int .i64 F4)).cells
  refine bodyPost_ret (results_res rfl _ _ rfl hP.1 hP.2.1 hP.2.2.1 hP.2.2.2.1 hP.2.2.2.2.1) rfl ?_
  exact ⟨rfl, bel_row HZ1.out.2 (by omega) _⟩
end Go.Proofs.YtnkoeidolmiheaaGreatDoor
