/-
  Plain facts on neighbours: the program's sum with a hair is the next number.
-/
import Derived.Test.YtmndemegiimagatGreatDoorNxp
namespace Go.Proofs.YtmndemegiimagatGreatDoor
set_option linter.unusedVariables false
set_option maxRecDepth 100000
/-- The next number of a finite one: sign, kind, exponent, digits. -/
def nxX (f : Int) (n : Bool) (e : Int) (d : List Int) : Bool × Int × Int × ByteArray :=
  if d = [0] then (false, 1, limL f, tx [1]) else if n then (true, nxNeg (limP f).toNat (limL f) d e) else (false, nxPos (limP f).toNat (limL f) (limH f) d e)
theorem nt_1 : nt 1 = [1] := (nt_of [1] 1 (canon_one 1 (by decide) (by decide)) rfl (by decide)).symm
theorem lims3 (f : Int) (hf : f = 64 ∨ f = 128) : 2 ≤ (limP f).toNat ∧ (limP f).toNat ≤ 34 ∧ limP f = ((limP f).toNat : Int) ∧ limL f ≤ limH f ∧ -6176 ≤ limL f ∧ limH f ≤ 6111 := by
  rcases hf with rfl | rfl <;> decide
theorem nx_prog (f : Int) (hf : f = 64 ∨ f = 128) (n : Bool) (e : Int) (d : List Int) (hc : Canon d) (hl : d.length ≤ (limP f).toNat) (he : limL f ≤ e) (hh : e ≤ limH f) :
    ∃ fl, fsN f 4 n e (vl d) false (limL f - 1) 1 = (nxX f n e d).1 ∧ fsR f 4 n e (vl d) false (limL f - 1) 1 = ((nxX f n e d).2.1, (nxX f n e d).2.2.1, (nxX f n e d).2.2.2, fl) := by
  obtain ⟨p2, p34, pP, lh, l1, l2⟩ := lims3 f hf
  generalize hP : (limP f).toNat = P at *
  generalize hlo : limL f = low at *
  generalize hhi : limH f = high at *
  unfold nxX fsR fsN
  rw [hP, hlo, hhi]
  by_cases hz : d = [0]
  · subst hz
    rw [if_pos rfl]
    have hs : sfT (limP f) n e (vl [0]) false (low - 1) 1 = (false, low - 1, 1) := by unfold sfT; rw [if_pos (show vl [0] = 0 from rfl)]
    rw [hs]
    simp only
    rw [if_neg (fun h => absurd h.1 (by decide)), nt_1, finD_ne _ _ _ _ _ _ _ (by decide), hP, hlo, hhi]
    rw [finN_up P low high false [1] (low - 1) _ 1 (by unfold finDr; show (max (max 0 (((1 : Nat) : Int) - P)) (low - (low - 1))).toNat = 1; omega) (by decide) (by decide)]
    rw [show vl [1] / 10 ^ 1 + (if false = true then (0 : Int) else 1) = 1 by decide, nt_1]
    have hT : finT P [1] = [1] := by unfold finT; rw [if_neg (by show ¬ P < 1; omega)]
    have hTE : finTE P [1] (low - 1 + ((1 : Nat) : Int)) = low := by unfold finTE; rw [if_neg (by show ¬ P < 1; omega)]; omega
    rw [hT, hTE, fin5_in _ _ _ _ _ _ lh]
    exact ⟨_, rfl, rfl⟩
  · rw [if_neg hz]
    have lo := canon_lo d hc hz
    have hi := (vl_bd d hc.1).2
    have v1 : (1 : Int) ≤ vl d := by have := ten_pos (d.length - 1); omega
    have hL1 := hc.2.1
    obtain ⟨E, hE⟩ : ∃ E, sgE (limP f) e 1 (low - 1) = E := ⟨_, rfl⟩
    have hY : sgY (limP f) e 1 (low - 1) = 1 := by unfold sgY; split <;> rfl
    have hE2 : e - E = (if low ≤ e - P - 1 then (P : Int) + 1 else e - low + 1) := by
      rw [← hE]
      unfold sgE sgF farB
      rw [show (tn 1).size = 1 by rw [tn_tx, nt_1, tx_size]; rfl, pP]
      by_cases c : low ≤ e - P - 1
      · rw [if_pos c, if_pos (by simp only [decide_eq_true_eq]; omega)]; omega
      · rw [if_neg c, if_neg (by simp only [decide_eq_true_eq]; omega)]; omega
    obtain ⟨k, hk⟩ : ∃ k : Nat, (e - E).toNat = k := ⟨_, rfl⟩
    have hk2 : (k : Int) = e - E := by split at hE2 <;> omega
    have hkk : 1 ≤ k ∧ k ≤ P + 1 := by split at hE2 <;> omega
    have hX : sgX (limP f) e (vl d) 1 (low - 1) = vl d * 10 ^ k := by unfold sgX; rw [hE, hk]
    have hs : sfT (limP f) n e (vl d) false (low - 1) 1 = (esN n (vl d * 10 ^ k) false 1, E, esV n (vl d * 10 ^ k) false 1) := by
      unfold sfT
      rw [if_neg (by omega), if_neg (by decide), if_neg (by omega)]
      unfold sgT
      rw [hX, hY, hE]
    rw [hs]
    simp only
    have tk := ten_2 k hkk.1
    have hXb : 2 ≤ vl d * 10 ^ k := by
      have : 1 * 10 ^ k ≤ vl d * 10 ^ k := Int.mul_le_mul_of_nonneg_right v1 (by omega)
      omega
    have hXu : vl d * 10 ^ k < 10 ^ (d.length + k) := by
      have : vl d * 10 ^ k < 10 ^ d.length * 10 ^ k := Int.mul_lt_mul_of_pos_right hi (by omega)
      rw [← Int.pow_add] at this
      exact this
    have hXu2 : (10 : Int) ^ (d.length + k) ≤ 10 ^ 499 := pow_mono _ _ (by omega)
    have h500 : (10 : Int) ^ 500 = 10 ^ 499 * 10 := pow_pred 500 (by decide)
    have h499 := ten_pos 499
    have hEk : E = e - k := by omega
    cases n with
    | false =>
      have e1 : esN false (vl d * 10 ^ k) false 1 = false := by unfold esN; rw [if_pos rfl]
      have e2 : esV false (vl d * 10 ^ k) false 1 = vl d * 10 ^ k + 1 := by unfold esV; rw [if_pos rfl]
      rw [e1, e2, if_neg (by omega)]
      obtain ⟨cS, vS⟩ := nt_spec (vl d * 10 ^ k + 1) (by omega) (by omega)
      have hne : nt (vl d * 10 ^ k + 1) ≠ [0] := fun q => by rw [q] at vS; have : vl [0] = 0 := rfl; omega
      rw [finD_ne _ _ _ _ _ _ _ hne, hP, hlo, hhi, hEk]
      obtain ⟨fl, hfl⟩ := fp_pos P low high d e k (by omega) p34 hc hz hl he hh (by rw [hk2]; exact hE2) _ cS vS (min e (low - 1))
      rw [hfl]
      exact ⟨fl, rfl, rfl⟩
    | true =>
      have e1 : esN true (vl d * 10 ^ k) false 1 = true := by unfold esN; rw [if_neg (by decide), if_neg (by omega)]
      have e2 : esV true (vl d * 10 ^ k) false 1 = vl d * 10 ^ k - 1 := by unfold esV; rw [if_neg (by decide), if_neg (by omega)]
      rw [e1, e2, if_neg (by omega)]
      obtain ⟨cS, vS⟩ := nt_spec (vl d * 10 ^ k - 1) (by omega) (by omega)
      have hne : nt (vl d * 10 ^ k - 1) ≠ [0] := fun q => by rw [q] at vS; have : vl [0] = 0 := rfl; omega
      rw [finD_ne _ _ _ _ _ _ _ hne, hP, hlo, hhi, hEk]
      obtain ⟨fl, hfl⟩ := fp_neg P low high d e k p2 p34 hc hz hl he hh (by rw [hk2]; exact hE2) _ cS vS (min e (low - 1))
      rw [hfl]
      exact ⟨fl, rfl, rfl⟩
end Go.Proofs.YtmndemegiimagatGreatDoor
