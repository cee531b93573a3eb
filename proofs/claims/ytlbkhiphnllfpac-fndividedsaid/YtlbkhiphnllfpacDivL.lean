/-
  Mended turns of a division are the plain quotient's digits: plain facts for the law on divisions.
-/
import Derived.Test.YtlbkhiphnllfpacDiv
import Derived.Test.YtlbkhiphnllfpacDiv2
import Derived.Test.YtlbkhiphnllfpacDiv3
namespace Go.Proofs.Ytlbkhiphnllfpac
set_option linter.unusedVariables false
set_option maxRecDepth 100000
theorem dgs_at (a d x : Int) (N i : Nat) (h : i < N) : (dgs (tl a d x N)).getD i 0 = dgt a d (ws a d x i) := by
  unfold dgs
  rw [List.getD, List.getElem?_map, tl_at a d x N i h]
  rfl
theorem rests_ws (a d x : Int) (N i : Nat) (h : i ≤ N) : rests d x (dgs (tl a d x N)) i = ws a d x i := by
  induction i with
  | zero => rfl
  | succ i ih =>
    simp only [rests, ws]
    rw [ih (by omega), dgs_at a d x N i (by omega)]
theorem dgs_len (l : List (Int × Int)) : (dgs l).length = l.length := by unfold dgs; simp
theorem lst_tl (a d x : Int) (N : Nat) (h : 0 < N) : lst (tl a d x N) = ws a d x N := by
  unfold lst
  rw [tl_len, List.getD, tl_at a d x N (N - 1) (by omega), show N - 1 + 1 = N by omega]
  rfl
theorem dgs_rng (a d x : Int) (N : Nat) (hd : 0 < d) (a5 : 5 ≤ a) (a9 : a ≤ 9) (x0 : 0 ≤ x) (hx : 9 * x ≤ a * d) : rng (-9) 9 (dgs (tl a d x N)) = true := by
  unfold rng
  rw [List.all_eq_true]
  intro z hz
  obtain ⟨i, hi, e⟩ := List.getElem_of_mem hz
  rw [dgs_len, tl_len] at hi
  have h1 := dgs_at a d x N i hi
  rw [List.getD, List.getElem?_eq_getElem (by rw [dgs_len, tl_len]; exact hi)] at h1
  have h2 : z = dgt a d (ws a d x i) := by rw [← e]; exact h1
  have hs := ws_small a d x hd a5 a9 x0 hx i
  have hf := dgt_fits a d (ws a d x i) hd a5 a9 hs.1 hs.2
  rw [h2]
  simp
  omega
/-- Mended turns are the plain quotient's digits; where they are none, what is left is the divisor. -/
theorem md_same (a d x : Int) (N : Nat) (hN : 1 ≤ N ∧ N ≤ 18) (hd : 1 ≤ d ∧ d ≤ 100000000) (a5 : 5 ≤ a) (a9 : a ≤ 9) (x0 : 0 ≤ x) (hx : 9 * x ≤ a * d) (hxd : x < d) :
    (mok (tl a d x N) d = true → mdL (tl a d x N) d = ql d x N ∧ mdR (tl a d x N) d = qx d x N) ∧ (mok (tl a d x N) d = false → ws a d x N = d ∨ ws a d x N = -d) := by
  have hr := dgs_rng a d x N (by omega) a5 a9 x0 hx
  have hl : (dgs (tl a d x N)).length = N := by rw [dgs_len, tl_len]
  have hls := lst_tl a d x N (by omega)
  have hsm := ws_small a d x (by omega) a5 a9 x0 hx N
  have had : a * d ≤ 9 * d := Int.mul_le_mul_of_nonneg_right a9 (by omega)
  have h3 : l3 (dgs (tl a d x N)) = true := by rw [l3_rng _ (by omega)]; exact hr
  have hok : mok (tl a d x N) d = decide (-d < ws a d x N ∧ ws a d x N < d) := by
    unfold mok
    rw [h3, hls, tl_len, decide_eq_true (show (N ≠ 0 ∧ N ≤ 18) ∧ (1 ≤ d ∧ d ≤ 100000000) by omega)]
    rfl
  constructor
  · intro h
    have hb : -d < ws a d x N ∧ ws a d x N < d := by rw [hok] at h; exact of_decide_eq_true h
    have hfl : flo (dgs (tl a d x N)) = reg (dgs (tl a d x N)) N := by
      unfold flo; rw [fok_yes _ h3 (by omega), hl]; rfl
    have hq := ql_vl d x (by omega) x0 hxd N
    have hqb := qx_bd d x (by omega) x0 hxd N
    have hrw := rests_ws a d x N N (Nat.le_refl _)
    have hm := mended_digits d x (dgs (tl a d x N)) (ql d x N) hr (ql_dec d x (by omega) x0 hxd N) (by rw [hl, ql_len]) (by omega) x0 (qx d x N) (by rw [hl]; exact hq) hqb.1 hqb.2 (by rw [hl, hrw]; exact hb.2) (by rw [hl, hrw]; exact hb.1)
    rw [hl, hrw] at hm
    unfold mdL mdR
    rw [h, hls, hfl]
    simp only [if_true]
    by_cases hw : ws a d x N < 0
    · rw [if_pos hw, if_pos hw]
      exact hm.2 hw
    · rw [if_neg hw, if_neg hw]
      exact hm.1 (by omega)
  · intro h
    rw [hok] at h
    have := of_decide_eq_false h
    omega
end Go.Proofs.Ytlbkhiphnllfpac
