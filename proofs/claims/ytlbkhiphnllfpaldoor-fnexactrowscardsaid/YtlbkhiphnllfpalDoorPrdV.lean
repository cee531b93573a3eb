/-
  Products reckoned from the low end, a digit going over behind each row; columns and rows make the product: plain facts.
-/
import Derived.Test.YtlbkhiphnllfpalDoorPrdT
namespace Go.Proofs.YtlbkhiphnllfpalDoor
open Go.RowKit
open Ln (ln okB)
set_option linter.unusedVariables false
/-- A word a lane down, a digit come in above. -/
def psh (x d : Int) : Int := x / 16 + d * 16 ^ 15
def pshF (x d : Int) (i : Nat) : Int := if i < 15 then ln x (1 + i) else d
theorem pshF_nine (x d : Int) (kx : okB 0 x = true) (d0 : 0 ≤ d) (d9 : d ≤ 9) : Nine (pshF x d) := fun i hi => by
  unfold pshF; split
  · exact ok_nine x kx (1 + i) (by omega)
  · exact ⟨d0, d9⟩
theorem psh_low (x : Int) (kx : okB 0 x = true) (x0 : 0 ≤ x) (x1 : x ≤ 18446744073709551615) : x / 16 = Sm (fun i => ln x (1 + i)) 15 := by
  have h := Sm_div (ln x) (ok_nine x kx) 1 15 (by omega)
  have e : Sm (ln x) (1 + 15) = x := Sm_word x x0 x1
  rw [e] at h
  simpa using h
theorem psh_Sm (x d : Int) (kx : okB 0 x = true) (x0 : 0 ≤ x) (x1 : x ≤ 18446744073709551615) : psh x d = Sm (pshF x d) 16 := by
  unfold psh
  rw [psh_low x kx x0 x1]
  show _ = Sm (pshF x d) 15 + pshF x d 15 * 16 ^ 15
  have e : Sm (pshF x d) 15 = Sm (fun i => ln x (1 + i)) 15 := Sm_congr _ _ 15 (fun i hi => by unfold pshF; rw [if_pos hi])
  rw [e]; rfl
theorem psh_facts (x d : Int) (kx : okB 0 x = true) (x0 : 0 ≤ x) (x1 : x ≤ 18446744073709551615) (d0 : 0 ≤ d) (d9 : d ≤ 9) :
    okB 0 (psh x d) = true ∧ (0 ≤ psh x d ∧ psh x d ≤ 18446744073709551615) ∧ (0 ≤ ln x 0 ∧ ln x 0 ≤ 9) ∧ 10 * vl (digits 0 (psh x d)) + ln x 0 = vl (digits 0 x) + 10000000000000000 * d := by
  have hn := pshF_nine x d kx d0 d9
  rw [psh_Sm x d kx x0 x1]
  refine ⟨ok_Sm _ hn, Sm_u64 _ hn, ok_nine x kx 0 (by decide), ?_⟩
  rw [digits_Sm _ hn, vl_highsF, pv0 x kx]
  have h1 : pv (pshF x d) 16 = pv (pshF x d) 15 + pshF x d 15 * 10 ^ 15 := rfl
  have h2 : pv (pshF x d) 15 = pv (fun i => ln x (1 + i)) 15 := pv_congr _ _ 15 (fun i hi => by unfold pshF; rw [if_pos hi])
  have h3 : pv (ln x) (1 + 15) = pv (ln x) 1 + 10 ^ 1 * pv (fun i => ln x (1 + i)) 15 := pv_split (ln x) 1 15
  have h4 : pv (ln x) 1 = ln x 0 := by simp [pv]
  have h5 : pshF x d 15 = d := rfl
  rw [h1, h2, h5]
  have h6 : pv (ln x) 16 = ln x 0 + 10 * pv (fun i => ln x (1 + i)) 15 := by rw [h4] at h3; simpa using h3
  rw [h6]
  omega
theorem psh_or (x d : Int) (x0 : 0 ≤ x) (x1 : x ≤ 18446744073709551615) (d0 : 0 ≤ d) (d9 : d ≤ 9) : bits .or .u64 (Ln.down x 1) (Ln.up d 15) = psh x d := by
  have h : Ln.down x 1 = x / 16 := by unfold Ln.down; simp
  rw [h, ← Ln.up_pow]
  have e : (16 : Int) ^ 15 = 1152921504606846976 := by decide
  exact orK (x / 16) d 15 (by omega) (by rw [e]; omega) d0 d9 (by decide)
/-- What the two words hold when k digits of the second have come, which stand for D. -/
def PI (a D : Int) (k : Nat) (H L : Int) : Prop :=
  okB 0 H = true ∧ okB 0 L = true ∧ (0 ≤ H ∧ H ≤ 18446744073709551615) ∧ (0 ≤ L ∧ L ≤ 18446744073709551615) ∧ vl (digits 0 H) ≤ vl (digits 0 a) ∧
    ∃ q, vl (digits 0 L) = q * 10 ^ (16 - k) ∧ vl (digits 0 H) * 10 ^ k + q = vl (digits 0 a) * D
theorem vl0 : vl (digits 0 0) = 0 := by decide +kernel
theorem vl_room (a : Int) (ka : okB 0 a = true) : 0 ≤ vl (digits 0 a) ∧ vl (digits 0 a) < 10000000000000000 := by
  rw [pv0 a ka]; exact pv_room _ (ok_nine a ka)
theorem PI_zero (a : Int) (ka : okB 0 a = true) : PI a 0 0 0 0 := by
  have h0 : okB 0 0 = true := by decide +kernel
  refine ⟨h0, h0, by decide, by decide, ?_, 0, ?_, ?_⟩
  · rw [vl0]; exact (vl_room a ka).1
  · rw [vl0]; simp
  · rw [vl0]; simp
/-- One row more. -/
theorem PI_step (a D : Int) (k : Nat) (H L d : Int) (ka : okB 0 a = true) (hk : k < 16) (d0 : 0 ≤ d) (d9 : d ≤ 9) (h : PI a D k H L) :
    (0 ≤ mulC a d + inI (addC H (mulV a d) false) ∧ mulC a d + inI (addC H (mulV a d) false) ≤ 9) ∧
      PI a (D + d * 10 ^ k) (k + 1) (psh (addV H (mulV a d) false) (mulC a d + inI (addC H (mulV a d) false))) (psh L (ln (addV H (mulV a d) false) 0)) := by
  obtain ⟨kH, kL, bH, bL, hle, q, hq, hs⟩ := h
  have hv := add_value H (mulV a d) false kH (mulV_ok a d)
  have hm := mulV_vl a d ka
  have kV : okB 0 (addV H (mulV a d) false) = true := by unfold addV; exact ok_Sm _ (sdF_nine _ _ _)
  have bV : 0 ≤ addV H (mulV a d) false ∧ addV H (mulV a d) false ≤ 18446744073709551615 := by unfold addV; exact Sm_u64 _ (sdF_nine _ _ _)
  have hC := mulC_bd a d ka d0 (by omega)
  have hI := inI_bd (addC H (mulV a d) false)
  have rV := vl_room _ kV
  have ra := vl_room a ka
  have rH := vl_room H kH
  generalize hVV : addV H (mulV a d) false = V at *
  generalize mulC a d = c at *
  generalize inI (addC H (mulV a d) false) = o at *
  generalize vl (digits 0 (mulV a d)) = m at *
  have had : vl (digits 0 a) * d ≤ vl (digits 0 a) * 9 := Int.mul_le_mul_of_nonneg_left d9 ra.1
  have e0 : inI false = 0 := rfl
  have e16 : (10 : Int) ^ 16 = 10000000000000000 := by decide
  rw [e0, e16] at hv
  rw [e16] at hm
  have ht : vl (digits 0 H) + vl (digits 0 a) * d = vl (digits 0 V) + 10000000000000000 * (c + o) := by omega
  have hl9 : c + o ≤ 9 := by omega
  refine ⟨⟨by omega, hl9⟩, ?_⟩
  obtain ⟨k1, b1, s1, v1⟩ := psh_facts V (c + o) kV bV.1 bV.2 (by omega) hl9
  obtain ⟨k2, b2, s2, v2⟩ := psh_facts L (ln V 0) kL bL.1 bL.2 s1.1 s1.2
  have p1 : (10 : Int) ^ (16 - k) = 10 * 10 ^ (16 - (k + 1)) := by rw [show 16 - k = (16 - (k + 1)) + 1 by omega, Int.pow_succ, Int.mul_comm]
  have p2 : (10 : Int) ^ k * 10 ^ (16 - (k + 1)) = 1000000000000000 := by rw [← Int.pow_add, show k + (16 - (k + 1)) = 15 by omega]; decide
  rw [p1] at hq
  have e1 : q * (10 * 10 ^ (16 - (k + 1))) = 10 * (q * 10 ^ (16 - (k + 1))) := by rw [← Int.mul_assoc, Int.mul_comm q 10, Int.mul_assoc]
  rw [e1] at hq
  refine ⟨k1, k2, b1, b2, by omega, q + ln V 0 * 10 ^ k, ?_, ?_⟩
  · have e2 : (q + ln V 0 * 10 ^ k) * 10 ^ (16 - (k + 1)) = q * 10 ^ (16 - (k + 1)) + ln V 0 * 1000000000000000 := by rw [Int.add_mul, Int.mul_assoc (ln V 0), p2]
    rw [e2]
    generalize q * 10 ^ (16 - (k + 1)) = y at *
    omega
  · have e3 : vl (digits 0 (psh V (c + o))) * 10 ^ (k + 1) + (q + ln V 0 * 10 ^ k) = (10 * vl (digits 0 (psh V (c + o))) + ln V 0) * 10 ^ k + q := by
      rw [Int.pow_succ, Int.add_mul, Int.mul_comm (10 ^ k) 10, ← Int.mul_assoc, Int.mul_comm 10 (vl _)]
      omega
    rw [e3, v1, ← ht, Int.add_mul, Int.mul_add, ← hs, Int.mul_assoc]
    omega
theorem PI_end (a b H L : Int) (ka : okB 0 a = true) (kb : okB 0 b = true) (h : PI a (vl (digits 0 b)) 16 H L) : H = prH a b ∧ L = prL a b := by
  obtain ⟨kH, kL, bH, bL, _, q, hq, hs⟩ := h
  refine pr_told a b H L ka kb kH kL bH.1 bH.2 bL.1 bL.2 ?_
  have e : q = vl (digits 0 L) := by rw [hq]; simp
  rw [← hs, e, Int.mul_comm (10 ^ 16)]; omega
theorem lv_range (f : Nat → Int) (n : Nat) : lv ((List.range n).map f) = pv f n := by
  induction n with
  | zero => rfl
  | succ n ih => rw [List.range_succ, List.map_append, lv_append, ih]; simp [lv, pv, Int.mul_comm]
theorem lv_word (b : Int) (kb : okB 0 b = true) : lv ((List.range 16).map (ln b)) = vl (digits 0 b) := by rw [lv_range, pv0 b kb]
/-- The columns make the product. -/
theorem pv_add (f g : Nat → Int) (n : Nat) : pv (fun i => f i + g i) n = pv f n + pv g n := by
  induction n with
  | zero => rfl
  | succ n ih => simp only [pv, ih, Int.add_mul]; omega
theorem pv_scale (c : Int) (f : Nat → Int) (n : Nat) : pv (fun i => c * f i) n = c * pv f n := by
  induction n with
  | zero => simp [pv]
  | succ n ih => simp only [pv, ih, Int.mul_add, Int.mul_assoc]
theorem pv_none (f : Nat → Int) (n : Nat) (h : ∀ i, i < n → f i = 0) : pv f n = 0 := by
  induction n with
  | zero => rfl
  | succ n ih => simp only [pv]; rw [ih (fun i hi => h i (by omega)), h n (by omega)]; simp
theorem col_one (c : Int) (fb : Nat → Int) (i : Nat) (hi : i < 16) : pv (fun n => if i ≤ n ∧ n - i < 16 then c * fb (n - i) else 0) 31 = c * 10 ^ i * pv fb 16 := by
  have h := pv_split (fun n => if i ≤ n ∧ n - i < 16 then c * fb (n - i) else 0) i (31 - i)
  rw [show i + (31 - i) = 31 by omega] at h
  rw [h, pv_none _ i (fun j hj => if_neg (fun x => by omega))]
  have e : pv (fun j => if i ≤ i + j ∧ i + j - i < 16 then c * fb (i + j - i) else 0) (31 - i) = pv (fun j => if i ≤ i + j ∧ i + j - i < 16 then c * fb (i + j - i) else 0) 16 :=
    pv_past _ 16 (31 - i) (by omega) (fun j hj => if_neg (fun x => by omega))
  rw [e, pv_congr _ (fun j => c * fb j) 16 (fun j hj => by rw [if_pos ⟨by omega, by omega⟩, show i + j - i = j by omega]), pv_scale]
  rw [Int.zero_add, ← Int.mul_assoc, Int.mul_comm (10 ^ i) c]
theorem cols_pv (fa fb : Nat → Int) (i : Nat) (hi : i ≤ 16) : pv (fun n => colS fa fb n i) 31 = pv fa i * pv fb 16 := by
  induction i with
  | zero => rw [pv_none (fun n => colS fa fb n 0) 31 (fun _ _ => rfl)]; simp [pv]
  | succ i ih =>
    have h := pv_add (fun n => colS fa fb n i) (fun n => if i ≤ n ∧ n - i < 16 then fa i * fb (n - i) else 0) 31
    have e : pv (fun n => colS fa fb n (i + 1)) 31 = pv (fun n => colS fa fb n i + if i ≤ n ∧ n - i < 16 then fa i * fb (n - i) else 0) 31 := rfl
    rw [e, h, ih (by omega), col_one _ _ i (by omega)]
    simp only [pv]
    rw [Int.add_mul]
/-- The columns from m on, each ten times the one behind. -/
def hs (f : Nat → Int) : Nat → Int
  | 0 => 0
  | j + 1 => hs f j * 10 + f (30 - j)
theorem hs_pv (f : Nat → Int) (j : Nat) (hj : j ≤ 31) : pv f (31 - j) + 10 ^ (31 - j) * hs f j = pv f 31 := by
  induction j with
  | zero => simp [hs]
  | succ j ih =>
    have h := ih (by omega)
    rw [show 31 - j = (30 - j) + 1 by omega] at h
    rw [show 31 - (j + 1) = 30 - j by omega]
    simp only [hs]
    rw [← h]
    simp only [pv]
    rw [Int.pow_succ, Int.mul_add, Int.mul_assoc (10 ^ (30 - j)) 10, Int.mul_comm 10 (hs f j), Int.mul_comm (f (30 - j))]
    omega
theorem hs_all (a b : Int) (ka : okB 0 a = true) (kb : okB 0 b = true) : hs (fun n => colS (ln a) (ln b) n 16) 31 = vl (digits 0 a) * vl (digits 0 b) := by
  have h := hs_pv (fun n => colS (ln a) (ln b) n 16) 31 (Nat.le_refl _)
  rw [cols_pv _ _ 16 (Nat.le_refl _), ← pv0 a ka, ← pv0 b kb] at h
  rw [← h]; simp [pv]
theorem hs_bd (fa fb : Nat → Int) (ha : Nine fa) (hb : Nine fb) (j : Nat) : 0 ≤ hs (fun n => colS fa fb n 16) j := by
  induction j with
  | zero => exact Int.le_refl _
  | succ j ih =>
    have := (colS_bd fa fb ha hb (30 - j) 16 (Nat.le_refl _)).1
    simp only [hs]; omega
/-- Where a column begins and ends. -/
theorem colS_begin (fa fb : Nat → Int) (n i : Nat) (h : i + 15 ≤ n) : colS fa fb n i = 0 := by
  induction i with
  | zero => rfl
  | succ i ih => unfold colS; rw [ih (by omega), if_neg (fun x => by omega)]; rfl
theorem colS_end (fa fb : Nat → Int) (n i : Nat) (h : n < i) (m : Nat) : colS fa fb n (i + m) = colS fa fb n i := by
  induction m with
  | zero => rfl
  | succ m ih =>
    show colS fa fb n (i + m) + (if i + m ≤ n ∧ n - (i + m) < 16 then fa (i + m) * fb (n - (i + m)) else 0) = _
    rw [ih, if_neg (fun x => by omega)]; exact Int.add_zero _
/-- The rows, each ten times farther, with what leaves them. -/
theorem rows_sum (a b : Int) (ka : okB 0 a = true) (i : Nat) :
    vl (digits 0 a) * pv (ln b) i + (vl (digits 0 (mulV a (ln b i))) + mulC a (ln b i) * 10 ^ 16) * 10 ^ i = vl (digits 0 a) * pv (ln b) (i + 1) := by
  rw [mulV_vl a _ ka]
  simp only [pv]
  rw [Int.mul_add, Int.mul_assoc]
end Go.Proofs.YtlbkhiphnllfpalDoor
