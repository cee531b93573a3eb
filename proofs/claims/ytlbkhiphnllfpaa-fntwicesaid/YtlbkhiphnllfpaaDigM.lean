/-
  Plain facts on a word's digits as a list, and on what they stand for.
-/
import Derived.Test.YtlbkhiphnllfpaaDigits
import Derived.Test.YtlbkhiphnllfpaaTxtM
namespace Go.Proofs.Ytlbkhiphnllfpaa
open Ln
set_option linter.unusedVariables false
theorem highs_mem (m : Nat) (x : Int) (j : Nat) (hj : j ≤ 16) (d : Int) (hd : d ∈ highs m x j) : ∃ i, i < 16 ∧ d = Ln.dig m (Ln.ln x i) := by
  induction j with
  | zero => simp [highs] at hd
  | succ j ih =>
    simp only [highs, List.mem_append, List.mem_singleton] at hd
    rcases hd with hd | hd
    · exact ih (by omega) hd
    · exact ⟨15 - j, by omega, hd⟩
theorem highsF_length (f : Nat → Int) (j : Nat) : (highsF f j).length = j := by
  induction j with
  | zero => rfl
  | succ j ih => simp [highsF, ih]
theorem highsF_at (f : Nat → Int) (j i : Nat) (hi : i < j) : (highsF f j)[i]? = some (f (15 - i)) := by
  induction j with
  | zero => omega
  | succ j ih =>
    simp only [highsF]
    by_cases h : i < j
    · rw [List.getElem?_append_left (by rw [highsF_length]; exact h)]; exact ih h
    · rw [show i = j by omega, List.getElem?_append_right (by rw [highsF_length]; omega), highsF_length]; simp
/-- The digits of a word that is right under the weighting m + 1. -/
theorem digits_highsF (m : Nat) (x : Int) (h : okB m x = true) : digits m x = highsF (fun i => dig m (ln x i)) 16 := by
  unfold digits; rw [h, if_pos rfl, highsF_eq]
theorem pv_congr (f g : Nat → Int) (n : Nat) (h : ∀ i, i < n → f i = g i) : pv f n = pv g n := by
  induction n with
  | zero => rfl
  | succ n ih => simp only [pv]; rw [ih (fun i hi => h i (by omega)), h n (by omega)]
theorem vl_highsF (f : Nat → Int) : vl (highsF f 16) = pv f 16 := by
  rw [← pv_lo (highsF f 16) 16 (by rw [highsF_length]; exact Nat.le_refl _)]
  refine pv_congr _ _ 16 fun i hi => ?_
  rw [lo_in _ i (by rw [highsF_length]; exact hi), highsF_length, List.getD, highsF_at f 16 (16 - 1 - i) (by omega)]
  rw [show 15 - (16 - 1 - i) = i by omega]; rfl
end Go.Proofs.Ytlbkhiphnllfpaa
