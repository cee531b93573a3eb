/-
  The turns of a division as the model takes them: the digit that is taken serves, what is left stays small, and the turns tell it: plain facts.
-/
import Derived.Test.YtlbkhiphnllfpacCel2
import Derived.Test.YtlbkhiphnllfpacDivM
namespace Go.Proofs.Ytlbkhiphnllfpac
set_option linter.unusedVariables false
set_option maxRecDepth 100000
/-- The digit that is taken, scanned from k on. -/
def dsc (a d w : Int) : Nat → Nat → Int
  | 0, _ => 0
  | f + 1, k => if 9 * abI (10 * w - k * d) ≤ a * d then k else if 9 * abI (10 * w + k * d) ≤ a * d then -(k : Int) else dsc a d w f (k + 1)
def dgt (a d w : Int) : Int := dsc a d w (a.toNat + 1) 0
/-- What is left behind j turns; the turns. -/
def ws (a d x : Int) : Nat → Int
  | 0 => x
  | j + 1 => 10 * ws a d x j - dgt a d (ws a d x j) * d
def tl (a d x : Int) : Nat → List (Int × Int)
  | 0 => []
  | j + 1 => tl a d x j ++ [(dgt a d (ws a d x j), ws a d x (j + 1))]
theorem tl_len (a d x : Int) (j : Nat) : (tl a d x j).length = j := by
  induction j with
  | zero => rfl
  | succ j ih => simp [tl, ih]
theorem tl_at (a d x : Int) (n j : Nat) (h : j < n) : (tl a d x n)[j]? = some (dgt a d (ws a d x j), ws a d x (j + 1)) := by
  induction n with
  | zero => omega
  | succ n ih =>
    have hl := tl_len a d x n
    unfold tl
    rcases (show j < n ∨ j = n by omega) with hj | rfl
    · rw [List.getElem?_append_left (by omega)]; exact ih hj
    · rw [List.getElem?_append_right (by omega), hl]; simp
theorem abI_small (y m : Int) : 9 * abI y ≤ m ↔ (9 * y ≤ m ∧ -m ≤ 9 * y) := by
  unfold abI; split <;> omega
theorem dsc_fits (a d w : Int) (f k : Nat) (h : ∃ q : Int, Fits a d w q ∧ ((k : Int) ≤ q ∨ q ≤ -(k : Int)) ∧ -((k + f : Nat) : Int) < q ∧ q < ((k + f : Nat) : Int)) : Fits a d w (dsc a d w f k) ∧ -((k + f : Nat) : Int) < dsc a d w f k ∧ dsc a d w f k < ((k + f : Nat) : Int) := by
  induction f generalizing k with
  | zero =>
    obtain ⟨q, _, h1, h2, h3⟩ := h
    omega
  | succ f ih =>
    unfold dsc
    split
    · rename_i hc
      refine ⟨?_, by omega, by omega⟩
      have := (abI_small _ _).1 hc
      exact ⟨this.1, this.2⟩
    · rename_i hc
      split
      · rename_i hc2
        refine ⟨?_, by omega, by omega⟩
        have := (abI_small _ _).1 hc2
        unfold Fits
        rw [Int.neg_mul]
        exact ⟨by omega, by omega⟩
      · rename_i hc2
        have hk := ih (k + 1) (by
          obtain ⟨q, hq, h1, h2, h3⟩ := h
          refine ⟨q, hq, ?_, by omega, by omega⟩
          rcases h1 with h1 | h1
          · rcases (show q = k ∨ (k : Int) + 1 ≤ q by omega) with e | e
            · exact absurd ((abI_small _ _).2 (by rw [e] at hq; exact ⟨hq.1, hq.2⟩)) hc
            · left; omega
          · rcases (show q = -(k : Int) ∨ q ≤ -((k : Int) + 1) by omega) with e | e
            · refine absurd ((abI_small _ _).2 ?_) hc2
              rw [e] at hq
              unfold Fits at hq
              rw [Int.neg_mul] at hq
              omega
            · right; omega)
        have e : k + 1 + f = k + (f + 1) := by omega
        rw [e] at hk
        exact hk
theorem dgt_fits (a d w : Int) (hd : 0 < d) (a5 : 5 ≤ a) (a9 : a ≤ 9) (h1 : 9 * w ≤ a * d) (h2 : -(a * d) ≤ 9 * w) : Fits a d w (dgt a d w) ∧ -a ≤ dgt a d w ∧ dgt a d w ≤ a := by
  obtain ⟨q, q0, q1, hq⟩ := fits_exists a d w hd a5 a9 h1 h2
  have := dsc_fits a d w (a.toNat + 1) 0 ⟨q, hq, by omega, by omega, by omega⟩
  unfold dgt
  exact ⟨this.1, by omega, by omega⟩
theorem ws_small (a d x : Int) (hd : 0 < d) (a5 : 5 ≤ a) (a9 : a ≤ 9) (x0 : 0 ≤ x) (hx : 9 * x ≤ a * d) (j : Nat) : 9 * ws a d x j ≤ a * d ∧ -(a * d) ≤ 9 * ws a d x j := by
  induction j with
  | zero => unfold ws; have := Int.mul_nonneg (show 0 ≤ a by omega) (show 0 ≤ d by omega); omega
  | succ j ih =>
    have h := (dgt_fits a d (ws a d x j) hd a5 a9 ih.1 ih.2).1
    unfold ws
    exact ⟨h.1, h.2⟩
end Go.Proofs.Ytlbkhiphnllfpac
