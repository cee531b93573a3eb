/-
  What Recode answers, for the program and for its model alike, walked.
-/
import Derived.Test.YtlbkhiphnllfpalDoorPack2
import Derived.Test.YtlbkhiphnllfpalDoorDigM
namespace Go.Proofs.YtlbkhiphnllfpalDoor
open Go.RowKit
set_option linter.unusedVariables false

theorem okDs_digits (m : Nat) (x : Int) : Ln.okDs (digits m x) = true := by
  unfold digits
  split
  · rename_i h
    refine Ln.okDs_yes _ (by rw [highs_length]; omega) fun i hi => ?_
    have hm : (highs m x 16).getD i 0 ∈ highs m x 16 := by
      simp only [List.getD]
      rw [List.getElem?_eq_getElem hi]
      exact List.getElem_mem hi
    obtain ⟨l, hl, e⟩ := highs_mem m x 16 (Nat.le_refl _) _ hm
    rw [e]
    exact ⟨(Ln.dig_bd m _).1, (Ln.okB_iff m x).1 h l hl⟩
  · rfl
/-- What a word in the weighting m + 1 is in the weighting n + 1. -/
def recV (m n : Nat) (x : Int) : Int := if Ln.okB m x then Ln.packN n (digits m x) else 0
end Go.Proofs.YtlbkhiphnllfpalDoor
