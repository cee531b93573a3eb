/-
  Signed digits made plain by the model, walked.
-/
import Derived.Test.YtlbkhiphnllfpabSgn2
namespace Go.Proofs.Ytlbkhiphnllfpab
open Go.RowKit
set_option linter.unusedVariables false
theorem ret_pair {u : Value} {a b : Bool} (h : a = b) : Ending.returned (.tuple #[u, .bool a]) = .returned (.tuple #[u, .bool b]) := by rw [h]
/-- What Plain takes. -/
def pok (ds : List Int) : Bool := decide (1 ≤ ds.length) && l3 ds && !ng ds
theorem pok_few (ds : List Int) (h : ds.length < 1) : pok ds = false := by
  unfold pok; rw [decide_eq_false (by omega)]; rfl
theorem pok_not (ds : List Int) (h : l3 ds = false) : pok ds = false := by
  unfold pok; rw [h]; simp
theorem pok_ng (ds : List Int) (h1 : 1 ≤ ds.length) (h : l3 ds = true) : pok ds = !ng ds := by
  unfold pok; rw [decide_eq_true h1, h]; rfl
theorem l3_parts (ds : List Int) (h : l3 ds = true) : ds.length ≤ 41 ∧ rng (-9) 9 ds = true := by
  unfold l3 at h
  simpa using h
/-- What Plain gives. -/
def plo (ds : List Int) : List Int := if pok ds then plain ds else []
theorem plo_length (ds : List Int) : (plo ds).length ≤ 41 := by
  unfold plo; split
  · rename_i h; rw [plain_length]
    rcases Nat.lt_or_ge 41 ds.length with h' | h'
    · rw [pok_not ds (l3_big ds h')] at h; cases h
    · omega
  · simp
end Go.Proofs.Ytlbkhiphnllfpab
