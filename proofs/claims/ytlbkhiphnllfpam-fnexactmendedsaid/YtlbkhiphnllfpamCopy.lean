/-
  The laws' copy of a slice of int64 that came in: a slice of the call's own that holds the same, walked.
-/
import Derived.Test.YtlbkhiphnllfpamSl
import Derived.Test.YtlbkhiphnllfpamRow
import Derived.OpenShut
namespace Go.Proofs.Ytlbkhiphnllfpam
open Go.RowKit
set_option linter.unusedVariables false

/-- The first k numbers of ds, noughts behind. -/
def cp (ds : List Int) : Nat → List Int
  | 0 => List.replicate ds.length 0
  | k + 1 => (cp ds k).set k (ds.getD k 0)
theorem cp_length (ds : List Int) (k : Nat) : (cp ds k).length = ds.length := by
  induction k with
  | zero => simp [cp]
  | succ k ih => simp [cp, ih]
theorem cp_at (ds : List Int) (k j : Nat) (hj : j < k) (hl : j < ds.length) : (cp ds k)[j]? = ds[j]? := by
  induction k with
  | zero => omega
  | succ k ih =>
    unfold cp
    rw [List.getElem?_set]
    by_cases h : k = j
    · subst h; simp [cp_length, hl]
    · rw [if_neg h]; exact ih (by omega)
theorem cp_all (ds : List Int) : cp ds ds.length = ds := by
  apply List.ext_getElem?
  intro j
  by_cases hj : j < ds.length
  · exact cp_at ds ds.length j hj hj
  · rw [List.getElem?_eq_none (by rw [cp_length]; omega), List.getElem?_eq_none (by omega)]
end Go.Proofs.Ytlbkhiphnllfpam
