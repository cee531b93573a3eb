/-
  Mended of the model, walked.
-/
import Derived.Test.YtlbkhiphnllfpacApp
import Derived.Test.YtlbkhiphnllfpacTrn
import Derived.Test.YtlbkhiphnllfpacSgn6
namespace Go.Proofs.Ytlbkhiphnllfpac
open Go.RowKit
set_option linter.unusedVariables false
set_option maxRecDepth 100000
def dgs (l : List (Int × Int)) : List Int := l.map (·.1)
def lst (l : List (Int × Int)) : Int := (l.getD (l.length - 1) (0, 0)).2
/-- What Mended takes, and what it gives. -/
def mok (l : List (Int × Int)) (d : Int) : Bool := decide ((l.length ≠ 0 ∧ l.length ≤ 18) ∧ (1 ≤ d ∧ d ≤ 100000000)) && (l3 (dgs l) && decide (-d < lst l ∧ lst l < d))
def mdL (l : List (Int × Int)) (d : Int) : List Int := if mok l d then (if lst l < 0 then (flo (dgs l)).2 else (flo (dgs l)).1) else []
def mdR (l : List (Int × Int)) (d : Int) : Int := if mok l d then (if lst l < 0 then lst l + d else lst l) else 0
theorem dgs_take (l : List (Int × Int)) (j : Nat) (h : j < l.length) : dgs (l.take (j + 1)) = dgs (l.take j) ++ [l[j].1] := by
  unfold dgs; rw [List.take_add_one, List.getElem?_eq_getElem h, List.map_append]; rfl
end Go.Proofs.Ytlbkhiphnllfpac
