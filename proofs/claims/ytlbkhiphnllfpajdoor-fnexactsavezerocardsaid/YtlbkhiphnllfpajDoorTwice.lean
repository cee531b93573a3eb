/-
  What Twice answers, for the program and for its model alike, walked.
-/
import Derived.Test.YtlbkhiphnllfpajDoorRows
import Derived.WalkKit
import Derived.Test.YtlbkhiphnllfpajDoorLn
namespace Go.Proofs.YtlbkhiphnllfpajDoor
open Go.RowKit
set_option linter.unusedVariables false
/-- One place up. -/
def tw (x : Int) : Int := IntKind.u64.wrap (x * 2)
theorem tw_eq (x : Int) : tw x = x * 2 % 18446744073709551616 := by unfold tw; rw [IntKind.wrap_u64]
/-- What leaves. -/
def twOut (x : Int) : Int := x / 9223372036854775808
theorem tw_bd (x : Int) : 0 ≤ tw x ∧ tw x ≤ 18446744073709551615 := by rw [tw_eq]; omega
theorem twOut_bd (x : Int) (h0 : 0 ≤ x) (h1 : x ≤ 18446744073709551615) : 0 ≤ twOut x ∧ twOut x ≤ 1 := by unfold twOut; omega
end Go.Proofs.YtlbkhiphnllfpajDoor
