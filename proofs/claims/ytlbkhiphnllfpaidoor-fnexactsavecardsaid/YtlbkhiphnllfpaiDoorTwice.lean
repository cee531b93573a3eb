/-
  What Twice answers, for the program and for its model alike, walked.
-/
import Derived.Test.YtlbkhiphnllfpaiDoorRows
import Derived.WalkKit
import Derived.Test.YtlbkhiphnllfpaiDoorLn
namespace Go.Proofs.YtlbkhiphnllfpaiDoor
open Go.RowKit
set_option linter.unusedVariables false
/-- One place up. -/
def tw (x : Int) : Int := IntKind.u64.wrap (x * 2)
theorem tw_eq (x : Int) : tw x = x * 2 % 18446744073709551616 := by unfold tw; rw [IntKind.wrap_u64]
/-- What leaves. -/
def twOut (x : Int) : Int := x / 9223372036854775808
theorem tw_bd (x : Int) : 0 ≤ tw x ∧ tw x ≤ 18446744073709551615 := by rw [tw_eq]; omega
theorem twOut_bd (x : Int) (h0 : 0 ≤ x) (h1 : x ≤ 18446744073709551615) : 0 ≤ twOut x ∧ twOut x ≤ 1 := by unfold twOut; omega
theorem itwice_any (x : Int) (w : World) (h0 : 0 ≤ x) (h1 : x ≤ 18446744073709551615) :
    Calls Tryd.prog 18 #[.int .u64 x] w fun e w' => e = .returned (.tuple #[.int .u64 (tw x), .int .u64 (twOut x)]) ∧ w' = w := by
  go_enter Tryd.func18, Tryd.ntmps18
  go_wp2
  go_ret2
  exact ⟨rfl, rfl⟩
theorem stwice_any (x : Int) (w : World) (h0 : 0 ≤ x) (h1 : x ≤ 18446744073709551615) :
    Calls Tryd.prog 17 #[.int .u64 x] w fun e w' => e = .returned (.tuple #[.int .u64 (tw x), .int .u64 (twOut x)]) ∧ w' = w := by
  go_enter Tryd.func17, Tryd.ntmps17
  go_wp2
  go_ret2
  exact ⟨rfl, rfl⟩
end Go.Proofs.YtlbkhiphnllfpaiDoor
