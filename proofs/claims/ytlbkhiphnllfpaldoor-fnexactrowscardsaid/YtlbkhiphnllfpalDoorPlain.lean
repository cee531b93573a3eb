/-
  LaneOk at the plain weighting, for the program and for its model alike, walked.
-/
import Derived.Test.YtlbkhiphnllfpalDoorOk
namespace Go.Proofs.YtlbkhiphnllfpalDoor
open Go.RowKit
set_option linter.unusedVariables false

theorem iok_plain (x : Int) (w : World) (ht : Tab w) (h0 : 0 ≤ x) (h1 : x ≤ 18446744073709551615) :
    Calls Tryd.prog 27 #[.int .i64 1, .int .u64 x] w fun e w' => e = .returned (.bool (Ln.okB 0 x)) ∧ w' = w :=
  iok_yes 0 x w ht (by decide) h0 h1
theorem sok_plain (x : Int) (w : World) (h0 : 0 ≤ x) (h1 : x ≤ 18446744073709551615) :
    Calls Tryd.prog 28 #[.int .i64 1, .int .u64 x] w fun e w' => e = .returned (.bool (Ln.okB 0 x)) ∧ Below w.heap.size w w' :=
  sok_yes 0 x w (by decide) h0 h1
theorem l1PlainOk_any (x : Int) (w : World) (h0 : 0 ≤ x) (h1 : x ≤ 18446744073709551615) :
    Calls Tryd.prog 18 #[.int .u64 x] w fun e w' => e = .returned (.bool (Ln.okB 0 x)) ∧ Below w.heap.size w w' := by
  go_enter Tryd.func18, Tryd.ntmps18
  go_wp2_with fail
  refine (sok_plain _ _ h0 h1).mono ?_
  rintro e w1 ⟨rfl, hb⟩
  go_wp2
  go_ret
  exact ⟨rfl, hb⟩
end Go.Proofs.YtlbkhiphnllfpalDoor
