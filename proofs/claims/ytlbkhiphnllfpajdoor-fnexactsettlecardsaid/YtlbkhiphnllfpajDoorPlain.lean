/-
  LaneOk at the plain weighting, for the program and for its model alike, walked.
-/
import Derived.Test.YtlbkhiphnllfpajDoorOk
namespace Go.Proofs.YtlbkhiphnllfpajDoor
open Go.RowKit
set_option linter.unusedVariables false

theorem iok_plain (x : Int) (w : World) (ht : Tab w) (h0 : 0 ≤ x) (h1 : x ≤ 18446744073709551615) :
    Calls Tryd.prog 21 #[.int .i64 1, .int .u64 x] w fun e w' => e = .returned (.bool (Ln.okB 0 x)) ∧ w' = w :=
  iok_yes 0 x w ht (by decide) h0 h1
theorem sok_plain (x : Int) (w : World) (h0 : 0 ≤ x) (h1 : x ≤ 18446744073709551615) :
    Calls Tryd.prog 14 #[.int .i64 1, .int .u64 x] w fun e w' => e = .returned (.bool (Ln.okB 0 x)) ∧ Below w.heap.size w w' :=
  sok_yes 0 x w (by decide) h0 h1
end Go.Proofs.YtlbkhiphnllfpajDoor
