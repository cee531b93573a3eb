/-
  What LaneAdd answers, for the program and for its model alike, and the model's sum of two lists of sixteen digits, walked.
-/
import Derived.Test.YtlbkhiphnllfpalDoorSumM
import Derived.Test.YtlbkhiphnllfpalDoorPlain
namespace Go.Proofs.YtlbkhiphnllfpalDoor
open Go.RowKit
set_option linter.unusedVariables false

end Go.Proofs.YtlbkhiphnllfpalDoor
