/-
  What the model's test of a range answers, walked.
-/
import Derived.Test.YtlbkhiphnllfpanRows
import Derived.WalkKit
import Derived.Test.YtlbkhiphnllfpanLn
namespace Go.Proofs.Ytlbkhiphnllfpan
open Go.RowKit
set_option linter.unusedVariables false

end Go.Proofs.Ytlbkhiphnllfpan
