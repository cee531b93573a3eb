/-
  The model's look at digits, of whatever number, walked.
-/
import Derived.Test.YtlbkhiphnllfpacSl
import Derived.Test.YtlbkhiphnllfpacIn
import Derived.Test.YtlbkhiphnllfpacSgnM
namespace Go.Proofs.Ytlbkhiphnllfpac
open Go.RowKit
set_option linter.unusedVariables false
set_option maxRecDepth 100000
end Go.Proofs.Ytlbkhiphnllfpac
