/-
  The model's look at digits, of whatever number, walked.
-/
import Derived.Test.YtlbkhiphnllfpamSl
import Derived.Test.YtlbkhiphnllfpamIn
import Derived.Test.YtlbkhiphnllfpamSgnM
namespace Go.Proofs.Ytlbkhiphnllfpam
open Go.RowKit
set_option linter.unusedVariables false
end Go.Proofs.Ytlbkhiphnllfpam
