/-
  The model's look at digits, of whatever number, walked.
-/
import Derived.Test.YtlbkhiphnllfpakSl
import Derived.Test.YtlbkhiphnllfpakIn
import Derived.Test.YtlbkhiphnllfpakSgnM
namespace Go.Proofs.Ytlbkhiphnllfpak
open Go.RowKit
set_option linter.unusedVariables false
end Go.Proofs.Ytlbkhiphnllfpak
