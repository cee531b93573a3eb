/-
  A sight of the program: whether its parameters are known, the powers of ten, what divisors it sees, its units and bounds, walked.
-/
import Derived.BigQuiet
import Derived.Deep.RegionWith
import Derived.Test.YtlbkhiphnllfpanCls
import Derived.Test.YtlbkhiphnllfpanCel2
namespace Go.Proofs.Ytlbkhiphnllfpan
open Go.RowKit
set_option linter.unusedVariables false
end Go.Proofs.Ytlbkhiphnllfpan
