/-
  The model's look at digits, of whatever number, walked.
-/
import Derived.Test.YtjdiieogcicgfakSl
import Derived.Test.YtjdiieogcicgfakIn
import Derived.Test.YtjdiieogcicgfakSgnM
namespace Go.Proofs.Ytjdiieogcicgfak
open Go.RowKit
set_option linter.unusedVariables false
end Go.Proofs.Ytjdiieogcicgfak
