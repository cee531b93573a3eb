/-
  The model's look at digits, of whatever number, walked.
-/
import Derived.Test.YtjdiieogcicgfamSl
import Derived.Test.YtjdiieogcicgfamIn
import Derived.Test.YtjdiieogcicgfamSgnM
namespace Go.Proofs.Ytjdiieogcicgfam
open Go.RowKit
set_option linter.unusedVariables false
end Go.Proofs.Ytjdiieogcicgfam
