/-
  The model's look at digits, of whatever number, walked.
-/
import Derived.Test.YtckobdndcdeppakSl
import Derived.Test.YtckobdndcdeppakIn
import Derived.Test.YtckobdndcdeppakSgnM
namespace Go.Proofs.Ytckobdndcdeppak
open Go.RowKit
set_option linter.unusedVariables false
end Go.Proofs.Ytckobdndcdeppak
