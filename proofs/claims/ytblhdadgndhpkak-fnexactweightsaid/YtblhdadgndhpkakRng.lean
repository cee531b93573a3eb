/-
  The model's look at digits, of whatever number, walked.
-/
import Derived.Test.YtblhdadgndhpkakSl
import Derived.Test.YtblhdadgndhpkakIn
import Derived.Test.YtblhdadgndhpkakSgnM
namespace Go.Proofs.Ytblhdadgndhpkak
open Go.RowKit
set_option linter.unusedVariables false
end Go.Proofs.Ytblhdadgndhpkak
