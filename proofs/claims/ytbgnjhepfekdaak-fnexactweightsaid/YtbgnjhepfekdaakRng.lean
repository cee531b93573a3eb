/-
  The model's look at digits, of whatever number, walked.
-/
import Derived.Test.YtbgnjhepfekdaakSl
import Derived.Test.YtbgnjhepfekdaakIn
import Derived.Test.YtbgnjhepfekdaakSgnM
namespace Go.Proofs.Ytbgnjhepfekdaak
open Go.RowKit
set_option linter.unusedVariables false
end Go.Proofs.Ytbgnjhepfekdaak
