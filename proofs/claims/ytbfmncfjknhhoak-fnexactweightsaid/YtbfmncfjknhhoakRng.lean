/-
  The model's look at digits, of whatever number, walked.
-/
import Derived.Test.YtbfmncfjknhhoakSl
import Derived.Test.YtbfmncfjknhhoakIn
import Derived.Test.YtbfmncfjknhhoakSgnM
namespace Go.Proofs.Ytbfmncfjknhhoak
open Go.RowKit
set_option linter.unusedVariables false
end Go.Proofs.Ytbfmncfjknhhoak
