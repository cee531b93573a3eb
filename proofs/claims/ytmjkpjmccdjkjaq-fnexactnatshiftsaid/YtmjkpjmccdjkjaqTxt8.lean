/-
  What the model's product of two decimal texts answers, walked.
-/
import Derived.Test.YtmjkpjmccdjkjaqTxt5
import Derived.Test.YtmjkpjmccdjkjaqTxt3
namespace Go.Proofs.Ytmjkpjmccdjkjaq
open Go.RowKit
set_option linter.unusedVariables false
end Go.Proofs.Ytmjkpjmccdjkjaq
