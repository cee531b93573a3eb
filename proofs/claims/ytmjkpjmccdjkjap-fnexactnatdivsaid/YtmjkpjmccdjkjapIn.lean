/-
  What the model's test of a range answers, walked.
-/
import Derived.Test.YtmjkpjmccdjkjapRows
import Derived.WalkKit
import Derived.Test.YtmjkpjmccdjkjapLn
namespace Go.Proofs.Ytmjkpjmccdjkjap
open Go.RowKit
set_option linter.unusedVariables false

end Go.Proofs.Ytmjkpjmccdjkjap
