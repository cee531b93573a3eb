/-
  Limits of the program, walked.
-/
import Derived.Test.YthhmgghipgcinasIsR2
import Derived.Test.YthhmgghipgcinasBx4
namespace Go.Proofs.Ythhmgghipgcinas
open Go.RowKit
set_option linter.unusedVariables false
set_option maxRecDepth 100000
end Go.Proofs.Ythhmgghipgcinas
