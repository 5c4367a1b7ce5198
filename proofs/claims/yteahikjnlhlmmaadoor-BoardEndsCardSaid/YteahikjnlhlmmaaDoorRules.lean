/-
  The walk of the law BitsRules.
-/
import Derived.Test.YteahikjnlhlmmaaDoorMath
namespace Go.Proofs.YteahikjnlhlmmaaDoor
open Go.RowKit
set_option linter.unusedSimpArgs false
set_option linter.unusedVariables false

end Go.Proofs.YteahikjnlhlmmaaDoor
