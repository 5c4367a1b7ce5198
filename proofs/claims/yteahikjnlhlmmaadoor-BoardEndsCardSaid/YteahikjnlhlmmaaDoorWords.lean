/-
  Contracts: the calls of package bits that make no memory.
-/
import Derived.Test.YteahikjnlhlmmaaDoorBits
namespace Go.Proofs.YteahikjnlhlmmaaDoor
open Go.RowKit
set_option linter.unusedVariables false
set_option linter.unusedSimpArgs false

end Go.Proofs.YteahikjnlhlmmaaDoor
