/-
  Contracts: the bytes of words; whether two rows of bytes are the same.
-/
import Derived.Test.YteahikjnlhlmmaaDoorPut
namespace Go.Proofs.YteahikjnlhlmmaaDoor
open Go.RowKit
set_option linter.unusedSimpArgs false
set_option linter.unusedVariables false

/-- byte i of the bytes of words -/
def wb (f : Nat → BitVec 32) (i : Nat) : BitVec 8 := (f (i / 4) >>> (24 - 8 * (i % 4))).setWidth 8

end Go.Proofs.YteahikjnlhlmmaaDoor
