/-
  The walk of the law BitsPlaces.
-/
import Derived.Test.YthhjieagdkimfaaDoorTurns
namespace Go.Proofs.YthhjieagdkimfaaDoor
open Go.RowKit Go.ChangeShapes Go.WideShapes
set_option linter.unusedSimpArgs false
set_option linter.unusedVariables false

theorem choose_pl (x a b : BitVec 32) : pl (fun k => x.getLsbD k && a.getLsbD k || !x.getLsbD k && b.getLsbD k) 32 = x &&& a ||| ~~~x &&& b :=
  pl_eq _ _ fun j hj => by
    simp only [BitVec.getLsbD_or, BitVec.getLsbD_and, BitVec.getLsbD_not, hj, decide_true, Bool.true_and]
theorem most_pl (n : Nat) (f : Nat → BitVec 32) : pl (fun c => decide (n < 2 * onesTo c f n)) 32 = mostTo n f 32 :=
  pl_eq _ _ fun j hj => by rw [most_bit n f 32 j (by omega) hj]; simp [hj]

end Go.Proofs.YthhjieagdkimfaaDoor
