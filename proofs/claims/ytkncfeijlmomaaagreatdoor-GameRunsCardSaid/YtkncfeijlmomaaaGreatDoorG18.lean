/-
  Merged: Dl, Mt, Mu, Mv.
-/
import Derived.Test.YtkncfeijlmomaaaGreatDoorG8
import Derived.Test.YtkncfeijlmomaaaGreatDoorG17
import Derived.Deep.CutRange

namespace Go.Proofs.YtkncfeijlmomaaaGreatDoor
open Go.RowKit Go.Sort
set_option linter.unusedSimpArgs false
set_option linter.unusedVariables false
set_option maxRecDepth 20000

end Go.Proofs.YtkncfeijlmomaaaGreatDoor

namespace Go.Proofs.YtkncfeijlmomaaaGreatDoor
open Go.RowKit Go.Sort
set_option linter.unusedSimpArgs false
set_option linter.unusedVariables false
set_option maxRecDepth 20000

end Go.Proofs.YtkncfeijlmomaaaGreatDoor

namespace Go.Proofs.YtkncfeijlmomaaaGreatDoor
open Go.RowKit Go.Sort
set_option linter.unusedSimpArgs false
set_option linter.unusedVariables false
set_option maxRecDepth 20000

/-- a position in a block, a piece in another one -/
structure MX (w : World) (pb xb : Nat) (P : Nat → Int) (k d : Int) (W : World) : Prop where
  p : PB W pb P
  x : W.heap[xb]? = some (.cells #[.int .i64 k, .int .i64 d] 25 (0, 0))
  b : Below w.heap.size w W
theorem MX.go {w W W' : World} {pb xb : Nat} {P : Nat → Int} {k d : Int} (h : MX w pb xb P k d W) (g : Below W.heap.size W W') : MX w pb xb P k d W' :=
  ⟨h.p.go g, sl_go h.x g, h.b.trans (g.mono h.b.size)⟩
end Go.Proofs.YtkncfeijlmomaaaGreatDoor

namespace Go.Proofs.YtkncfeijlmomaaaGreatDoor
open Go.RowKit Go.Sort
set_option linter.unusedSimpArgs false
set_option linter.unusedVariables false
set_option maxRecDepth 20000

end Go.Proofs.YtkncfeijlmomaaaGreatDoor
