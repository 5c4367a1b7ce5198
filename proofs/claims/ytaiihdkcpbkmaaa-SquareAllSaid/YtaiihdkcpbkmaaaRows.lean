/-
  No cell of these rows narrows 'for every input' (looked for: loops, veiled, ifaces, maps, wideKeys, modest, calm, conditions, laid).
  DERIVED. THE GIVEN ROWS OF THIS SEAT. 4 by the template 'for every input the law returns true; each argument reads behind the call as it read before'; 0 by the template 'total and deterministic' (their statements: YtaiihdkcpbkmaaaTotals.lean).
  GIVEN WITH THE SEED: the statements are not yours to turn. If you find one false, say at which input.
  Laid BY PROGRAM, IN A SANDBOX (cutbox-rows.mjs): the forced cells as the released guide's own fill.sh prints them over the translation 6b326e39ea54bbaf… (all of the seat's roots in one cut). By AI agents, Wed Nov 11 2026. No macro, syntax, notation, axiom, sorry.
-/
import Derived.Test.YtaiihdkcpbkmaaaChecked
import GoSem.Claim
import GoSem.ClaimJoined
import GoSem.ClaimMapViews
import Derived.JoinedTies
import Derived.KernelRfl
namespace Go.Proofs.Ytaiihdkcpbkmaaa
/- THE CELL 'sum', in the pinned program and in every row, IS THE sha256 OF THE DUMP (.gsa) THAT YtaiihdkcpbkmaaaProg.lean LOADS. Nothing in Lean hashes anything: it is a label: what it is worth is what the hold of that sum in a sandbox is worth. -/
noncomputable def Try.pinned : Pinned := { name := "ytaiihdkcpbkmaaa", sum := "6b326e39ea54bbaf0a711b90c43bfc138cb4943e8948773fd00e6dc4ca5987f2", checked := Try.checked }
namespace Rows
def none {H : Type} : Left H := { results := [], args := [] }

/-- 'zugzwanglaw05.SquareTells': WHATEVER THE INPUT: true; the input reads as it did. -/
def squareTellsSpec : ChangeSpec := { name := "squareTells", fn := fun _ => fun
  | [d1, d2, d3, d4, d5] => { results := [.lit (.bool true)], args := [d1, d2, d3, d4, d5] }
  | _ => none }
def squareTellsRow : OpenClaim := { program := "ytaiihdkcpbkmaaa", sum := "6b326e39ea54bbaf0a711b90c43bfc138cb4943e8948773fd00e6dc4ca5987f2", func := "zugzwang/zugzwanglaw05.SquareTells", spec := "squareTells", apart := false }
def SquareTellsSaid : Prop := squareTellsRow.holds Try.pinned (OpenSpec.ofChange squareTellsSpec)

/-- ITS FALSE NEIGHBOUR: 'it returns false'. Refute it at one input. -/
def squareTellsWrong : ChangeSpec := { name := "squareTells", fn := fun _ => fun
  | [d1, d2, d3, d4, d5] => { results := [.lit (.bool false)], args := [d1, d2, d3, d4, d5] }
  | _ => none }
def SquareTellsWrongFalsely : Prop := squareTellsRow.holds Try.pinned (OpenSpec.ofChange squareTellsWrong)

/-- 'zugzwanglaw05.SquareAll': WHATEVER THE INPUT: true; the input reads as it did. -/
def squareAllSpec : ChangeSpec := { name := "squareAll", fn := fun _ => fun
  | [] => { results := [.lit (.bool true)], args := [] }
  | _ => none }
def squareAllRow : OpenClaim := { program := "ytaiihdkcpbkmaaa", sum := "6b326e39ea54bbaf0a711b90c43bfc138cb4943e8948773fd00e6dc4ca5987f2", func := "zugzwang/zugzwanglaw05.SquareAll", spec := "squareAll", apart := false }
def SquareAllSaid : Prop := squareAllRow.holds Try.pinned (OpenSpec.ofChange squareAllSpec)

/-- ITS FALSE NEIGHBOUR: 'it returns false'. Refute it at one input. -/
def squareAllWrong : ChangeSpec := { name := "squareAll", fn := fun _ => fun
  | [] => { results := [.lit (.bool false)], args := [] }
  | _ => none }
def SquareAllWrongFalsely : Prop := squareAllRow.holds Try.pinned (OpenSpec.ofChange squareAllWrong)

/-- 'zugzwanglaw05.SquareBack': WHATEVER THE INPUT: true; the input reads as it did. -/
def squareBackSpec : ChangeSpec := { name := "squareBack", fn := fun _ => fun
  | [d1, d2, d3, d4] => { results := [.lit (.bool true)], args := [d1, d2, d3, d4] }
  | _ => none }
def squareBackRow : OpenClaim := { program := "ytaiihdkcpbkmaaa", sum := "6b326e39ea54bbaf0a711b90c43bfc138cb4943e8948773fd00e6dc4ca5987f2", func := "zugzwang/zugzwanglaw05.SquareBack", spec := "squareBack", apart := false }
def SquareBackSaid : Prop := squareBackRow.holds Try.pinned (OpenSpec.ofChange squareBackSpec)

/-- ITS FALSE NEIGHBOUR: 'it returns false'. Refute it at one input. -/
def squareBackWrong : ChangeSpec := { name := "squareBack", fn := fun _ => fun
  | [d1, d2, d3, d4] => { results := [.lit (.bool false)], args := [d1, d2, d3, d4] }
  | _ => none }
def SquareBackWrongFalsely : Prop := squareBackRow.holds Try.pinned (OpenSpec.ofChange squareBackWrong)

/-- 'zugzwanglaw05.SquareRays': WHATEVER THE INPUT: true; the input reads as it did. -/
def squareRaysSpec : ChangeSpec := { name := "squareRays", fn := fun _ => fun
  | [d1, d2, d3] => { results := [.lit (.bool true)], args := [d1, d2, d3] }
  | _ => none }
def squareRaysRow : OpenClaim := { program := "ytaiihdkcpbkmaaa", sum := "6b326e39ea54bbaf0a711b90c43bfc138cb4943e8948773fd00e6dc4ca5987f2", func := "zugzwang/zugzwanglaw05.SquareRays", spec := "squareRays", apart := false }
def SquareRaysSaid : Prop := squareRaysRow.holds Try.pinned (OpenSpec.ofChange squareRaysSpec)

/-- ITS FALSE NEIGHBOUR: 'it returns false'. Refute it at one input. -/
def squareRaysWrong : ChangeSpec := { name := "squareRays", fn := fun _ => fun
  | [d1, d2, d3] => { results := [.lit (.bool false)], args := [d1, d2, d3] }
  | _ => none }
def SquareRaysWrongFalsely : Prop := squareRaysRow.holds Try.pinned (OpenSpec.ofChange squareRaysWrong)

/- THE SECOND FORM. 'bulk': how many values and letters a reading holds, each counted each time it is reached (what is shared counts as often as it is met; a slice's spare places count too). A statement '..UptoSaid' is the law's where the arguments, and the package variables that the reading takes, are together of bulk at most 1048576: NARROWER than '..Said'. Prove '..Said' where nothing that the law and all that it calls make is longer than what came in: it says more and counts as full. Else prove '..UptoSaid'. A law counts once. -/
mutual
def uptoBulk {H : Type} : DataW H → Nat
  | .lit (.string bytes) => bytes.length + 1
  | .lit _ => 1
  | .nil => 1
  | .ptr d => uptoBulk d + 1
  | .slice elems spare => uptoBulkAll elems + uptoBulkAll spare + 1
  | .agg parts => uptoBulkAll parts + 1
  | .iface _ d => uptoBulk d + 1
  | .map entries => uptoBulkEntries entries + 1
  | .held _ => 1
def uptoBulkAll {H : Type} : List (DataW H) → Nat
  | [] => 0
  | d :: r => uptoBulk d + uptoBulkAll r
def uptoBulkEntries {H : Type} : List (Lit × DataW H) → Nat
  | [] => 0
  | x :: r => uptoBulkEntry x + uptoBulkEntries r
def uptoBulkEntry {H : Type} : Lit × DataW H → Nat
  | (.string bytes, d) => bytes.length + uptoBulk d + 1
  | (_, d) => uptoBulk d + 1
 end
def uptoSmall : (H : Type) → List (DataW H) → Bool := fun _ ds => decide (uptoBulkAll ds ≤ 1048576)
def OpenSpec.upto (s : _root_.Go.ChangeSpec) : _root_.Go.OpenSpec := { _root_.Go.OpenSpec.ofChange s with cond := some uptoSmall }

/-- 'zugzwanglaw05.SquareTells', WHERE WHAT IT READS IS OF BULK AT MOST 1048576: true; the input reads as it did. -/
def squareTellsUptoRow : OpenClaim := { program := "ytaiihdkcpbkmaaa", sum := "6b326e39ea54bbaf0a711b90c43bfc138cb4943e8948773fd00e6dc4ca5987f2", func := "zugzwang/zugzwanglaw05.SquareTells", spec := "squareTells", apart := false, narrowed := true }
def SquareTellsUptoSaid : Prop := squareTellsUptoRow.holds Try.pinned (OpenSpec.upto squareTellsSpec)

/-- 'zugzwanglaw05.SquareAll', WHERE WHAT IT READS IS OF BULK AT MOST 1048576: true; the input reads as it did. -/
def squareAllUptoRow : OpenClaim := { program := "ytaiihdkcpbkmaaa", sum := "6b326e39ea54bbaf0a711b90c43bfc138cb4943e8948773fd00e6dc4ca5987f2", func := "zugzwang/zugzwanglaw05.SquareAll", spec := "squareAll", apart := false, narrowed := true }
def SquareAllUptoSaid : Prop := squareAllUptoRow.holds Try.pinned (OpenSpec.upto squareAllSpec)

/-- 'zugzwanglaw05.SquareBack', WHERE WHAT IT READS IS OF BULK AT MOST 1048576: true; the input reads as it did. -/
def squareBackUptoRow : OpenClaim := { program := "ytaiihdkcpbkmaaa", sum := "6b326e39ea54bbaf0a711b90c43bfc138cb4943e8948773fd00e6dc4ca5987f2", func := "zugzwang/zugzwanglaw05.SquareBack", spec := "squareBack", apart := false, narrowed := true }
def SquareBackUptoSaid : Prop := squareBackUptoRow.holds Try.pinned (OpenSpec.upto squareBackSpec)

/-- 'zugzwanglaw05.SquareRays', WHERE WHAT IT READS IS OF BULK AT MOST 1048576: true; the input reads as it did. -/
def squareRaysUptoRow : OpenClaim := { program := "ytaiihdkcpbkmaaa", sum := "6b326e39ea54bbaf0a711b90c43bfc138cb4943e8948773fd00e6dc4ca5987f2", func := "zugzwang/zugzwanglaw05.SquareRays", spec := "squareRays", apart := false, narrowed := true }
def SquareRaysUptoSaid : Prop := squareRaysUptoRow.holds Try.pinned (OpenSpec.upto squareRaysSpec)

end Rows
end Go.Proofs.Ytaiihdkcpbkmaaa
