/-
  NARROWER THAN 'FOR EVERY INPUT', by the rows' own cells (each row's printed sentence says how): MovesTell: laid · MovesEnds: laid · MovesCan: laid · MovesTurn: laid.
  DERIVED. THE GIVEN ROWS OF THIS SEAT. 4 by the template 'for every input the law returns true; each argument reads behind the call as it read before'; 0 by the template 'total and deterministic' (their statements: YtjhlombbkodpaaaDoorTotals.lean).
  GIVEN WITH THE SEED: the statements are not yours to turn. If you find one false, say at which input.
  Laid BY PROGRAM, IN A SANDBOX (cutbox-rows.mjs): the forced cells as the released guide's own fill.sh prints them over the translation 9526ab789f9b5d92… (all of the seat's roots in one cut). By AI agents, Wed Nov 11 2026. No macro, syntax, notation, axiom, sorry.
-/
import Derived.Test.YtjhlombbkodpaaaDoorChecked
import GoSem.Claim
import GoSem.ClaimJoined
import GoSem.ClaimMapViews
import Derived.JoinedTies
import Derived.KernelRfl
namespace Go.Proofs.YtjhlombbkodpaaaDoor
/- THE CELL 'sum', in the pinned program and in every row, IS THE sha256 OF THE DUMP (.gsa) THAT YtjhlombbkodpaaaDoorProg.lean LOADS. Nothing in Lean hashes anything: it is a label: what it is worth is what the hold of that sum in a sandbox is worth. -/
noncomputable def Tryd.pinned : Pinned := { name := "ytjhlombbkodpaaadoor", sum := "9526ab789f9b5d921de74210e7e0d2735b9abc211d8e462f7e25bb10161f5734", checked := Tryd.checked }
namespace Rows
def none {H : Type} : Left H := { results := [], args := [] }

/- WHAT THE LISTED PACKAGE-LEVEL VARIABLES READ AS WHEN THE CALL BEGINS. Each datum BY PROGRAM (the guide's laid-datum.mjs) off the statement by which the dump's own 'gosem.cut.vars' lays the variable. In a bare row this is a premise. The card (YtjhlombbkodpaaaDoorCards.lean) ties it to the program's text. -/
def laid_zugzwang_attack_steps {H : Type} : DataW H := .agg [.agg [.lit (.int .i64 1), .lit (.int .i64 0)], .agg [.lit (.int .i64 (-1)), .lit (.int .i64 0)], .agg [.lit (.int .i64 0), .lit (.int .i64 1)], .agg [.lit (.int .i64 0), .lit (.int .i64 (-1))], .agg [.lit (.int .i64 (-1)), .lit (.int .i64 1)], .agg [.lit (.int .i64 1), .lit (.int .i64 1)], .agg [.lit (.int .i64 (-1)), .lit (.int .i64 (-1))], .agg [.lit (.int .i64 1), .lit (.int .i64 (-1))], .agg [.lit (.int .i64 (-1)), .lit (.int .i64 (-2))], .agg [.lit (.int .i64 1), .lit (.int .i64 (-2))], .agg [.lit (.int .i64 (-2)), .lit (.int .i64 (-1))], .agg [.lit (.int .i64 2), .lit (.int .i64 (-1))], .agg [.lit (.int .i64 (-2)), .lit (.int .i64 1)], .agg [.lit (.int .i64 2), .lit (.int .i64 1)], .agg [.lit (.int .i64 (-1)), .lit (.int .i64 2)], .agg [.lit (.int .i64 1), .lit (.int .i64 2)]]
def laid_zugzwang_moves_castlings {H : Type} : DataW H := .agg [.agg [.lit (.int .i64 1), .lit (.int .i64 0), .lit (.int .i64 4), .lit (.int .i64 1)], .agg [.lit (.int .i64 2), .lit (.int .i64 0), .lit (.int .i64 4), .lit (.int .i64 (-1))], .agg [.lit (.int .i64 4), .lit (.int .i64 1), .lit (.int .i64 60), .lit (.int .i64 1)], .agg [.lit (.int .i64 8), .lit (.int .i64 1), .lit (.int .i64 60), .lit (.int .i64 (-1))]]
def laid_zugzwang_play_castlings {H : Type} : DataW H := .agg [.agg [.lit (.int .i64 1), .lit (.int .i64 0), .lit (.int .i64 4), .lit (.int .i64 6), .lit (.int .i64 7)], .agg [.lit (.int .i64 2), .lit (.int .i64 0), .lit (.int .i64 4), .lit (.int .i64 2), .lit (.int .i64 0)], .agg [.lit (.int .i64 4), .lit (.int .i64 1), .lit (.int .i64 60), .lit (.int .i64 62), .lit (.int .i64 63)], .agg [.lit (.int .i64 8), .lit (.int .i64 1), .lit (.int .i64 60), .lit (.int .i64 58), .lit (.int .i64 56)]]
def laid_zugzwang_board_castlings {H : Type} : DataW H := .agg [.agg [.lit (.int .i64 1), .lit (.int .i64 0), .lit (.int .i64 4), .lit (.int .i64 7)], .agg [.lit (.int .i64 2), .lit (.int .i64 0), .lit (.int .i64 4), .lit (.int .i64 0)], .agg [.lit (.int .i64 4), .lit (.int .i64 1), .lit (.int .i64 60), .lit (.int .i64 63)], .agg [.lit (.int .i64 8), .lit (.int .i64 1), .lit (.int .i64 60), .lit (.int .i64 56)]]

/-- 'zugzwanglaw09.MovesTell': WHATEVER THE INPUT: true; the input reads as it did. -/
def movesTellSpec : ChangeSpec := { name := "movesTell", fn := fun _ => fun
  | [d1, d2, d3, d4] => { results := [.lit (.bool true)], args := [d1, d2, d3, d4] }
  | _ => none }
def movesTellRow : OpenClaim := { program := "ytjhlombbkodpaaadoor", sum := "9526ab789f9b5d921de74210e7e0d2735b9abc211d8e462f7e25bb10161f5734", func := "zugzwang/zugzwanglaw09.MovesTell", spec := "movesTell", unfollowed := true, recurses := true, named := ["zugzwang/attack.steps", "zugzwang/moves.castlings"], apart := false, laid := [("zugzwang/attack.steps", laid_zugzwang_attack_steps), ("zugzwang/moves.castlings", laid_zugzwang_moves_castlings)] }
def MovesTellSaid : Prop := movesTellRow.holds Tryd.pinned (OpenSpec.ofChange movesTellSpec)

/-- ITS FALSE NEIGHBOUR: 'it returns false'. Refute it at one input. -/
def movesTellWrong : ChangeSpec := { name := "movesTell", fn := fun _ => fun
  | [d1, d2, d3, d4] => { results := [.lit (.bool false)], args := [d1, d2, d3, d4] }
  | _ => none }
def MovesTellWrongFalsely : Prop := movesTellRow.holds Tryd.pinned (OpenSpec.ofChange movesTellWrong)

/-- 'zugzwanglaw09.MovesEnds': WHATEVER THE INPUT: true; the input reads as it did. -/
def movesEndsSpec : ChangeSpec := { name := "movesEnds", fn := fun _ => fun
  | [] => { results := [.lit (.bool true)], args := [] }
  | _ => none }
def movesEndsRow : OpenClaim := { program := "ytjhlombbkodpaaadoor", sum := "9526ab789f9b5d921de74210e7e0d2735b9abc211d8e462f7e25bb10161f5734", func := "zugzwang/zugzwanglaw09.MovesEnds", spec := "movesEnds", unfollowed := true, recurses := true, named := ["zugzwang/attack.steps", "zugzwang/moves.castlings"], apart := false, laid := [("zugzwang/attack.steps", laid_zugzwang_attack_steps), ("zugzwang/moves.castlings", laid_zugzwang_moves_castlings)] }
def MovesEndsSaid : Prop := movesEndsRow.holds Tryd.pinned (OpenSpec.ofChange movesEndsSpec)

/-- ITS FALSE NEIGHBOUR: 'it returns false'. Refute it at one input. -/
def movesEndsWrong : ChangeSpec := { name := "movesEnds", fn := fun _ => fun
  | [] => { results := [.lit (.bool false)], args := [] }
  | _ => none }
def MovesEndsWrongFalsely : Prop := movesEndsRow.holds Tryd.pinned (OpenSpec.ofChange movesEndsWrong)

/-- 'zugzwanglaw09.MovesCan': WHATEVER THE INPUT: true; the input reads as it did. -/
def movesCanSpec : ChangeSpec := { name := "movesCan", fn := fun _ => fun
  | [d] => { results := [.lit (.bool true)], args := [d] }
  | _ => none }
def movesCanRow : OpenClaim := { program := "ytjhlombbkodpaaadoor", sum := "9526ab789f9b5d921de74210e7e0d2735b9abc211d8e462f7e25bb10161f5734", func := "zugzwang/zugzwanglaw09.MovesCan", spec := "movesCan", unfollowed := true, recurses := true, named := ["zugzwang/attack.steps", "zugzwang/moves.castlings", "zugzwang/play.castlings"], apart := false, laid := [("zugzwang/play.castlings", laid_zugzwang_play_castlings), ("zugzwang/attack.steps", laid_zugzwang_attack_steps), ("zugzwang/moves.castlings", laid_zugzwang_moves_castlings)] }
def MovesCanSaid : Prop := movesCanRow.holds Tryd.pinned (OpenSpec.ofChange movesCanSpec)

/-- ITS FALSE NEIGHBOUR: 'it returns false'. Refute it at one input. -/
def movesCanWrong : ChangeSpec := { name := "movesCan", fn := fun _ => fun
  | [d] => { results := [.lit (.bool false)], args := [d] }
  | _ => none }
def MovesCanWrongFalsely : Prop := movesCanRow.holds Tryd.pinned (OpenSpec.ofChange movesCanWrong)

/-- 'zugzwanglaw09.MovesTurn': WHATEVER THE INPUT: true; the input reads as it did. -/
def movesTurnSpec : ChangeSpec := { name := "movesTurn", fn := fun _ => fun
  | [d] => { results := [.lit (.bool true)], args := [d] }
  | _ => none }
def movesTurnRow : OpenClaim := { program := "ytjhlombbkodpaaadoor", sum := "9526ab789f9b5d921de74210e7e0d2735b9abc211d8e462f7e25bb10161f5734", func := "zugzwang/zugzwanglaw09.MovesTurn", spec := "movesTurn", unfollowed := true, recurses := true, named := ["zugzwang/attack.steps", "zugzwang/moves.castlings", "zugzwang/board.castlings"], apart := false, laid := [("zugzwang/board.castlings", laid_zugzwang_board_castlings), ("zugzwang/attack.steps", laid_zugzwang_attack_steps), ("zugzwang/moves.castlings", laid_zugzwang_moves_castlings)] }
def MovesTurnSaid : Prop := movesTurnRow.holds Tryd.pinned (OpenSpec.ofChange movesTurnSpec)

/-- ITS FALSE NEIGHBOUR: 'it returns false'. Refute it at one input. -/
def movesTurnWrong : ChangeSpec := { name := "movesTurn", fn := fun _ => fun
  | [d] => { results := [.lit (.bool false)], args := [d] }
  | _ => none }
def MovesTurnWrongFalsely : Prop := movesTurnRow.holds Tryd.pinned (OpenSpec.ofChange movesTurnWrong)

/- THE SECOND FORM. 'bulk': how many values and letters a reading holds, each counted each time it is reached (what is shared counts as often as it is met; a slice's spare places count too). A statement '..UptoSaid' is the law's where the arguments, and the package variables that the reading takes, are together of bulk at most 1048576: NARROWER than '..Said'. Prove '..Said' where nothing that the law and all that it calls make is longer than what came in: it says more and counts as full. Else prove '..UptoSaid'. A law counts once. -/
mutual
def uptoBulk {H : Type} : DataW H → Nat
  | .lit (.string bytes) => bytes.length + 1
  | .lit _ => 1
  | .nil => 1
  | .ptr d => uptoBulk d + 1
  | .slice elems spare => uptoBulkAll elems + uptoBulkAll spare + 1
  | .agg parts => uptoBulkAll parts + 1
  | .iface _ d => uptoBulk d + 1
  | .map entries => uptoBulkEntries entries + 1
  | .held _ => 1
def uptoBulkAll {H : Type} : List (DataW H) → Nat
  | [] => 0
  | d :: r => uptoBulk d + uptoBulkAll r
def uptoBulkEntries {H : Type} : List (Lit × DataW H) → Nat
  | [] => 0
  | x :: r => uptoBulkEntry x + uptoBulkEntries r
def uptoBulkEntry {H : Type} : Lit × DataW H → Nat
  | (.string bytes, d) => bytes.length + uptoBulk d + 1
  | (_, d) => uptoBulk d + 1
 end
def uptoSmall : (H : Type) → List (DataW H) → Bool := fun _ ds => decide (uptoBulkAll ds ≤ 1048576)
def OpenSpec.upto (s : _root_.Go.ChangeSpec) : _root_.Go.OpenSpec := { _root_.Go.OpenSpec.ofChange s with cond := some uptoSmall }

/-- 'zugzwanglaw09.MovesTell', WHERE WHAT IT READS IS OF BULK AT MOST 1048576: true; the input reads as it did. -/
def movesTellUptoRow : OpenClaim := { program := "ytjhlombbkodpaaadoor", sum := "9526ab789f9b5d921de74210e7e0d2735b9abc211d8e462f7e25bb10161f5734", func := "zugzwang/zugzwanglaw09.MovesTell", spec := "movesTell", unfollowed := true, recurses := true, named := ["zugzwang/attack.steps", "zugzwang/moves.castlings"], apart := false, laid := [("zugzwang/attack.steps", laid_zugzwang_attack_steps), ("zugzwang/moves.castlings", laid_zugzwang_moves_castlings)], narrowed := true }
def MovesTellUptoSaid : Prop := movesTellUptoRow.holds Tryd.pinned (OpenSpec.upto movesTellSpec)

/-- 'zugzwanglaw09.MovesEnds', WHERE WHAT IT READS IS OF BULK AT MOST 1048576: true; the input reads as it did. -/
def movesEndsUptoRow : OpenClaim := { program := "ytjhlombbkodpaaadoor", sum := "9526ab789f9b5d921de74210e7e0d2735b9abc211d8e462f7e25bb10161f5734", func := "zugzwang/zugzwanglaw09.MovesEnds", spec := "movesEnds", unfollowed := true, recurses := true, named := ["zugzwang/attack.steps", "zugzwang/moves.castlings"], apart := false, laid := [("zugzwang/attack.steps", laid_zugzwang_attack_steps), ("zugzwang/moves.castlings", laid_zugzwang_moves_castlings)], narrowed := true }
def MovesEndsUptoSaid : Prop := movesEndsUptoRow.holds Tryd.pinned (OpenSpec.upto movesEndsSpec)

/-- 'zugzwanglaw09.MovesCan', WHERE WHAT IT READS IS OF BULK AT MOST 1048576: true; the input reads as it did. -/
def movesCanUptoRow : OpenClaim := { program := "ytjhlombbkodpaaadoor", sum := "9526ab789f9b5d921de74210e7e0d2735b9abc211d8e462f7e25bb10161f5734", func := "zugzwang/zugzwanglaw09.MovesCan", spec := "movesCan", unfollowed := true, recurses := true, named := ["zugzwang/attack.steps", "zugzwang/moves.castlings", "zugzwang/play.castlings"], apart := false, laid := [("zugzwang/play.castlings", laid_zugzwang_play_castlings), ("zugzwang/attack.steps", laid_zugzwang_attack_steps), ("zugzwang/moves.castlings", laid_zugzwang_moves_castlings)], narrowed := true }
def MovesCanUptoSaid : Prop := movesCanUptoRow.holds Tryd.pinned (OpenSpec.upto movesCanSpec)

/-- 'zugzwanglaw09.MovesTurn', WHERE WHAT IT READS IS OF BULK AT MOST 1048576: true; the input reads as it did. -/
def movesTurnUptoRow : OpenClaim := { program := "ytjhlombbkodpaaadoor", sum := "9526ab789f9b5d921de74210e7e0d2735b9abc211d8e462f7e25bb10161f5734", func := "zugzwang/zugzwanglaw09.MovesTurn", spec := "movesTurn", unfollowed := true, recurses := true, named := ["zugzwang/attack.steps", "zugzwang/moves.castlings", "zugzwang/board.castlings"], apart := false, laid := [("zugzwang/board.castlings", laid_zugzwang_board_castlings), ("zugzwang/attack.steps", laid_zugzwang_attack_steps), ("zugzwang/moves.castlings", laid_zugzwang_moves_castlings)], narrowed := true }
def MovesTurnUptoSaid : Prop := movesTurnUptoRow.holds Tryd.pinned (OpenSpec.upto movesTurnSpec)

end Rows
end Go.Proofs.YtjhlombbkodpaaaDoor
