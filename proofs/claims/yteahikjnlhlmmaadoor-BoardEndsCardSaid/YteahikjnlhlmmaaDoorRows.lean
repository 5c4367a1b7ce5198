/-
  NARROWER THAN 'FOR EVERY INPUT', by the rows' own cells (each row's printed sentence says how): BoardTells: laid · BoardEnds: laid · BoardTurns: laid · BoardPuts: laid.
  DERIVED. THE GIVEN ROWS OF THIS SEAT. 4 by the template 'for every input the law returns true; each argument reads behind the call as it read before'; 0 by the template 'total and deterministic' (their statements: YteahikjnlhlmmaaDoorTotals.lean).
  GIVEN WITH THE SEED: the statements are not yours to turn. If you find one false, say at which input.
  Laid BY PROGRAM, IN A SANDBOX (cutbox-rows.mjs): the forced cells as the released guide's own fill.sh prints them over the translation 957e28ff823e3112… (all of the seat's roots in one cut). By AI agents, Wed Nov 11 2026. No macro, syntax, notation, axiom, sorry.
-/
import Derived.Test.YteahikjnlhlmmaaDoorChecked
import GoSem.Claim
import GoSem.ClaimJoined
import GoSem.ClaimMapViews
import Derived.JoinedTies
import Derived.KernelRfl
namespace Go.Proofs.YteahikjnlhlmmaaDoor
/- THE CELL 'sum', in the pinned program and in every row, IS THE sha256 OF THE DUMP (.gsa) THAT YteahikjnlhlmmaaDoorProg.lean LOADS. Nothing in Lean hashes anything: it is a label: what it is worth is what the hold of that sum in a sandbox is worth. -/
noncomputable def Tryd.pinned : Pinned := { name := "yteahikjnlhlmmaadoor", sum := "957e28ff823e3112a7a6a9b0c77cf7ca1333208aab85c33547011c7d11c82b56", checked := Tryd.checked }
namespace Rows
def none {H : Type} : Left H := { results := [], args := [] }

/- WHAT THE LISTED PACKAGE-LEVEL VARIABLES READ AS WHEN THE CALL BEGINS. Each datum BY PROGRAM (the guide's laid-datum.mjs) off the statement by which the dump's own 'gosem.cut.vars' lays the variable. In a bare row this is a premise. The card (YteahikjnlhlmmaaDoorCards.lean) ties it to the program's text. -/
def laid_zugzwang_board_officers {H : Type} : DataW H := .agg [.lit (.int .i64 4), .lit (.int .i64 2), .lit (.int .i64 3), .lit (.int .i64 5), .lit (.int .i64 6), .lit (.int .i64 3), .lit (.int .i64 2), .lit (.int .i64 4)]
def laid_zugzwang_board_castlings {H : Type} : DataW H := .agg [.agg [.lit (.int .i64 1), .lit (.int .i64 0), .lit (.int .i64 4), .lit (.int .i64 7)], .agg [.lit (.int .i64 2), .lit (.int .i64 0), .lit (.int .i64 4), .lit (.int .i64 0)], .agg [.lit (.int .i64 4), .lit (.int .i64 1), .lit (.int .i64 60), .lit (.int .i64 63)], .agg [.lit (.int .i64 8), .lit (.int .i64 1), .lit (.int .i64 60), .lit (.int .i64 56)]]

/-- 'zugzwanglaw06.BoardTells': WHATEVER THE INPUT: true; the input reads as it did. -/
def boardTellsSpec : ChangeSpec := { name := "boardTells", fn := fun _ => fun
  | [d1, d2, d3] => { results := [.lit (.bool true)], args := [d1, d2, d3] }
  | _ => none }
def boardTellsRow : OpenClaim := { program := "yteahikjnlhlmmaadoor", sum := "957e28ff823e3112a7a6a9b0c77cf7ca1333208aab85c33547011c7d11c82b56", func := "zugzwang/zugzwanglaw06.BoardTells", spec := "boardTells", named := ["zugzwang/board.officers", "zugzwang/board.castlings"], apart := false, laid := [("zugzwang/board.officers", laid_zugzwang_board_officers), ("zugzwang/board.castlings", laid_zugzwang_board_castlings)] }
def BoardTellsSaid : Prop := boardTellsRow.holds Tryd.pinned (OpenSpec.ofChange boardTellsSpec)

/-- ITS FALSE NEIGHBOUR: 'it returns false'. Refute it at one input. -/
def boardTellsWrong : ChangeSpec := { name := "boardTells", fn := fun _ => fun
  | [d1, d2, d3] => { results := [.lit (.bool false)], args := [d1, d2, d3] }
  | _ => none }
def BoardTellsWrongFalsely : Prop := boardTellsRow.holds Tryd.pinned (OpenSpec.ofChange boardTellsWrong)

/-- 'zugzwanglaw06.BoardEnds': WHATEVER THE INPUT: true; the input reads as it did. -/
def boardEndsSpec : ChangeSpec := { name := "boardEnds", fn := fun _ => fun
  | [] => { results := [.lit (.bool true)], args := [] }
  | _ => none }
def boardEndsRow : OpenClaim := { program := "yteahikjnlhlmmaadoor", sum := "957e28ff823e3112a7a6a9b0c77cf7ca1333208aab85c33547011c7d11c82b56", func := "zugzwang/zugzwanglaw06.BoardEnds", spec := "boardEnds", named := ["zugzwang/board.officers", "zugzwang/board.castlings"], apart := false, laid := [("zugzwang/board.officers", laid_zugzwang_board_officers), ("zugzwang/board.castlings", laid_zugzwang_board_castlings)] }
def BoardEndsSaid : Prop := boardEndsRow.holds Tryd.pinned (OpenSpec.ofChange boardEndsSpec)

/-- ITS FALSE NEIGHBOUR: 'it returns false'. Refute it at one input. -/
def boardEndsWrong : ChangeSpec := { name := "boardEnds", fn := fun _ => fun
  | [] => { results := [.lit (.bool false)], args := [] }
  | _ => none }
def BoardEndsWrongFalsely : Prop := boardEndsRow.holds Tryd.pinned (OpenSpec.ofChange boardEndsWrong)

/-- 'zugzwanglaw06.BoardTurns': WHATEVER THE INPUT: true; the input reads as it did. -/
def boardTurnsSpec : ChangeSpec := { name := "boardTurns", fn := fun _ => fun
  | [d1, d2, d3] => { results := [.lit (.bool true)], args := [d1, d2, d3] }
  | _ => none }
def boardTurnsRow : OpenClaim := { program := "yteahikjnlhlmmaadoor", sum := "957e28ff823e3112a7a6a9b0c77cf7ca1333208aab85c33547011c7d11c82b56", func := "zugzwang/zugzwanglaw06.BoardTurns", spec := "boardTurns", named := ["zugzwang/board.officers", "zugzwang/board.castlings"], apart := false, laid := [("zugzwang/board.officers", laid_zugzwang_board_officers), ("zugzwang/board.castlings", laid_zugzwang_board_castlings)] }
def BoardTurnsSaid : Prop := boardTurnsRow.holds Tryd.pinned (OpenSpec.ofChange boardTurnsSpec)

/-- ITS FALSE NEIGHBOUR: 'it returns false'. Refute it at one input. -/
def boardTurnsWrong : ChangeSpec := { name := "boardTurns", fn := fun _ => fun
  | [d1, d2, d3] => { results := [.lit (.bool false)], args := [d1, d2, d3] }
  | _ => none }
def BoardTurnsWrongFalsely : Prop := boardTurnsRow.holds Tryd.pinned (OpenSpec.ofChange boardTurnsWrong)

/-- 'zugzwanglaw06.BoardPuts': WHATEVER THE INPUT: true; the input reads as it did. -/
def boardPutsSpec : ChangeSpec := { name := "boardPuts", fn := fun _ => fun
  | [d1, d2, d3, d4] => { results := [.lit (.bool true)], args := [d1, d2, d3, d4] }
  | _ => none }
def boardPutsRow : OpenClaim := { program := "yteahikjnlhlmmaadoor", sum := "957e28ff823e3112a7a6a9b0c77cf7ca1333208aab85c33547011c7d11c82b56", func := "zugzwang/zugzwanglaw06.BoardPuts", spec := "boardPuts", named := ["zugzwang/board.officers", "zugzwang/board.castlings"], apart := false, laid := [("zugzwang/board.officers", laid_zugzwang_board_officers), ("zugzwang/board.castlings", laid_zugzwang_board_castlings)] }
def BoardPutsSaid : Prop := boardPutsRow.holds Tryd.pinned (OpenSpec.ofChange boardPutsSpec)

/-- ITS FALSE NEIGHBOUR: 'it returns false'. Refute it at one input. -/
def boardPutsWrong : ChangeSpec := { name := "boardPuts", fn := fun _ => fun
  | [d1, d2, d3, d4] => { results := [.lit (.bool false)], args := [d1, d2, d3, d4] }
  | _ => none }
def BoardPutsWrongFalsely : Prop := boardPutsRow.holds Tryd.pinned (OpenSpec.ofChange boardPutsWrong)

/- THE SECOND FORM. 'bulk': how many values and letters a reading holds, each counted each time it is reached (what is shared counts as often as it is met; a slice's spare places count too). A statement '..UptoSaid' is the law's where the arguments, and the package variables that the reading takes, are together of bulk at most 1048576: NARROWER than '..Said'. Prove '..Said' where nothing that the law and all that it calls make is longer than what came in: it says more and counts as full. Else prove '..UptoSaid'. A law counts once. -/
mutual
def uptoBulk {H : Type} : DataW H → Nat
  | .lit (.string bytes) => bytes.length + 1
  | .lit _ => 1
  | .nil => 1
  | .ptr d => uptoBulk d + 1
  | .slice elems spare => uptoBulkAll elems + uptoBulkAll spare + 1
  | .agg parts => uptoBulkAll parts + 1
  | .iface _ d => uptoBulk d + 1
  | .map entries => uptoBulkEntries entries + 1
  | .held _ => 1
def uptoBulkAll {H : Type} : List (DataW H) → Nat
  | [] => 0
  | d :: r => uptoBulk d + uptoBulkAll r
def uptoBulkEntries {H : Type} : List (Lit × DataW H) → Nat
  | [] => 0
  | x :: r => uptoBulkEntry x + uptoBulkEntries r
def uptoBulkEntry {H : Type} : Lit × DataW H → Nat
  | (.string bytes, d) => bytes.length + uptoBulk d + 1
  | (_, d) => uptoBulk d + 1
 end
def uptoSmall : (H : Type) → List (DataW H) → Bool := fun _ ds => decide (uptoBulkAll ds ≤ 1048576)
def OpenSpec.upto (s : _root_.Go.ChangeSpec) : _root_.Go.OpenSpec := { _root_.Go.OpenSpec.ofChange s with cond := some uptoSmall }

/-- 'zugzwanglaw06.BoardTells', WHERE WHAT IT READS IS OF BULK AT MOST 1048576: true; the input reads as it did. -/
def boardTellsUptoRow : OpenClaim := { program := "yteahikjnlhlmmaadoor", sum := "957e28ff823e3112a7a6a9b0c77cf7ca1333208aab85c33547011c7d11c82b56", func := "zugzwang/zugzwanglaw06.BoardTells", spec := "boardTells", named := ["zugzwang/board.officers", "zugzwang/board.castlings"], apart := false, laid := [("zugzwang/board.officers", laid_zugzwang_board_officers), ("zugzwang/board.castlings", laid_zugzwang_board_castlings)], narrowed := true }
def BoardTellsUptoSaid : Prop := boardTellsUptoRow.holds Tryd.pinned (OpenSpec.upto boardTellsSpec)

/-- 'zugzwanglaw06.BoardEnds', WHERE WHAT IT READS IS OF BULK AT MOST 1048576: true; the input reads as it did. -/
def boardEndsUptoRow : OpenClaim := { program := "yteahikjnlhlmmaadoor", sum := "957e28ff823e3112a7a6a9b0c77cf7ca1333208aab85c33547011c7d11c82b56", func := "zugzwang/zugzwanglaw06.BoardEnds", spec := "boardEnds", named := ["zugzwang/board.officers", "zugzwang/board.castlings"], apart := false, laid := [("zugzwang/board.officers", laid_zugzwang_board_officers), ("zugzwang/board.castlings", laid_zugzwang_board_castlings)], narrowed := true }
def BoardEndsUptoSaid : Prop := boardEndsUptoRow.holds Tryd.pinned (OpenSpec.upto boardEndsSpec)

/-- 'zugzwanglaw06.BoardTurns', WHERE WHAT IT READS IS OF BULK AT MOST 1048576: true; the input reads as it did. -/
def boardTurnsUptoRow : OpenClaim := { program := "yteahikjnlhlmmaadoor", sum := "957e28ff823e3112a7a6a9b0c77cf7ca1333208aab85c33547011c7d11c82b56", func := "zugzwang/zugzwanglaw06.BoardTurns", spec := "boardTurns", named := ["zugzwang/board.officers", "zugzwang/board.castlings"], apart := false, laid := [("zugzwang/board.officers", laid_zugzwang_board_officers), ("zugzwang/board.castlings", laid_zugzwang_board_castlings)], narrowed := true }
def BoardTurnsUptoSaid : Prop := boardTurnsUptoRow.holds Tryd.pinned (OpenSpec.upto boardTurnsSpec)

/-- 'zugzwanglaw06.BoardPuts', WHERE WHAT IT READS IS OF BULK AT MOST 1048576: true; the input reads as it did. -/
def boardPutsUptoRow : OpenClaim := { program := "yteahikjnlhlmmaadoor", sum := "957e28ff823e3112a7a6a9b0c77cf7ca1333208aab85c33547011c7d11c82b56", func := "zugzwang/zugzwanglaw06.BoardPuts", spec := "boardPuts", named := ["zugzwang/board.officers", "zugzwang/board.castlings"], apart := false, laid := [("zugzwang/board.officers", laid_zugzwang_board_officers), ("zugzwang/board.castlings", laid_zugzwang_board_castlings)], narrowed := true }
def BoardPutsUptoSaid : Prop := boardPutsUptoRow.holds Tryd.pinned (OpenSpec.upto boardPutsSpec)

end Rows
end Go.Proofs.YteahikjnlhlmmaaDoor
