/-
  NARROWER THAN 'FOR EVERY INPUT', by the rows' own cells (each row's printed sentence says how): LegalTells: laid · LegalCounts: laid · LegalEnds: laid · LegalGoes: laid · LegalTurns: laid · EndsTell: laid · EndsAll: laid · EndsOnly: laid · EndsMoves: laid.
  DERIVED. THE GIVEN ROWS OF THIS SEAT. 9 by the template 'for every input the law returns true; each argument reads behind the call as it read before'; 0 by the template 'total and deterministic' (their statements: YthinkiljhkanhaaGreatDoorTotals.lean).
  GIVEN WITH THE SEED: the statements are not yours to turn. If you find one false, say at which input.
  Laid BY PROGRAM, IN A SANDBOX (cutbox-rows.mjs): the forced cells as the released guide's own fill.sh prints them over the translation ee1704b64729bb73… (all of the seat's roots in one cut). By AI agents, Wed Nov 11 2026. No macro, syntax, notation, axiom, sorry.
-/
import Derived.Test.YthinkiljhkanhaaGreatDoorChecked
import GoSem.Claim
import GoSem.ClaimJoined
import GoSem.ClaimMapViews
import Derived.JoinedTies
import Derived.KernelRfl
namespace Go.Proofs.YthinkiljhkanhaaGreatDoor
/- THE CELL 'sum', in the pinned program and in every row, IS THE sha256 OF THE DUMP (.gsa) THAT YthinkiljhkanhaaGreatDoorProg.lean LOADS. Nothing in Lean hashes anything: it is a label: what it is worth is what the hold of that sum in a sandbox is worth. -/
noncomputable def Tryz.pinned : Pinned := { name := "ythinkiljhkanhaagreatdoor", sum := "ee1704b64729bb731cdba276dcbdfde15fb20c430be65992ce819878505855a2", checked := Tryz.checked }
namespace Rows
def none {H : Type} : Left H := { results := [], args := [] }

/- WHAT THE LISTED PACKAGE-LEVEL VARIABLES READ AS WHEN THE CALL BEGINS. Each datum BY PROGRAM (the guide's laid-datum.mjs) off the statement by which the dump's own 'gosem.cut.vars' lays the variable. In a bare row this is a premise. The card (YthinkiljhkanhaaGreatDoorCards.lean) ties it to the program's text. -/
def laid_zugzwang_board_castlings {H : Type} : DataW H := .agg [.agg [.lit (.int .i64 1), .lit (.int .i64 0), .lit (.int .i64 4), .lit (.int .i64 7)], .agg [.lit (.int .i64 2), .lit (.int .i64 0), .lit (.int .i64 4), .lit (.int .i64 0)], .agg [.lit (.int .i64 4), .lit (.int .i64 1), .lit (.int .i64 60), .lit (.int .i64 63)], .agg [.lit (.int .i64 8), .lit (.int .i64 1), .lit (.int .i64 60), .lit (.int .i64 56)]]
def laid_zugzwang_play_castlings {H : Type} : DataW H := .agg [.agg [.lit (.int .i64 1), .lit (.int .i64 0), .lit (.int .i64 4), .lit (.int .i64 6), .lit (.int .i64 7)], .agg [.lit (.int .i64 2), .lit (.int .i64 0), .lit (.int .i64 4), .lit (.int .i64 2), .lit (.int .i64 0)], .agg [.lit (.int .i64 4), .lit (.int .i64 1), .lit (.int .i64 60), .lit (.int .i64 62), .lit (.int .i64 63)], .agg [.lit (.int .i64 8), .lit (.int .i64 1), .lit (.int .i64 60), .lit (.int .i64 58), .lit (.int .i64 56)]]
def laid_zugzwang_attack_steps {H : Type} : DataW H := .agg [.agg [.lit (.int .i64 1), .lit (.int .i64 0)], .agg [.lit (.int .i64 (-1)), .lit (.int .i64 0)], .agg [.lit (.int .i64 0), .lit (.int .i64 1)], .agg [.lit (.int .i64 0), .lit (.int .i64 (-1))], .agg [.lit (.int .i64 (-1)), .lit (.int .i64 1)], .agg [.lit (.int .i64 1), .lit (.int .i64 1)], .agg [.lit (.int .i64 (-1)), .lit (.int .i64 (-1))], .agg [.lit (.int .i64 1), .lit (.int .i64 (-1))], .agg [.lit (.int .i64 (-1)), .lit (.int .i64 (-2))], .agg [.lit (.int .i64 1), .lit (.int .i64 (-2))], .agg [.lit (.int .i64 (-2)), .lit (.int .i64 (-1))], .agg [.lit (.int .i64 2), .lit (.int .i64 (-1))], .agg [.lit (.int .i64 (-2)), .lit (.int .i64 1)], .agg [.lit (.int .i64 2), .lit (.int .i64 1)], .agg [.lit (.int .i64 (-1)), .lit (.int .i64 2)], .agg [.lit (.int .i64 1), .lit (.int .i64 2)]]
def laid_zugzwang_moves_castlings {H : Type} : DataW H := .agg [.agg [.lit (.int .i64 1), .lit (.int .i64 0), .lit (.int .i64 4), .lit (.int .i64 1)], .agg [.lit (.int .i64 2), .lit (.int .i64 0), .lit (.int .i64 4), .lit (.int .i64 (-1))], .agg [.lit (.int .i64 4), .lit (.int .i64 1), .lit (.int .i64 60), .lit (.int .i64 1)], .agg [.lit (.int .i64 8), .lit (.int .i64 1), .lit (.int .i64 60), .lit (.int .i64 (-1))]]

/-- 'zugzwanglaw10.LegalTells': WHATEVER THE INPUT: true; the input reads as it did. -/
def legalTellsSpec : ChangeSpec := { name := "legalTells", fn := fun _ => fun
  | [d1, d2] => { results := [.lit (.bool true)], args := [d1, d2] }
  | _ => none }
def legalTellsRow : OpenClaim := { program := "ythinkiljhkanhaagreatdoor", sum := "ee1704b64729bb731cdba276dcbdfde15fb20c430be65992ce819878505855a2", func := "zugzwang/zugzwanglaw10.LegalTells", spec := "legalTells", unfollowed := true, recurses := true, named := ["zugzwang/board.castlings", "zugzwang/attack.steps", "zugzwang/moves.castlings", "zugzwang/play.castlings"], apart := false, laid := [("zugzwang/board.castlings", laid_zugzwang_board_castlings), ("zugzwang/play.castlings", laid_zugzwang_play_castlings), ("zugzwang/attack.steps", laid_zugzwang_attack_steps), ("zugzwang/moves.castlings", laid_zugzwang_moves_castlings)] }
def LegalTellsSaid : Prop := legalTellsRow.holds Tryz.pinned (OpenSpec.ofChange legalTellsSpec)

/-- ITS FALSE NEIGHBOUR: 'it returns false'. Refute it at one input. -/
def legalTellsWrong : ChangeSpec := { name := "legalTells", fn := fun _ => fun
  | [d1, d2] => { results := [.lit (.bool false)], args := [d1, d2] }
  | _ => none }
def LegalTellsWrongFalsely : Prop := legalTellsRow.holds Tryz.pinned (OpenSpec.ofChange legalTellsWrong)

/-- 'zugzwanglaw10.LegalCounts': WHATEVER THE INPUT: true; the input reads as it did. -/
def legalCountsSpec : ChangeSpec := { name := "legalCounts", fn := fun _ => fun
  | [d1, d2] => { results := [.lit (.bool true)], args := [d1, d2] }
  | _ => none }
def legalCountsRow : OpenClaim := { program := "ythinkiljhkanhaagreatdoor", sum := "ee1704b64729bb731cdba276dcbdfde15fb20c430be65992ce819878505855a2", func := "zugzwang/zugzwanglaw10.LegalCounts", spec := "legalCounts", unfollowed := true, recurses := true, named := ["zugzwang/board.castlings", "zugzwang/attack.steps", "zugzwang/moves.castlings", "zugzwang/play.castlings"], apart := false, laid := [("zugzwang/board.castlings", laid_zugzwang_board_castlings), ("zugzwang/play.castlings", laid_zugzwang_play_castlings), ("zugzwang/attack.steps", laid_zugzwang_attack_steps), ("zugzwang/moves.castlings", laid_zugzwang_moves_castlings)] }
def LegalCountsSaid : Prop := legalCountsRow.holds Tryz.pinned (OpenSpec.ofChange legalCountsSpec)

/-- ITS FALSE NEIGHBOUR: 'it returns false'. Refute it at one input. -/
def legalCountsWrong : ChangeSpec := { name := "legalCounts", fn := fun _ => fun
  | [d1, d2] => { results := [.lit (.bool false)], args := [d1, d2] }
  | _ => none }
def LegalCountsWrongFalsely : Prop := legalCountsRow.holds Tryz.pinned (OpenSpec.ofChange legalCountsWrong)

/-- 'zugzwanglaw10.LegalEnds': WHATEVER THE INPUT: true; the input reads as it did. -/
def legalEndsSpec : ChangeSpec := { name := "legalEnds", fn := fun _ => fun
  | [] => { results := [.lit (.bool true)], args := [] }
  | _ => none }
def legalEndsRow : OpenClaim := { program := "ythinkiljhkanhaagreatdoor", sum := "ee1704b64729bb731cdba276dcbdfde15fb20c430be65992ce819878505855a2", func := "zugzwang/zugzwanglaw10.LegalEnds", spec := "legalEnds", unfollowed := true, recurses := true, named := ["zugzwang/board.castlings", "zugzwang/attack.steps", "zugzwang/moves.castlings", "zugzwang/play.castlings"], apart := false, laid := [("zugzwang/board.castlings", laid_zugzwang_board_castlings), ("zugzwang/play.castlings", laid_zugzwang_play_castlings), ("zugzwang/attack.steps", laid_zugzwang_attack_steps), ("zugzwang/moves.castlings", laid_zugzwang_moves_castlings)] }
def LegalEndsSaid : Prop := legalEndsRow.holds Tryz.pinned (OpenSpec.ofChange legalEndsSpec)

/-- ITS FALSE NEIGHBOUR: 'it returns false'. Refute it at one input. -/
def legalEndsWrong : ChangeSpec := { name := "legalEnds", fn := fun _ => fun
  | [] => { results := [.lit (.bool false)], args := [] }
  | _ => none }
def LegalEndsWrongFalsely : Prop := legalEndsRow.holds Tryz.pinned (OpenSpec.ofChange legalEndsWrong)

/-- 'zugzwanglaw10.LegalGoes': WHATEVER THE INPUT: true; the input reads as it did. -/
def legalGoesSpec : ChangeSpec := { name := "legalGoes", fn := fun _ => fun
  | [d1, d2] => { results := [.lit (.bool true)], args := [d1, d2] }
  | _ => none }
def legalGoesRow : OpenClaim := { program := "ythinkiljhkanhaagreatdoor", sum := "ee1704b64729bb731cdba276dcbdfde15fb20c430be65992ce819878505855a2", func := "zugzwang/zugzwanglaw10.LegalGoes", spec := "legalGoes", unfollowed := true, recurses := true, named := ["zugzwang/board.castlings", "zugzwang/attack.steps", "zugzwang/moves.castlings", "zugzwang/play.castlings"], apart := false, laid := [("zugzwang/board.castlings", laid_zugzwang_board_castlings), ("zugzwang/play.castlings", laid_zugzwang_play_castlings), ("zugzwang/attack.steps", laid_zugzwang_attack_steps), ("zugzwang/moves.castlings", laid_zugzwang_moves_castlings)] }
def LegalGoesSaid : Prop := legalGoesRow.holds Tryz.pinned (OpenSpec.ofChange legalGoesSpec)

/-- ITS FALSE NEIGHBOUR: 'it returns false'. Refute it at one input. -/
def legalGoesWrong : ChangeSpec := { name := "legalGoes", fn := fun _ => fun
  | [d1, d2] => { results := [.lit (.bool false)], args := [d1, d2] }
  | _ => none }
def LegalGoesWrongFalsely : Prop := legalGoesRow.holds Tryz.pinned (OpenSpec.ofChange legalGoesWrong)

/-- 'zugzwanglaw10.LegalTurns': WHATEVER THE INPUT: true; the input reads as it did. -/
def legalTurnsSpec : ChangeSpec := { name := "legalTurns", fn := fun _ => fun
  | [d] => { results := [.lit (.bool true)], args := [d] }
  | _ => none }
def legalTurnsRow : OpenClaim := { program := "ythinkiljhkanhaagreatdoor", sum := "ee1704b64729bb731cdba276dcbdfde15fb20c430be65992ce819878505855a2", func := "zugzwang/zugzwanglaw10.LegalTurns", spec := "legalTurns", unfollowed := true, recurses := true, named := ["zugzwang/board.castlings", "zugzwang/attack.steps", "zugzwang/moves.castlings", "zugzwang/play.castlings"], apart := false, laid := [("zugzwang/board.castlings", laid_zugzwang_board_castlings), ("zugzwang/play.castlings", laid_zugzwang_play_castlings), ("zugzwang/attack.steps", laid_zugzwang_attack_steps), ("zugzwang/moves.castlings", laid_zugzwang_moves_castlings)] }
def LegalTurnsSaid : Prop := legalTurnsRow.holds Tryz.pinned (OpenSpec.ofChange legalTurnsSpec)

/-- ITS FALSE NEIGHBOUR: 'it returns false'. Refute it at one input. -/
def legalTurnsWrong : ChangeSpec := { name := "legalTurns", fn := fun _ => fun
  | [d] => { results := [.lit (.bool false)], args := [d] }
  | _ => none }
def LegalTurnsWrongFalsely : Prop := legalTurnsRow.holds Tryz.pinned (OpenSpec.ofChange legalTurnsWrong)

/-- 'zugzwanglaw11.EndsTell': WHATEVER THE INPUT: true; the input reads as it did. -/
def endsTellSpec : ChangeSpec := { name := "endsTell", fn := fun _ => fun
  | [d1, d2] => { results := [.lit (.bool true)], args := [d1, d2] }
  | _ => none }
def endsTellRow : OpenClaim := { program := "ythinkiljhkanhaagreatdoor", sum := "ee1704b64729bb731cdba276dcbdfde15fb20c430be65992ce819878505855a2", func := "zugzwang/zugzwanglaw11.EndsTell", spec := "endsTell", unfollowed := true, recurses := true, named := ["zugzwang/board.castlings", "zugzwang/attack.steps", "zugzwang/moves.castlings", "zugzwang/play.castlings"], apart := false, laid := [("zugzwang/board.castlings", laid_zugzwang_board_castlings), ("zugzwang/play.castlings", laid_zugzwang_play_castlings), ("zugzwang/attack.steps", laid_zugzwang_attack_steps), ("zugzwang/moves.castlings", laid_zugzwang_moves_castlings)] }
def EndsTellSaid : Prop := endsTellRow.holds Tryz.pinned (OpenSpec.ofChange endsTellSpec)

/-- ITS FALSE NEIGHBOUR: 'it returns false'. Refute it at one input. -/
def endsTellWrong : ChangeSpec := { name := "endsTell", fn := fun _ => fun
  | [d1, d2] => { results := [.lit (.bool false)], args := [d1, d2] }
  | _ => none }
def EndsTellWrongFalsely : Prop := endsTellRow.holds Tryz.pinned (OpenSpec.ofChange endsTellWrong)

/-- 'zugzwanglaw11.EndsAll': WHATEVER THE INPUT: true; the input reads as it did. -/
def endsAllSpec : ChangeSpec := { name := "endsAll", fn := fun _ => fun
  | [] => { results := [.lit (.bool true)], args := [] }
  | _ => none }
def endsAllRow : OpenClaim := { program := "ythinkiljhkanhaagreatdoor", sum := "ee1704b64729bb731cdba276dcbdfde15fb20c430be65992ce819878505855a2", func := "zugzwang/zugzwanglaw11.EndsAll", spec := "endsAll", unfollowed := true, recurses := true, named := ["zugzwang/board.castlings", "zugzwang/attack.steps", "zugzwang/moves.castlings", "zugzwang/play.castlings"], apart := false, laid := [("zugzwang/board.castlings", laid_zugzwang_board_castlings), ("zugzwang/play.castlings", laid_zugzwang_play_castlings), ("zugzwang/attack.steps", laid_zugzwang_attack_steps), ("zugzwang/moves.castlings", laid_zugzwang_moves_castlings)] }
def EndsAllSaid : Prop := endsAllRow.holds Tryz.pinned (OpenSpec.ofChange endsAllSpec)

/-- ITS FALSE NEIGHBOUR: 'it returns false'. Refute it at one input. -/
def endsAllWrong : ChangeSpec := { name := "endsAll", fn := fun _ => fun
  | [] => { results := [.lit (.bool false)], args := [] }
  | _ => none }
def EndsAllWrongFalsely : Prop := endsAllRow.holds Tryz.pinned (OpenSpec.ofChange endsAllWrong)

/-- 'zugzwanglaw11.EndsOnly': WHATEVER THE INPUT: true; the input reads as it did. -/
def endsOnlySpec : ChangeSpec := { name := "endsOnly", fn := fun _ => fun
  | [d] => { results := [.lit (.bool true)], args := [d] }
  | _ => none }
def endsOnlyRow : OpenClaim := { program := "ythinkiljhkanhaagreatdoor", sum := "ee1704b64729bb731cdba276dcbdfde15fb20c430be65992ce819878505855a2", func := "zugzwang/zugzwanglaw11.EndsOnly", spec := "endsOnly", unfollowed := true, recurses := true, named := ["zugzwang/board.castlings", "zugzwang/attack.steps", "zugzwang/moves.castlings", "zugzwang/play.castlings"], apart := false, laid := [("zugzwang/board.castlings", laid_zugzwang_board_castlings), ("zugzwang/play.castlings", laid_zugzwang_play_castlings), ("zugzwang/attack.steps", laid_zugzwang_attack_steps), ("zugzwang/moves.castlings", laid_zugzwang_moves_castlings)] }
def EndsOnlySaid : Prop := endsOnlyRow.holds Tryz.pinned (OpenSpec.ofChange endsOnlySpec)

/-- ITS FALSE NEIGHBOUR: 'it returns false'. Refute it at one input. -/
def endsOnlyWrong : ChangeSpec := { name := "endsOnly", fn := fun _ => fun
  | [d] => { results := [.lit (.bool false)], args := [d] }
  | _ => none }
def EndsOnlyWrongFalsely : Prop := endsOnlyRow.holds Tryz.pinned (OpenSpec.ofChange endsOnlyWrong)

/-- 'zugzwanglaw11.EndsMoves': WHATEVER THE INPUT: true; the input reads as it did. -/
def endsMovesSpec : ChangeSpec := { name := "endsMoves", fn := fun _ => fun
  | [d] => { results := [.lit (.bool true)], args := [d] }
  | _ => none }
def endsMovesRow : OpenClaim := { program := "ythinkiljhkanhaagreatdoor", sum := "ee1704b64729bb731cdba276dcbdfde15fb20c430be65992ce819878505855a2", func := "zugzwang/zugzwanglaw11.EndsMoves", spec := "endsMoves", unfollowed := true, recurses := true, named := ["zugzwang/board.castlings", "zugzwang/attack.steps", "zugzwang/moves.castlings", "zugzwang/play.castlings"], apart := false, laid := [("zugzwang/board.castlings", laid_zugzwang_board_castlings), ("zugzwang/play.castlings", laid_zugzwang_play_castlings), ("zugzwang/attack.steps", laid_zugzwang_attack_steps), ("zugzwang/moves.castlings", laid_zugzwang_moves_castlings)] }
def EndsMovesSaid : Prop := endsMovesRow.holds Tryz.pinned (OpenSpec.ofChange endsMovesSpec)

/-- ITS FALSE NEIGHBOUR: 'it returns false'. Refute it at one input. -/
def endsMovesWrong : ChangeSpec := { name := "endsMoves", fn := fun _ => fun
  | [d] => { results := [.lit (.bool false)], args := [d] }
  | _ => none }
def EndsMovesWrongFalsely : Prop := endsMovesRow.holds Tryz.pinned (OpenSpec.ofChange endsMovesWrong)

/- THE SECOND FORM. 'bulk': how many values and letters a reading holds, each counted each time it is reached (what is shared counts as often as it is met; a slice's spare places count too). A statement '..UptoSaid' is the law's where the arguments, and the package variables that the reading takes, are together of bulk at most 1048576: NARROWER than '..Said'. Prove '..Said' where nothing that the law and all that it calls make is longer than what came in: it says more and counts as full. Else prove '..UptoSaid'. A law counts once. -/
mutual
def uptoBulk {H : Type} : DataW H → Nat
  | .lit (.string bytes) => bytes.length + 1
  | .lit _ => 1
  | .nil => 1
  | .ptr d => uptoBulk d + 1
  | .slice elems spare => uptoBulkAll elems + uptoBulkAll spare + 1
  | .agg parts => uptoBulkAll parts + 1
  | .iface _ d => uptoBulk d + 1
  | .map entries => uptoBulkEntries entries + 1
  | .held _ => 1
def uptoBulkAll {H : Type} : List (DataW H) → Nat
  | [] => 0
  | d :: r => uptoBulk d + uptoBulkAll r
def uptoBulkEntries {H : Type} : List (Lit × DataW H) → Nat
  | [] => 0
  | x :: r => uptoBulkEntry x + uptoBulkEntries r
def uptoBulkEntry {H : Type} : Lit × DataW H → Nat
  | (.string bytes, d) => bytes.length + uptoBulk d + 1
  | (_, d) => uptoBulk d + 1
 end
def uptoSmall : (H : Type) → List (DataW H) → Bool := fun _ ds => decide (uptoBulkAll ds ≤ 1048576)
def OpenSpec.upto (s : _root_.Go.ChangeSpec) : _root_.Go.OpenSpec := { _root_.Go.OpenSpec.ofChange s with cond := some uptoSmall }

/-- 'zugzwanglaw10.LegalTells', WHERE WHAT IT READS IS OF BULK AT MOST 1048576: true; the input reads as it did. -/
def legalTellsUptoRow : OpenClaim := { program := "ythinkiljhkanhaagreatdoor", sum := "ee1704b64729bb731cdba276dcbdfde15fb20c430be65992ce819878505855a2", func := "zugzwang/zugzwanglaw10.LegalTells", spec := "legalTells", unfollowed := true, recurses := true, named := ["zugzwang/board.castlings", "zugzwang/attack.steps", "zugzwang/moves.castlings", "zugzwang/play.castlings"], apart := false, laid := [("zugzwang/board.castlings", laid_zugzwang_board_castlings), ("zugzwang/play.castlings", laid_zugzwang_play_castlings), ("zugzwang/attack.steps", laid_zugzwang_attack_steps), ("zugzwang/moves.castlings", laid_zugzwang_moves_castlings)], narrowed := true }
def LegalTellsUptoSaid : Prop := legalTellsUptoRow.holds Tryz.pinned (OpenSpec.upto legalTellsSpec)

/-- 'zugzwanglaw10.LegalCounts', WHERE WHAT IT READS IS OF BULK AT MOST 1048576: true; the input reads as it did. -/
def legalCountsUptoRow : OpenClaim := { program := "ythinkiljhkanhaagreatdoor", sum := "ee1704b64729bb731cdba276dcbdfde15fb20c430be65992ce819878505855a2", func := "zugzwang/zugzwanglaw10.LegalCounts", spec := "legalCounts", unfollowed := true, recurses := true, named := ["zugzwang/board.castlings", "zugzwang/attack.steps", "zugzwang/moves.castlings", "zugzwang/play.castlings"], apart := false, laid := [("zugzwang/board.castlings", laid_zugzwang_board_castlings), ("zugzwang/play.castlings", laid_zugzwang_play_castlings), ("zugzwang/attack.steps", laid_zugzwang_attack_steps), ("zugzwang/moves.castlings", laid_zugzwang_moves_castlings)], narrowed := true }
def LegalCountsUptoSaid : Prop := legalCountsUptoRow.holds Tryz.pinned (OpenSpec.upto legalCountsSpec)

/-- 'zugzwanglaw10.LegalEnds', WHERE WHAT IT READS IS OF BULK AT MOST 1048576: true; the input reads as it did. -/
def legalEndsUptoRow : OpenClaim := { program := "ythinkiljhkanhaagreatdoor", sum := "ee1704b64729bb731cdba276dcbdfde15fb20c430be65992ce819878505855a2", func := "zugzwang/zugzwanglaw10.LegalEnds", spec := "legalEnds", unfollowed := true, recurses := true, named := ["zugzwang/board.castlings", "zugzwang/attack.steps", "zugzwang/moves.castlings", "zugzwang/play.castlings"], apart := false, laid := [("zugzwang/board.castlings", laid_zugzwang_board_castlings), ("zugzwang/play.castlings", laid_zugzwang_play_castlings), ("zugzwang/attack.steps", laid_zugzwang_attack_steps), ("zugzwang/moves.castlings", laid_zugzwang_moves_castlings)], narrowed := true }
def LegalEndsUptoSaid : Prop := legalEndsUptoRow.holds Tryz.pinned (OpenSpec.upto legalEndsSpec)

/-- 'zugzwanglaw10.LegalGoes', WHERE WHAT IT READS IS OF BULK AT MOST 1048576: true; the input reads as it did. -/
def legalGoesUptoRow : OpenClaim := { program := "ythinkiljhkanhaagreatdoor", sum := "ee1704b64729bb731cdba276dcbdfde15fb20c430be65992ce819878505855a2", func := "zugzwang/zugzwanglaw10.LegalGoes", spec := "legalGoes", unfollowed := true, recurses := true, named := ["zugzwang/board.castlings", "zugzwang/attack.steps", "zugzwang/moves.castlings", "zugzwang/play.castlings"], apart := false, laid := [("zugzwang/board.castlings", laid_zugzwang_board_castlings), ("zugzwang/play.castlings", laid_zugzwang_play_castlings), ("zugzwang/attack.steps", laid_zugzwang_attack_steps), ("zugzwang/moves.castlings", laid_zugzwang_moves_castlings)], narrowed := true }
def LegalGoesUptoSaid : Prop := legalGoesUptoRow.holds Tryz.pinned (OpenSpec.upto legalGoesSpec)

/-- 'zugzwanglaw10.LegalTurns', WHERE WHAT IT READS IS OF BULK AT MOST 1048576: true; the input reads as it did. -/
def legalTurnsUptoRow : OpenClaim := { program := "ythinkiljhkanhaagreatdoor", sum := "ee1704b64729bb731cdba276dcbdfde15fb20c430be65992ce819878505855a2", func := "zugzwang/zugzwanglaw10.LegalTurns", spec := "legalTurns", unfollowed := true, recurses := true, named := ["zugzwang/board.castlings", "zugzwang/attack.steps", "zugzwang/moves.castlings", "zugzwang/play.castlings"], apart := false, laid := [("zugzwang/board.castlings", laid_zugzwang_board_castlings), ("zugzwang/play.castlings", laid_zugzwang_play_castlings), ("zugzwang/attack.steps", laid_zugzwang_attack_steps), ("zugzwang/moves.castlings", laid_zugzwang_moves_castlings)], narrowed := true }
def LegalTurnsUptoSaid : Prop := legalTurnsUptoRow.holds Tryz.pinned (OpenSpec.upto legalTurnsSpec)

/-- 'zugzwanglaw11.EndsTell', WHERE WHAT IT READS IS OF BULK AT MOST 1048576: true; the input reads as it did. -/
def endsTellUptoRow : OpenClaim := { program := "ythinkiljhkanhaagreatdoor", sum := "ee1704b64729bb731cdba276dcbdfde15fb20c430be65992ce819878505855a2", func := "zugzwang/zugzwanglaw11.EndsTell", spec := "endsTell", unfollowed := true, recurses := true, named := ["zugzwang/board.castlings", "zugzwang/attack.steps", "zugzwang/moves.castlings", "zugzwang/play.castlings"], apart := false, laid := [("zugzwang/board.castlings", laid_zugzwang_board_castlings), ("zugzwang/play.castlings", laid_zugzwang_play_castlings), ("zugzwang/attack.steps", laid_zugzwang_attack_steps), ("zugzwang/moves.castlings", laid_zugzwang_moves_castlings)], narrowed := true }
def EndsTellUptoSaid : Prop := endsTellUptoRow.holds Tryz.pinned (OpenSpec.upto endsTellSpec)

/-- 'zugzwanglaw11.EndsAll', WHERE WHAT IT READS IS OF BULK AT MOST 1048576: true; the input reads as it did. -/
def endsAllUptoRow : OpenClaim := { program := "ythinkiljhkanhaagreatdoor", sum := "ee1704b64729bb731cdba276dcbdfde15fb20c430be65992ce819878505855a2", func := "zugzwang/zugzwanglaw11.EndsAll", spec := "endsAll", unfollowed := true, recurses := true, named := ["zugzwang/board.castlings", "zugzwang/attack.steps", "zugzwang/moves.castlings", "zugzwang/play.castlings"], apart := false, laid := [("zugzwang/board.castlings", laid_zugzwang_board_castlings), ("zugzwang/play.castlings", laid_zugzwang_play_castlings), ("zugzwang/attack.steps", laid_zugzwang_attack_steps), ("zugzwang/moves.castlings", laid_zugzwang_moves_castlings)], narrowed := true }
def EndsAllUptoSaid : Prop := endsAllUptoRow.holds Tryz.pinned (OpenSpec.upto endsAllSpec)

/-- 'zugzwanglaw11.EndsOnly', WHERE WHAT IT READS IS OF BULK AT MOST 1048576: true; the input reads as it did. -/
def endsOnlyUptoRow : OpenClaim := { program := "ythinkiljhkanhaagreatdoor", sum := "ee1704b64729bb731cdba276dcbdfde15fb20c430be65992ce819878505855a2", func := "zugzwang/zugzwanglaw11.EndsOnly", spec := "endsOnly", unfollowed := true, recurses := true, named := ["zugzwang/board.castlings", "zugzwang/attack.steps", "zugzwang/moves.castlings", "zugzwang/play.castlings"], apart := false, laid := [("zugzwang/board.castlings", laid_zugzwang_board_castlings), ("zugzwang/play.castlings", laid_zugzwang_play_castlings), ("zugzwang/attack.steps", laid_zugzwang_attack_steps), ("zugzwang/moves.castlings", laid_zugzwang_moves_castlings)], narrowed := true }
def EndsOnlyUptoSaid : Prop := endsOnlyUptoRow.holds Tryz.pinned (OpenSpec.upto endsOnlySpec)

/-- 'zugzwanglaw11.EndsMoves', WHERE WHAT IT READS IS OF BULK AT MOST 1048576: true; the input reads as it did. -/
def endsMovesUptoRow : OpenClaim := { program := "ythinkiljhkanhaagreatdoor", sum := "ee1704b64729bb731cdba276dcbdfde15fb20c430be65992ce819878505855a2", func := "zugzwang/zugzwanglaw11.EndsMoves", spec := "endsMoves", unfollowed := true, recurses := true, named := ["zugzwang/board.castlings", "zugzwang/attack.steps", "zugzwang/moves.castlings", "zugzwang/play.castlings"], apart := false, laid := [("zugzwang/board.castlings", laid_zugzwang_board_castlings), ("zugzwang/play.castlings", laid_zugzwang_play_castlings), ("zugzwang/attack.steps", laid_zugzwang_attack_steps), ("zugzwang/moves.castlings", laid_zugzwang_moves_castlings)], narrowed := true }
def EndsMovesUptoSaid : Prop := endsMovesUptoRow.holds Tryz.pinned (OpenSpec.upto endsMovesSpec)

end Rows
end Go.Proofs.YthinkiljhkanhaaGreatDoor
