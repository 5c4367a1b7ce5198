/-
  NARROWER THAN 'FOR EVERY INPUT', by the rows' own cells (each row's printed sentence says how): AttackTells: laid · AttackEnds: laid · AttackBoth: laid · AttackTurns: laid.
  DERIVED. THE GIVEN ROWS OF THIS SEAT. 4 by the template 'for every input the law returns true; each argument reads behind the call as it read before'; 0 by the template 'total and deterministic' (their statements: YtbnpphecknhpeaaDoorTotals.lean).
  GIVEN WITH THE SEED: the statements are not yours to turn. If you find one false, say at which input.
  Laid BY PROGRAM, IN A SANDBOX (cutbox-rows.mjs): the forced cells as the released guide's own fill.sh prints them over the translation 79ed9db85f895a89… (all of the seat's roots in one cut). By AI agents, Wed Nov 11 2026. No macro, syntax, notation, axiom, sorry.
-/
import Derived.Test.YtbnpphecknhpeaaDoorChecked
import GoSem.Claim
import GoSem.ClaimJoined
import GoSem.ClaimMapViews
import Derived.JoinedTies
import Derived.KernelRfl
namespace Go.Proofs.YtbnpphecknhpeaaDoor
/- THE CELL 'sum', in the pinned program and in every row, IS THE sha256 OF THE DUMP (.gsa) THAT YtbnpphecknhpeaaDoorProg.lean LOADS. Nothing in Lean hashes anything: it is a label: what it is worth is what the hold of that sum in a sandbox is worth. -/
noncomputable def Tryd.pinned : Pinned := { name := "ytbnpphecknhpeaadoor", sum := "79ed9db85f895a898539afd18a63b58a4e22608d48f594cfe5edd1f681ec7b72", checked := Tryd.checked }
namespace Rows
def none {H : Type} : Left H := { results := [], args := [] }

/- WHAT THE LISTED PACKAGE-LEVEL VARIABLES READ AS WHEN THE CALL BEGINS. Each datum BY PROGRAM (the guide's laid-datum.mjs) off the statement by which the dump's own 'gosem.cut.vars' lays the variable. In a bare row this is a premise. The card (YtbnpphecknhpeaaDoorCards.lean) ties it to the program's text. -/
def laid_zugzwang_attack_steps {H : Type} : DataW H := .agg [.agg [.lit (.int .i64 1), .lit (.int .i64 0)], .agg [.lit (.int .i64 (-1)), .lit (.int .i64 0)], .agg [.lit (.int .i64 0), .lit (.int .i64 1)], .agg [.lit (.int .i64 0), .lit (.int .i64 (-1))], .agg [.lit (.int .i64 (-1)), .lit (.int .i64 1)], .agg [.lit (.int .i64 1), .lit (.int .i64 1)], .agg [.lit (.int .i64 (-1)), .lit (.int .i64 (-1))], .agg [.lit (.int .i64 1), .lit (.int .i64 (-1))], .agg [.lit (.int .i64 (-1)), .lit (.int .i64 (-2))], .agg [.lit (.int .i64 1), .lit (.int .i64 (-2))], .agg [.lit (.int .i64 (-2)), .lit (.int .i64 (-1))], .agg [.lit (.int .i64 2), .lit (.int .i64 (-1))], .agg [.lit (.int .i64 (-2)), .lit (.int .i64 1)], .agg [.lit (.int .i64 2), .lit (.int .i64 1)], .agg [.lit (.int .i64 (-1)), .lit (.int .i64 2)], .agg [.lit (.int .i64 1), .lit (.int .i64 2)]]

/-- 'zugzwanglaw07.AttackTells': WHATEVER THE INPUT: true; the input reads as it did. -/
def attackTellsSpec : ChangeSpec := { name := "attackTells", fn := fun _ => fun
  | [d1, d2, d3, d4] => { results := [.lit (.bool true)], args := [d1, d2, d3, d4] }
  | _ => none }
def attackTellsRow : OpenClaim := { program := "ytbnpphecknhpeaadoor", sum := "79ed9db85f895a898539afd18a63b58a4e22608d48f594cfe5edd1f681ec7b72", func := "zugzwang/zugzwanglaw07.AttackTells", spec := "attackTells", unfollowed := true, recurses := true, named := ["zugzwang/attack.steps"], apart := false, laid := [("zugzwang/attack.steps", laid_zugzwang_attack_steps)] }
def AttackTellsSaid : Prop := attackTellsRow.holds Tryd.pinned (OpenSpec.ofChange attackTellsSpec)

/-- ITS FALSE NEIGHBOUR: 'it returns false'. Refute it at one input. -/
def attackTellsWrong : ChangeSpec := { name := "attackTells", fn := fun _ => fun
  | [d1, d2, d3, d4] => { results := [.lit (.bool false)], args := [d1, d2, d3, d4] }
  | _ => none }
def AttackTellsWrongFalsely : Prop := attackTellsRow.holds Tryd.pinned (OpenSpec.ofChange attackTellsWrong)

/-- 'zugzwanglaw07.AttackEnds': WHATEVER THE INPUT: true; the input reads as it did. -/
def attackEndsSpec : ChangeSpec := { name := "attackEnds", fn := fun _ => fun
  | [] => { results := [.lit (.bool true)], args := [] }
  | _ => none }
def attackEndsRow : OpenClaim := { program := "ytbnpphecknhpeaadoor", sum := "79ed9db85f895a898539afd18a63b58a4e22608d48f594cfe5edd1f681ec7b72", func := "zugzwang/zugzwanglaw07.AttackEnds", spec := "attackEnds", unfollowed := true, recurses := true, named := ["zugzwang/attack.steps"], apart := false, laid := [("zugzwang/attack.steps", laid_zugzwang_attack_steps)] }
def AttackEndsSaid : Prop := attackEndsRow.holds Tryd.pinned (OpenSpec.ofChange attackEndsSpec)

/-- ITS FALSE NEIGHBOUR: 'it returns false'. Refute it at one input. -/
def attackEndsWrong : ChangeSpec := { name := "attackEnds", fn := fun _ => fun
  | [] => { results := [.lit (.bool false)], args := [] }
  | _ => none }
def AttackEndsWrongFalsely : Prop := attackEndsRow.holds Tryd.pinned (OpenSpec.ofChange attackEndsWrong)

/-- 'zugzwanglaw07.AttackBoth': WHATEVER THE INPUT: true; the input reads as it did. -/
def attackBothSpec : ChangeSpec := { name := "attackBoth", fn := fun _ => fun
  | [d1, d2] => { results := [.lit (.bool true)], args := [d1, d2] }
  | _ => none }
def attackBothRow : OpenClaim := { program := "ytbnpphecknhpeaadoor", sum := "79ed9db85f895a898539afd18a63b58a4e22608d48f594cfe5edd1f681ec7b72", func := "zugzwang/zugzwanglaw07.AttackBoth", spec := "attackBoth", unfollowed := true, recurses := true, named := ["zugzwang/attack.steps"], apart := false, laid := [("zugzwang/attack.steps", laid_zugzwang_attack_steps)] }
def AttackBothSaid : Prop := attackBothRow.holds Tryd.pinned (OpenSpec.ofChange attackBothSpec)

/-- ITS FALSE NEIGHBOUR: 'it returns false'. Refute it at one input. -/
def attackBothWrong : ChangeSpec := { name := "attackBoth", fn := fun _ => fun
  | [d1, d2] => { results := [.lit (.bool false)], args := [d1, d2] }
  | _ => none }
def AttackBothWrongFalsely : Prop := attackBothRow.holds Tryd.pinned (OpenSpec.ofChange attackBothWrong)

/-- 'zugzwanglaw07.AttackTurns': WHATEVER THE INPUT: true; the input reads as it did. -/
def attackTurnsSpec : ChangeSpec := { name := "attackTurns", fn := fun _ => fun
  | [d1, d2, d3] => { results := [.lit (.bool true)], args := [d1, d2, d3] }
  | _ => none }
def attackTurnsRow : OpenClaim := { program := "ytbnpphecknhpeaadoor", sum := "79ed9db85f895a898539afd18a63b58a4e22608d48f594cfe5edd1f681ec7b72", func := "zugzwang/zugzwanglaw07.AttackTurns", spec := "attackTurns", unfollowed := true, recurses := true, named := ["zugzwang/attack.steps"], apart := false, laid := [("zugzwang/attack.steps", laid_zugzwang_attack_steps)] }
def AttackTurnsSaid : Prop := attackTurnsRow.holds Tryd.pinned (OpenSpec.ofChange attackTurnsSpec)

/-- ITS FALSE NEIGHBOUR: 'it returns false'. Refute it at one input. -/
def attackTurnsWrong : ChangeSpec := { name := "attackTurns", fn := fun _ => fun
  | [d1, d2, d3] => { results := [.lit (.bool false)], args := [d1, d2, d3] }
  | _ => none }
def AttackTurnsWrongFalsely : Prop := attackTurnsRow.holds Tryd.pinned (OpenSpec.ofChange attackTurnsWrong)

/- THE SECOND FORM. 'bulk': how many values and letters a reading holds, each counted each time it is reached (what is shared counts as often as it is met; a slice's spare places count too). A statement '..UptoSaid' is the law's where the arguments, and the package variables that the reading takes, are together of bulk at most 1048576: NARROWER than '..Said'. Prove '..Said' where nothing that the law and all that it calls make is longer than what came in: it says more and counts as full. Else prove '..UptoSaid'. A law counts once. -/
mutual
def uptoBulk {H : Type} : DataW H → Nat
  | .lit (.string bytes) => bytes.length + 1
  | .lit _ => 1
  | .nil => 1
  | .ptr d => uptoBulk d + 1
  | .slice elems spare => uptoBulkAll elems + uptoBulkAll spare + 1
  | .agg parts => uptoBulkAll parts + 1
  | .iface _ d => uptoBulk d + 1
  | .map entries => uptoBulkEntries entries + 1
  | .held _ => 1
def uptoBulkAll {H : Type} : List (DataW H) → Nat
  | [] => 0
  | d :: r => uptoBulk d + uptoBulkAll r
def uptoBulkEntries {H : Type} : List (Lit × DataW H) → Nat
  | [] => 0
  | x :: r => uptoBulkEntry x + uptoBulkEntries r
def uptoBulkEntry {H : Type} : Lit × DataW H → Nat
  | (.string bytes, d) => bytes.length + uptoBulk d + 1
  | (_, d) => uptoBulk d + 1
 end
def uptoSmall : (H : Type) → List (DataW H) → Bool := fun _ ds => decide (uptoBulkAll ds ≤ 1048576)
def OpenSpec.upto (s : _root_.Go.ChangeSpec) : _root_.Go.OpenSpec := { _root_.Go.OpenSpec.ofChange s with cond := some uptoSmall }

/-- 'zugzwanglaw07.AttackTells', WHERE WHAT IT READS IS OF BULK AT MOST 1048576: true; the input reads as it did. -/
def attackTellsUptoRow : OpenClaim := { program := "ytbnpphecknhpeaadoor", sum := "79ed9db85f895a898539afd18a63b58a4e22608d48f594cfe5edd1f681ec7b72", func := "zugzwang/zugzwanglaw07.AttackTells", spec := "attackTells", unfollowed := true, recurses := true, named := ["zugzwang/attack.steps"], apart := false, laid := [("zugzwang/attack.steps", laid_zugzwang_attack_steps)], narrowed := true }
def AttackTellsUptoSaid : Prop := attackTellsUptoRow.holds Tryd.pinned (OpenSpec.upto attackTellsSpec)

/-- 'zugzwanglaw07.AttackEnds', WHERE WHAT IT READS IS OF BULK AT MOST 1048576: true; the input reads as it did. -/
def attackEndsUptoRow : OpenClaim := { program := "ytbnpphecknhpeaadoor", sum := "79ed9db85f895a898539afd18a63b58a4e22608d48f594cfe5edd1f681ec7b72", func := "zugzwang/zugzwanglaw07.AttackEnds", spec := "attackEnds", unfollowed := true, recurses := true, named := ["zugzwang/attack.steps"], apart := false, laid := [("zugzwang/attack.steps", laid_zugzwang_attack_steps)], narrowed := true }
def AttackEndsUptoSaid : Prop := attackEndsUptoRow.holds Tryd.pinned (OpenSpec.upto attackEndsSpec)

/-- 'zugzwanglaw07.AttackBoth', WHERE WHAT IT READS IS OF BULK AT MOST 1048576: true; the input reads as it did. -/
def attackBothUptoRow : OpenClaim := { program := "ytbnpphecknhpeaadoor", sum := "79ed9db85f895a898539afd18a63b58a4e22608d48f594cfe5edd1f681ec7b72", func := "zugzwang/zugzwanglaw07.AttackBoth", spec := "attackBoth", unfollowed := true, recurses := true, named := ["zugzwang/attack.steps"], apart := false, laid := [("zugzwang/attack.steps", laid_zugzwang_attack_steps)], narrowed := true }
def AttackBothUptoSaid : Prop := attackBothUptoRow.holds Tryd.pinned (OpenSpec.upto attackBothSpec)

/-- 'zugzwanglaw07.AttackTurns', WHERE WHAT IT READS IS OF BULK AT MOST 1048576: true; the input reads as it did. -/
def attackTurnsUptoRow : OpenClaim := { program := "ytbnpphecknhpeaadoor", sum := "79ed9db85f895a898539afd18a63b58a4e22608d48f594cfe5edd1f681ec7b72", func := "zugzwang/zugzwanglaw07.AttackTurns", spec := "attackTurns", unfollowed := true, recurses := true, named := ["zugzwang/attack.steps"], apart := false, laid := [("zugzwang/attack.steps", laid_zugzwang_attack_steps)], narrowed := true }
def AttackTurnsUptoSaid : Prop := attackTurnsUptoRow.holds Tryd.pinned (OpenSpec.upto attackTurnsSpec)

end Rows
end Go.Proofs.YtbnpphecknhpeaaDoor
