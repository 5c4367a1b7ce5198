/-
  No cell of these rows narrows 'for every input' (looked for: loops, veiled, ifaces, maps, wideKeys, modest, calm, conditions, laid).
  DERIVED. THE GIVEN ROWS OF THIS SEAT. 4 by the template 'for every input the law returns true; each argument reads behind the call as it read before'; 0 by the template 'total and deterministic' (their statements: YtkdhkljnpalajaaTotals.lean).
  GIVEN WITH THE SEED: the statements are not yours to turn. If you find one false, say at which input.
  Laid BY PROGRAM, IN A SANDBOX (cutbox-rows.mjs): the forced cells as the released guide's own fill.sh prints them over the translation 581c8a885d3c2c12… (all of the seat's roots in one cut). By AI agents, Wed Nov 11 2026. No macro, syntax, notation, axiom, sorry.
-/
import Derived.Test.YtkdhkljnpalajaaChecked
import GoSem.Claim
import GoSem.ClaimJoined
import GoSem.ClaimMapViews
import Derived.JoinedTies
import Derived.KernelRfl
namespace Go.Proofs.Ytkdhkljnpalajaa
/- THE CELL 'sum', in the pinned program and in every row, IS THE sha256 OF THE DUMP (.gsa) THAT YtkdhkljnpalajaaProg.lean LOADS. Nothing in Lean hashes anything: it is a label: what it is worth is what the hold of that sum in a sandbox is worth. -/
noncomputable def Try.pinned : Pinned := { name := "ytkdhkljnpalajaa", sum := "581c8a885d3c2c120907c6c70d0c745edd7734e0d0e49ae02d37439f58c1d3f4", checked := Try.checked }
namespace Rows
def none {H : Type} : Left H := { results := [], args := [] }

/-- 'zugzwanglaw13.DeadTells': WHATEVER THE INPUT: true; the input reads as it did. -/
def deadTellsSpec : ChangeSpec := { name := "deadTells", fn := fun _ => fun
  | [d1, d2, d3] => { results := [.lit (.bool true)], args := [d1, d2, d3] }
  | _ => none }
def deadTellsRow : OpenClaim := { program := "ytkdhkljnpalajaa", sum := "581c8a885d3c2c120907c6c70d0c745edd7734e0d0e49ae02d37439f58c1d3f4", func := "zugzwang/zugzwanglaw13.DeadTells", spec := "deadTells", apart := false }
def DeadTellsSaid : Prop := deadTellsRow.holds Try.pinned (OpenSpec.ofChange deadTellsSpec)

/-- ITS FALSE NEIGHBOUR: 'it returns false'. Refute it at one input. -/
def deadTellsWrong : ChangeSpec := { name := "deadTells", fn := fun _ => fun
  | [d1, d2, d3] => { results := [.lit (.bool false)], args := [d1, d2, d3] }
  | _ => none }
def DeadTellsWrongFalsely : Prop := deadTellsRow.holds Try.pinned (OpenSpec.ofChange deadTellsWrong)

/-- 'zugzwanglaw13.DeadEnds': WHATEVER THE INPUT: true; the input reads as it did. -/
def deadEndsSpec : ChangeSpec := { name := "deadEnds", fn := fun _ => fun
  | [] => { results := [.lit (.bool true)], args := [] }
  | _ => none }
def deadEndsRow : OpenClaim := { program := "ytkdhkljnpalajaa", sum := "581c8a885d3c2c120907c6c70d0c745edd7734e0d0e49ae02d37439f58c1d3f4", func := "zugzwang/zugzwanglaw13.DeadEnds", spec := "deadEnds", apart := false }
def DeadEndsSaid : Prop := deadEndsRow.holds Try.pinned (OpenSpec.ofChange deadEndsSpec)

/-- ITS FALSE NEIGHBOUR: 'it returns false'. Refute it at one input. -/
def deadEndsWrong : ChangeSpec := { name := "deadEnds", fn := fun _ => fun
  | [] => { results := [.lit (.bool false)], args := [] }
  | _ => none }
def DeadEndsWrongFalsely : Prop := deadEndsRow.holds Try.pinned (OpenSpec.ofChange deadEndsWrong)

/-- 'zugzwanglaw13.DeadLess': WHATEVER THE INPUT: true; the input reads as it did. -/
def deadLessSpec : ChangeSpec := { name := "deadLess", fn := fun _ => fun
  | [d1, d2, d3] => { results := [.lit (.bool true)], args := [d1, d2, d3] }
  | _ => none }
def deadLessRow : OpenClaim := { program := "ytkdhkljnpalajaa", sum := "581c8a885d3c2c120907c6c70d0c745edd7734e0d0e49ae02d37439f58c1d3f4", func := "zugzwang/zugzwanglaw13.DeadLess", spec := "deadLess", apart := false }
def DeadLessSaid : Prop := deadLessRow.holds Try.pinned (OpenSpec.ofChange deadLessSpec)

/-- ITS FALSE NEIGHBOUR: 'it returns false'. Refute it at one input. -/
def deadLessWrong : ChangeSpec := { name := "deadLess", fn := fun _ => fun
  | [d1, d2, d3] => { results := [.lit (.bool false)], args := [d1, d2, d3] }
  | _ => none }
def DeadLessWrongFalsely : Prop := deadLessRow.holds Try.pinned (OpenSpec.ofChange deadLessWrong)

/-- 'zugzwanglaw13.DeadAdds': WHATEVER THE INPUT: true; the input reads as it did. -/
def deadAddsSpec : ChangeSpec := { name := "deadAdds", fn := fun _ => fun
  | [d1, d2] => { results := [.lit (.bool true)], args := [d1, d2] }
  | _ => none }
def deadAddsRow : OpenClaim := { program := "ytkdhkljnpalajaa", sum := "581c8a885d3c2c120907c6c70d0c745edd7734e0d0e49ae02d37439f58c1d3f4", func := "zugzwang/zugzwanglaw13.DeadAdds", spec := "deadAdds", apart := false }
def DeadAddsSaid : Prop := deadAddsRow.holds Try.pinned (OpenSpec.ofChange deadAddsSpec)

/-- ITS FALSE NEIGHBOUR: 'it returns false'. Refute it at one input. -/
def deadAddsWrong : ChangeSpec := { name := "deadAdds", fn := fun _ => fun
  | [d1, d2] => { results := [.lit (.bool false)], args := [d1, d2] }
  | _ => none }
def DeadAddsWrongFalsely : Prop := deadAddsRow.holds Try.pinned (OpenSpec.ofChange deadAddsWrong)

/- THE SECOND FORM. 'bulk': how many values and letters a reading holds, each counted each time it is reached (what is shared counts as often as it is met; a slice's spare places count too). A statement '..UptoSaid' is the law's where the arguments, and the package variables that the reading takes, are together of bulk at most 1048576: NARROWER than '..Said'. Prove '..Said' where nothing that the law and all that it calls make is longer than what came in: it says more and counts as full. Else prove '..UptoSaid'. A law counts once. -/
mutual
def uptoBulk {H : Type} : DataW H → Nat
  | .lit (.string bytes) => bytes.length + 1
  | .lit _ => 1
  | .nil => 1
  | .ptr d => uptoBulk d + 1
  | .slice elems spare => uptoBulkAll elems + uptoBulkAll spare + 1
  | .agg parts => uptoBulkAll parts + 1
  | .iface _ d => uptoBulk d + 1
  | .map entries => uptoBulkEntries entries + 1
  | .held _ => 1
def uptoBulkAll {H : Type} : List (DataW H) → Nat
  | [] => 0
  | d :: r => uptoBulk d + uptoBulkAll r
def uptoBulkEntries {H : Type} : List (Lit × DataW H) → Nat
  | [] => 0
  | x :: r => uptoBulkEntry x + uptoBulkEntries r
def uptoBulkEntry {H : Type} : Lit × DataW H → Nat
  | (.string bytes, d) => bytes.length + uptoBulk d + 1
  | (_, d) => uptoBulk d + 1
 end
def uptoSmall : (H : Type) → List (DataW H) → Bool := fun _ ds => decide (uptoBulkAll ds ≤ 1048576)
def OpenSpec.upto (s : _root_.Go.ChangeSpec) : _root_.Go.OpenSpec := { _root_.Go.OpenSpec.ofChange s with cond := some uptoSmall }

/-- 'zugzwanglaw13.DeadTells', WHERE WHAT IT READS IS OF BULK AT MOST 1048576: true; the input reads as it did. -/
def deadTellsUptoRow : OpenClaim := { program := "ytkdhkljnpalajaa", sum := "581c8a885d3c2c120907c6c70d0c745edd7734e0d0e49ae02d37439f58c1d3f4", func := "zugzwang/zugzwanglaw13.DeadTells", spec := "deadTells", apart := false, narrowed := true }
def DeadTellsUptoSaid : Prop := deadTellsUptoRow.holds Try.pinned (OpenSpec.upto deadTellsSpec)

/-- 'zugzwanglaw13.DeadEnds', WHERE WHAT IT READS IS OF BULK AT MOST 1048576: true; the input reads as it did. -/
def deadEndsUptoRow : OpenClaim := { program := "ytkdhkljnpalajaa", sum := "581c8a885d3c2c120907c6c70d0c745edd7734e0d0e49ae02d37439f58c1d3f4", func := "zugzwang/zugzwanglaw13.DeadEnds", spec := "deadEnds", apart := false, narrowed := true }
def DeadEndsUptoSaid : Prop := deadEndsUptoRow.holds Try.pinned (OpenSpec.upto deadEndsSpec)

/-- 'zugzwanglaw13.DeadLess', WHERE WHAT IT READS IS OF BULK AT MOST 1048576: true; the input reads as it did. -/
def deadLessUptoRow : OpenClaim := { program := "ytkdhkljnpalajaa", sum := "581c8a885d3c2c120907c6c70d0c745edd7734e0d0e49ae02d37439f58c1d3f4", func := "zugzwang/zugzwanglaw13.DeadLess", spec := "deadLess", apart := false, narrowed := true }
def DeadLessUptoSaid : Prop := deadLessUptoRow.holds Try.pinned (OpenSpec.upto deadLessSpec)

/-- 'zugzwanglaw13.DeadAdds', WHERE WHAT IT READS IS OF BULK AT MOST 1048576: true; the input reads as it did. -/
def deadAddsUptoRow : OpenClaim := { program := "ytkdhkljnpalajaa", sum := "581c8a885d3c2c120907c6c70d0c745edd7734e0d0e49ae02d37439f58c1d3f4", func := "zugzwang/zugzwanglaw13.DeadAdds", spec := "deadAdds", apart := false, narrowed := true }
def DeadAddsUptoSaid : Prop := deadAddsUptoRow.holds Try.pinned (OpenSpec.upto deadAddsSpec)

end Rows
end Go.Proofs.Ytkdhkljnpalajaa
