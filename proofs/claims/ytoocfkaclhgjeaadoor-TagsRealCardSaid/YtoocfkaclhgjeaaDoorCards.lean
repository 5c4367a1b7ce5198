/-
  DERIVED. GIVEN WITH THE SEED: THE CARDS: each row of YtoocfkaclhgjeaaDoorRows.lean that lists a variable, with what it lists TIED to the program's text (the seventh form; the later family's looks); each row that meets fmt, with fmt's text TOLD by the authors' own Lean function (tested against real Go, not proved from fmt's source: count such statements apart). THE CARD IS WHAT COUNTS. Prove the row's statement (the work); the ties are given (YtoocfkaclhgjeaaDoorTie.lean); close each card by the builder's one call (the guide's Derived/Test/ToyasCard.lean, 'card_holds'). Laid BY PROGRAM, IN A SANDBOX (cutbox-door.mjs). By AI agents, Wed Nov 11 2026. No macro, syntax, notation, axiom, sorry.
-/
import Derived.Test.YtoocfkaclhgjeaaDoorRows
import GoSem.ClaimSeven
namespace Go.Proofs.YtoocfkaclhgjeaaDoor
namespace Rows

/-- THE TIED CARD OF 'zugzwanglaw04.TagsFresh'. -/
def tagsFreshCard : Claim7 := { stood := { row := tagsFreshRow, standIns := [], harness := (true, "7d6fd48113f6fa9055c9e8a52d4e0238f76e68276e3112b8be5cf282ff9de95b"), looks := true }, kinds := [], alts := [], laidByText := true, laidKinds := [.data], laidTests := true, laidLooks := .later }
def TagsFreshCardSaid : Prop := Claim7.holds Tryd.pinned (.plain (OpenSpec.ofChange tagsFreshSpec)) tagsFreshCard

/-- THE TIED CARD OF 'zugzwanglaw04.TagsReal'. -/
def tagsRealCard : Claim7 := { stood := { row := tagsRealRow, standIns := [], harness := (true, "7d6fd48113f6fa9055c9e8a52d4e0238f76e68276e3112b8be5cf282ff9de95b"), looks := true }, kinds := [], alts := [], laidByText := true, laidKinds := [.data], laidTests := true, laidLooks := .later }
def TagsRealCardSaid : Prop := Claim7.holds Tryd.pinned (.plain (OpenSpec.ofChange tagsRealSpec)) tagsRealCard

/-- THE SECOND FORM's CARD OF 'zugzwanglaw04.TagsFresh'. -/
def tagsFreshUptoCard : Claim7 := { stood := { row := tagsFreshUptoRow, standIns := [], harness := (true, "7d6fd48113f6fa9055c9e8a52d4e0238f76e68276e3112b8be5cf282ff9de95b"), looks := true }, kinds := [], alts := [], laidByText := true, laidKinds := [.data], laidTests := true, laidLooks := .later }
def TagsFreshUptoCardSaid : Prop := Claim7.holds Tryd.pinned (.plain (OpenSpec.upto tagsFreshSpec)) tagsFreshUptoCard

/-- THE SECOND FORM's CARD OF 'zugzwanglaw04.TagsReal'. -/
def tagsRealUptoCard : Claim7 := { stood := { row := tagsRealUptoRow, standIns := [], harness := (true, "7d6fd48113f6fa9055c9e8a52d4e0238f76e68276e3112b8be5cf282ff9de95b"), looks := true }, kinds := [], alts := [], laidByText := true, laidKinds := [.data], laidTests := true, laidLooks := .later }
def TagsRealUptoCardSaid : Prop := Claim7.holds Tryd.pinned (.plain (OpenSpec.upto tagsRealSpec)) tagsRealUptoCard
end Rows
end Go.Proofs.YtoocfkaclhgjeaaDoor
