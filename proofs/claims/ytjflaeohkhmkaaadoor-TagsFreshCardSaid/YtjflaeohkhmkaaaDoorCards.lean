/-
  DERIVED. GIVEN WITH THE SEED: THE CARDS: each row of YtjflaeohkhmkaaaDoorRows.lean that lists a variable, with what it lists TIED to the program's text (the seventh form; the later family's looks); each row that meets fmt, with fmt's text TOLD by the authors' own Lean function (tested against real Go, not proved from fmt's source: count such statements apart). THE CARD IS WHAT COUNTS. Prove the row's statement (the work); the ties are given (YtjflaeohkhmkaaaDoorTie.lean); close each card by the builder's one call (the guide's Derived/Test/ToyasCard.lean, 'card_holds'). Laid BY PROGRAM, IN A SANDBOX (cutbox-door.mjs). By AI agents, Wed Nov 11 2026. No macro, syntax, notation, axiom, sorry.
-/
import Derived.Test.YtjflaeohkhmkaaaDoorRows
import GoSem.ClaimSeven
namespace Go.Proofs.YtjflaeohkhmkaaaDoor
namespace Rows

/-- THE TIED CARD OF 'zugzwanglaw04.TagsFresh'. -/
def tagsFreshCard : Claim7 := { stood := { row := tagsFreshRow, standIns := [], harness := (true, "0426479cf550eaa011a93a48c17a9e5853d745354d63829a1bae770214a8939e"), looks := true }, kinds := [], alts := [], laidByText := true, laidKinds := [.data], laidTests := true, laidLooks := .later }
def TagsFreshCardSaid : Prop := Claim7.holds Tryd.pinned (.plain (OpenSpec.ofChange tagsFreshSpec)) tagsFreshCard

/-- THE SECOND FORM's CARD OF 'zugzwanglaw04.TagsFresh'. -/
def tagsFreshUptoCard : Claim7 := { stood := { row := tagsFreshUptoRow, standIns := [], harness := (true, "0426479cf550eaa011a93a48c17a9e5853d745354d63829a1bae770214a8939e"), looks := true }, kinds := [], alts := [], laidByText := true, laidKinds := [.data], laidTests := true, laidLooks := .later }
def TagsFreshUptoCardSaid : Prop := Claim7.holds Tryd.pinned (.plain (OpenSpec.upto tagsFreshSpec)) tagsFreshUptoCard
end Rows
end Go.Proofs.YtjflaeohkhmkaaaDoor
