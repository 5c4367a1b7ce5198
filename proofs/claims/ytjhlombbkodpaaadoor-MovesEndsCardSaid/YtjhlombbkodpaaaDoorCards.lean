/-
  DERIVED. GIVEN WITH THE SEED: THE CARDS: each row of YtjhlombbkodpaaaDoorRows.lean that lists a variable, with what it lists TIED to the program's text (the seventh form; the later family's looks); each row that meets fmt, with fmt's text TOLD by the authors' own Lean function (tested against real Go, not proved from fmt's source: count such statements apart). THE CARD IS WHAT COUNTS. Prove the row's statement (the work); the ties are given (YtjhlombbkodpaaaDoorTie.lean); close each card by the builder's one call (the guide's Derived/Test/ToyasCard.lean, 'card_holds'). Laid BY PROGRAM, IN A SANDBOX (cutbox-door.mjs). By AI agents, Wed Nov 11 2026. No macro, syntax, notation, axiom, sorry.
-/
import Derived.Test.YtjhlombbkodpaaaDoorRows
import GoSem.ClaimSeven
namespace Go.Proofs.YtjhlombbkodpaaaDoor
namespace Rows

/-- THE TIED CARD OF 'zugzwanglaw09.MovesTell'. -/
def movesTellCard : Claim7 := { stood := { row := movesTellRow, standIns := [], harness := (true, "2f9343902ab6ced9a782d3802a8cab20581cf6f7c6e5ccecc41105e87623fd02"), looks := false }, kinds := [], alts := [], laidByText := true, laidKinds := [.data, .data], laidTests := true, laidLooks := .later }
def MovesTellCardSaid : Prop := Claim7.holds Tryd.pinned (.plain (OpenSpec.ofChange movesTellSpec)) movesTellCard

/-- THE TIED CARD OF 'zugzwanglaw09.MovesEnds'. -/
def movesEndsCard : Claim7 := { stood := { row := movesEndsRow, standIns := [], harness := (true, "2f9343902ab6ced9a782d3802a8cab20581cf6f7c6e5ccecc41105e87623fd02"), looks := false }, kinds := [], alts := [], laidByText := true, laidKinds := [.data, .data], laidTests := true, laidLooks := .later }
def MovesEndsCardSaid : Prop := Claim7.holds Tryd.pinned (.plain (OpenSpec.ofChange movesEndsSpec)) movesEndsCard

/-- THE TIED CARD OF 'zugzwanglaw09.MovesCan'. -/
def movesCanCard : Claim7 := { stood := { row := movesCanRow, standIns := [], harness := (true, "2f9343902ab6ced9a782d3802a8cab20581cf6f7c6e5ccecc41105e87623fd02"), looks := false }, kinds := [], alts := [], laidByText := true, laidKinds := [.data, .data, .data], laidTests := true, laidLooks := .later }
def MovesCanCardSaid : Prop := Claim7.holds Tryd.pinned (.plain (OpenSpec.ofChange movesCanSpec)) movesCanCard

/-- THE TIED CARD OF 'zugzwanglaw09.MovesTurn'. -/
def movesTurnCard : Claim7 := { stood := { row := movesTurnRow, standIns := [], harness := (true, "2f9343902ab6ced9a782d3802a8cab20581cf6f7c6e5ccecc41105e87623fd02"), looks := false }, kinds := [], alts := [], laidByText := true, laidKinds := [.data, .data, .data], laidTests := true, laidLooks := .later }
def MovesTurnCardSaid : Prop := Claim7.holds Tryd.pinned (.plain (OpenSpec.ofChange movesTurnSpec)) movesTurnCard

/-- THE SECOND FORM's CARD OF 'zugzwanglaw09.MovesTell'. -/
def movesTellUptoCard : Claim7 := { stood := { row := movesTellUptoRow, standIns := [], harness := (true, "2f9343902ab6ced9a782d3802a8cab20581cf6f7c6e5ccecc41105e87623fd02"), looks := false }, kinds := [], alts := [], laidByText := true, laidKinds := [.data, .data], laidTests := true, laidLooks := .later }
def MovesTellUptoCardSaid : Prop := Claim7.holds Tryd.pinned (.plain (OpenSpec.upto movesTellSpec)) movesTellUptoCard

/-- THE SECOND FORM's CARD OF 'zugzwanglaw09.MovesEnds'. -/
def movesEndsUptoCard : Claim7 := { stood := { row := movesEndsUptoRow, standIns := [], harness := (true, "2f9343902ab6ced9a782d3802a8cab20581cf6f7c6e5ccecc41105e87623fd02"), looks := false }, kinds := [], alts := [], laidByText := true, laidKinds := [.data, .data], laidTests := true, laidLooks := .later }
def MovesEndsUptoCardSaid : Prop := Claim7.holds Tryd.pinned (.plain (OpenSpec.upto movesEndsSpec)) movesEndsUptoCard

/-- THE SECOND FORM's CARD OF 'zugzwanglaw09.MovesCan'. -/
def movesCanUptoCard : Claim7 := { stood := { row := movesCanUptoRow, standIns := [], harness := (true, "2f9343902ab6ced9a782d3802a8cab20581cf6f7c6e5ccecc41105e87623fd02"), looks := false }, kinds := [], alts := [], laidByText := true, laidKinds := [.data, .data, .data], laidTests := true, laidLooks := .later }
def MovesCanUptoCardSaid : Prop := Claim7.holds Tryd.pinned (.plain (OpenSpec.upto movesCanSpec)) movesCanUptoCard

/-- THE SECOND FORM's CARD OF 'zugzwanglaw09.MovesTurn'. -/
def movesTurnUptoCard : Claim7 := { stood := { row := movesTurnUptoRow, standIns := [], harness := (true, "2f9343902ab6ced9a782d3802a8cab20581cf6f7c6e5ccecc41105e87623fd02"), looks := false }, kinds := [], alts := [], laidByText := true, laidKinds := [.data, .data, .data], laidTests := true, laidLooks := .later }
def MovesTurnUptoCardSaid : Prop := Claim7.holds Tryd.pinned (.plain (OpenSpec.upto movesTurnSpec)) movesTurnUptoCard
end Rows
end Go.Proofs.YtjhlombbkodpaaaDoor
