/-
  DERIVED. GIVEN WITH THE SEED: THE CARDS: each row of YteahikjnlhlmmaaDoorRows.lean that lists a variable, with what it lists TIED to the program's text (the seventh form; the later family's looks); each row that meets fmt, with fmt's text TOLD by the authors' own Lean function (tested against real Go, not proved from fmt's source: count such statements apart). THE CARD IS WHAT COUNTS. Prove the row's statement (the work); the ties are given (YteahikjnlhlmmaaDoorTie.lean); close each card by the builder's one call (the guide's Derived/Test/ToyasCard.lean, 'card_holds'). Laid BY PROGRAM, IN A SANDBOX (cutbox-door.mjs). By AI agents, Wed Nov 11 2026. No macro, syntax, notation, axiom, sorry.
-/
import Derived.Test.YteahikjnlhlmmaaDoorRows
import GoSem.ClaimSeven
namespace Go.Proofs.YteahikjnlhlmmaaDoor
namespace Rows

/-- THE TIED CARD OF 'zugzwanglaw06.BoardTells'. -/
def boardTellsCard : Claim7 := { stood := { row := boardTellsRow, standIns := [], harness := (true, "9f131343b2974540c525e931b9224b10e21b88b300f1e228f083dbd638696bb5"), looks := false }, kinds := [], alts := [], laidByText := true, laidKinds := [.data, .data], laidTests := true, laidLooks := .later }
def BoardTellsCardSaid : Prop := Claim7.holds Tryd.pinned (.plain (OpenSpec.ofChange boardTellsSpec)) boardTellsCard

/-- THE TIED CARD OF 'zugzwanglaw06.BoardEnds'. -/
def boardEndsCard : Claim7 := { stood := { row := boardEndsRow, standIns := [], harness := (true, "9f131343b2974540c525e931b9224b10e21b88b300f1e228f083dbd638696bb5"), looks := false }, kinds := [], alts := [], laidByText := true, laidKinds := [.data, .data], laidTests := true, laidLooks := .later }
def BoardEndsCardSaid : Prop := Claim7.holds Tryd.pinned (.plain (OpenSpec.ofChange boardEndsSpec)) boardEndsCard

/-- THE TIED CARD OF 'zugzwanglaw06.BoardTurns'. -/
def boardTurnsCard : Claim7 := { stood := { row := boardTurnsRow, standIns := [], harness := (true, "9f131343b2974540c525e931b9224b10e21b88b300f1e228f083dbd638696bb5"), looks := false }, kinds := [], alts := [], laidByText := true, laidKinds := [.data, .data], laidTests := true, laidLooks := .later }
def BoardTurnsCardSaid : Prop := Claim7.holds Tryd.pinned (.plain (OpenSpec.ofChange boardTurnsSpec)) boardTurnsCard

/-- THE TIED CARD OF 'zugzwanglaw06.BoardPuts'. -/
def boardPutsCard : Claim7 := { stood := { row := boardPutsRow, standIns := [], harness := (true, "9f131343b2974540c525e931b9224b10e21b88b300f1e228f083dbd638696bb5"), looks := false }, kinds := [], alts := [], laidByText := true, laidKinds := [.data, .data], laidTests := true, laidLooks := .later }
def BoardPutsCardSaid : Prop := Claim7.holds Tryd.pinned (.plain (OpenSpec.ofChange boardPutsSpec)) boardPutsCard

/-- THE SECOND FORM's CARD OF 'zugzwanglaw06.BoardTells'. -/
def boardTellsUptoCard : Claim7 := { stood := { row := boardTellsUptoRow, standIns := [], harness := (true, "9f131343b2974540c525e931b9224b10e21b88b300f1e228f083dbd638696bb5"), looks := false }, kinds := [], alts := [], laidByText := true, laidKinds := [.data, .data], laidTests := true, laidLooks := .later }
def BoardTellsUptoCardSaid : Prop := Claim7.holds Tryd.pinned (.plain (OpenSpec.upto boardTellsSpec)) boardTellsUptoCard

/-- THE SECOND FORM's CARD OF 'zugzwanglaw06.BoardEnds'. -/
def boardEndsUptoCard : Claim7 := { stood := { row := boardEndsUptoRow, standIns := [], harness := (true, "9f131343b2974540c525e931b9224b10e21b88b300f1e228f083dbd638696bb5"), looks := false }, kinds := [], alts := [], laidByText := true, laidKinds := [.data, .data], laidTests := true, laidLooks := .later }
def BoardEndsUptoCardSaid : Prop := Claim7.holds Tryd.pinned (.plain (OpenSpec.upto boardEndsSpec)) boardEndsUptoCard

/-- THE SECOND FORM's CARD OF 'zugzwanglaw06.BoardTurns'. -/
def boardTurnsUptoCard : Claim7 := { stood := { row := boardTurnsUptoRow, standIns := [], harness := (true, "9f131343b2974540c525e931b9224b10e21b88b300f1e228f083dbd638696bb5"), looks := false }, kinds := [], alts := [], laidByText := true, laidKinds := [.data, .data], laidTests := true, laidLooks := .later }
def BoardTurnsUptoCardSaid : Prop := Claim7.holds Tryd.pinned (.plain (OpenSpec.upto boardTurnsSpec)) boardTurnsUptoCard

/-- THE SECOND FORM's CARD OF 'zugzwanglaw06.BoardPuts'. -/
def boardPutsUptoCard : Claim7 := { stood := { row := boardPutsUptoRow, standIns := [], harness := (true, "9f131343b2974540c525e931b9224b10e21b88b300f1e228f083dbd638696bb5"), looks := false }, kinds := [], alts := [], laidByText := true, laidKinds := [.data, .data], laidTests := true, laidLooks := .later }
def BoardPutsUptoCardSaid : Prop := Claim7.holds Tryd.pinned (.plain (OpenSpec.upto boardPutsSpec)) boardPutsUptoCard
end Rows
end Go.Proofs.YteahikjnlhlmmaaDoor
