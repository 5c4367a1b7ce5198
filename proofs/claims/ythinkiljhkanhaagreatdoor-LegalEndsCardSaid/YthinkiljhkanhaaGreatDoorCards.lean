/-
  DERIVED. GIVEN WITH THE SEED: THE CARDS: each row of YthinkiljhkanhaaGreatDoorRows.lean that lists a variable, with what it lists TIED to the program's text (the seventh form; the later family's looks); each row that meets fmt, with fmt's text TOLD by the authors' own Lean function (tested against real Go, not proved from fmt's source: count such statements apart). THE CARD IS WHAT COUNTS. Prove the row's statement (the work); the ties are given (YthinkiljhkanhaaGreatDoorTie.lean); close each card by the builder's one call (the guide's Derived/Test/ToyasCard.lean, 'card_holds'). Laid BY PROGRAM, IN A SANDBOX (cutbox-door.mjs). By AI agents, Wed Nov 11 2026. No macro, syntax, notation, axiom, sorry.
-/
import Derived.Test.YthinkiljhkanhaaGreatDoorRows
import GoSem.ClaimSeven
namespace Go.Proofs.YthinkiljhkanhaaGreatDoor
namespace Rows

/-- THE TIED CARD OF 'zugzwanglaw10.LegalTells'. -/
def legalTellsCard : Claim7 := { stood := { row := legalTellsRow, standIns := [], harness := (true, "be634fe01c18399661baee58b7543ebd0356c05308b5315c0333b370e20043dc"), looks := false }, kinds := [], alts := [], laidByText := true, laidKinds := [.data, .data, .data, .data], laidTests := true, laidLooks := .later }
def LegalTellsCardSaid : Prop := Claim7.holds Tryz.pinned (.plain (OpenSpec.ofChange legalTellsSpec)) legalTellsCard

/-- THE TIED CARD OF 'zugzwanglaw10.LegalCounts'. -/
def legalCountsCard : Claim7 := { stood := { row := legalCountsRow, standIns := [], harness := (true, "be634fe01c18399661baee58b7543ebd0356c05308b5315c0333b370e20043dc"), looks := false }, kinds := [], alts := [], laidByText := true, laidKinds := [.data, .data, .data, .data], laidTests := true, laidLooks := .later }
def LegalCountsCardSaid : Prop := Claim7.holds Tryz.pinned (.plain (OpenSpec.ofChange legalCountsSpec)) legalCountsCard

/-- THE TIED CARD OF 'zugzwanglaw10.LegalEnds'. -/
def legalEndsCard : Claim7 := { stood := { row := legalEndsRow, standIns := [], harness := (true, "be634fe01c18399661baee58b7543ebd0356c05308b5315c0333b370e20043dc"), looks := false }, kinds := [], alts := [], laidByText := true, laidKinds := [.data, .data, .data, .data], laidTests := true, laidLooks := .later }
def LegalEndsCardSaid : Prop := Claim7.holds Tryz.pinned (.plain (OpenSpec.ofChange legalEndsSpec)) legalEndsCard

/-- THE TIED CARD OF 'zugzwanglaw10.LegalGoes'. -/
def legalGoesCard : Claim7 := { stood := { row := legalGoesRow, standIns := [], harness := (true, "be634fe01c18399661baee58b7543ebd0356c05308b5315c0333b370e20043dc"), looks := false }, kinds := [], alts := [], laidByText := true, laidKinds := [.data, .data, .data, .data], laidTests := true, laidLooks := .later }
def LegalGoesCardSaid : Prop := Claim7.holds Tryz.pinned (.plain (OpenSpec.ofChange legalGoesSpec)) legalGoesCard

/-- THE TIED CARD OF 'zugzwanglaw10.LegalTurns'. -/
def legalTurnsCard : Claim7 := { stood := { row := legalTurnsRow, standIns := [], harness := (true, "be634fe01c18399661baee58b7543ebd0356c05308b5315c0333b370e20043dc"), looks := false }, kinds := [], alts := [], laidByText := true, laidKinds := [.data, .data, .data, .data], laidTests := true, laidLooks := .later }
def LegalTurnsCardSaid : Prop := Claim7.holds Tryz.pinned (.plain (OpenSpec.ofChange legalTurnsSpec)) legalTurnsCard

/-- THE TIED CARD OF 'zugzwanglaw11.EndsTell'. -/
def endsTellCard : Claim7 := { stood := { row := endsTellRow, standIns := [], harness := (true, "be634fe01c18399661baee58b7543ebd0356c05308b5315c0333b370e20043dc"), looks := false }, kinds := [], alts := [], laidByText := true, laidKinds := [.data, .data, .data, .data], laidTests := true, laidLooks := .later }
def EndsTellCardSaid : Prop := Claim7.holds Tryz.pinned (.plain (OpenSpec.ofChange endsTellSpec)) endsTellCard

/-- THE TIED CARD OF 'zugzwanglaw11.EndsAll'. -/
def endsAllCard : Claim7 := { stood := { row := endsAllRow, standIns := [], harness := (true, "be634fe01c18399661baee58b7543ebd0356c05308b5315c0333b370e20043dc"), looks := false }, kinds := [], alts := [], laidByText := true, laidKinds := [.data, .data, .data, .data], laidTests := true, laidLooks := .later }
def EndsAllCardSaid : Prop := Claim7.holds Tryz.pinned (.plain (OpenSpec.ofChange endsAllSpec)) endsAllCard

/-- THE TIED CARD OF 'zugzwanglaw11.EndsOnly'. -/
def endsOnlyCard : Claim7 := { stood := { row := endsOnlyRow, standIns := [], harness := (true, "be634fe01c18399661baee58b7543ebd0356c05308b5315c0333b370e20043dc"), looks := false }, kinds := [], alts := [], laidByText := true, laidKinds := [.data, .data, .data, .data], laidTests := true, laidLooks := .later }
def EndsOnlyCardSaid : Prop := Claim7.holds Tryz.pinned (.plain (OpenSpec.ofChange endsOnlySpec)) endsOnlyCard

/-- THE TIED CARD OF 'zugzwanglaw11.EndsMoves'. -/
def endsMovesCard : Claim7 := { stood := { row := endsMovesRow, standIns := [], harness := (true, "be634fe01c18399661baee58b7543ebd0356c05308b5315c0333b370e20043dc"), looks := false }, kinds := [], alts := [], laidByText := true, laidKinds := [.data, .data, .data, .data], laidTests := true, laidLooks := .later }
def EndsMovesCardSaid : Prop := Claim7.holds Tryz.pinned (.plain (OpenSpec.ofChange endsMovesSpec)) endsMovesCard

/-- THE SECOND FORM's CARD OF 'zugzwanglaw10.LegalTells'. -/
def legalTellsUptoCard : Claim7 := { stood := { row := legalTellsUptoRow, standIns := [], harness := (true, "be634fe01c18399661baee58b7543ebd0356c05308b5315c0333b370e20043dc"), looks := false }, kinds := [], alts := [], laidByText := true, laidKinds := [.data, .data, .data, .data], laidTests := true, laidLooks := .later }
def LegalTellsUptoCardSaid : Prop := Claim7.holds Tryz.pinned (.plain (OpenSpec.upto legalTellsSpec)) legalTellsUptoCard

/-- THE SECOND FORM's CARD OF 'zugzwanglaw10.LegalCounts'. -/
def legalCountsUptoCard : Claim7 := { stood := { row := legalCountsUptoRow, standIns := [], harness := (true, "be634fe01c18399661baee58b7543ebd0356c05308b5315c0333b370e20043dc"), looks := false }, kinds := [], alts := [], laidByText := true, laidKinds := [.data, .data, .data, .data], laidTests := true, laidLooks := .later }
def LegalCountsUptoCardSaid : Prop := Claim7.holds Tryz.pinned (.plain (OpenSpec.upto legalCountsSpec)) legalCountsUptoCard

/-- THE SECOND FORM's CARD OF 'zugzwanglaw10.LegalEnds'. -/
def legalEndsUptoCard : Claim7 := { stood := { row := legalEndsUptoRow, standIns := [], harness := (true, "be634fe01c18399661baee58b7543ebd0356c05308b5315c0333b370e20043dc"), looks := false }, kinds := [], alts := [], laidByText := true, laidKinds := [.data, .data, .data, .data], laidTests := true, laidLooks := .later }
def LegalEndsUptoCardSaid : Prop := Claim7.holds Tryz.pinned (.plain (OpenSpec.upto legalEndsSpec)) legalEndsUptoCard

/-- THE SECOND FORM's CARD OF 'zugzwanglaw10.LegalGoes'. -/
def legalGoesUptoCard : Claim7 := { stood := { row := legalGoesUptoRow, standIns := [], harness := (true, "be634fe01c18399661baee58b7543ebd0356c05308b5315c0333b370e20043dc"), looks := false }, kinds := [], alts := [], laidByText := true, laidKinds := [.data, .data, .data, .data], laidTests := true, laidLooks := .later }
def LegalGoesUptoCardSaid : Prop := Claim7.holds Tryz.pinned (.plain (OpenSpec.upto legalGoesSpec)) legalGoesUptoCard

/-- THE SECOND FORM's CARD OF 'zugzwanglaw10.LegalTurns'. -/
def legalTurnsUptoCard : Claim7 := { stood := { row := legalTurnsUptoRow, standIns := [], harness := (true, "be634fe01c18399661baee58b7543ebd0356c05308b5315c0333b370e20043dc"), looks := false }, kinds := [], alts := [], laidByText := true, laidKinds := [.data, .data, .data, .data], laidTests := true, laidLooks := .later }
def LegalTurnsUptoCardSaid : Prop := Claim7.holds Tryz.pinned (.plain (OpenSpec.upto legalTurnsSpec)) legalTurnsUptoCard

/-- THE SECOND FORM's CARD OF 'zugzwanglaw11.EndsTell'. -/
def endsTellUptoCard : Claim7 := { stood := { row := endsTellUptoRow, standIns := [], harness := (true, "be634fe01c18399661baee58b7543ebd0356c05308b5315c0333b370e20043dc"), looks := false }, kinds := [], alts := [], laidByText := true, laidKinds := [.data, .data, .data, .data], laidTests := true, laidLooks := .later }
def EndsTellUptoCardSaid : Prop := Claim7.holds Tryz.pinned (.plain (OpenSpec.upto endsTellSpec)) endsTellUptoCard

/-- THE SECOND FORM's CARD OF 'zugzwanglaw11.EndsAll'. -/
def endsAllUptoCard : Claim7 := { stood := { row := endsAllUptoRow, standIns := [], harness := (true, "be634fe01c18399661baee58b7543ebd0356c05308b5315c0333b370e20043dc"), looks := false }, kinds := [], alts := [], laidByText := true, laidKinds := [.data, .data, .data, .data], laidTests := true, laidLooks := .later }
def EndsAllUptoCardSaid : Prop := Claim7.holds Tryz.pinned (.plain (OpenSpec.upto endsAllSpec)) endsAllUptoCard

/-- THE SECOND FORM's CARD OF 'zugzwanglaw11.EndsOnly'. -/
def endsOnlyUptoCard : Claim7 := { stood := { row := endsOnlyUptoRow, standIns := [], harness := (true, "be634fe01c18399661baee58b7543ebd0356c05308b5315c0333b370e20043dc"), looks := false }, kinds := [], alts := [], laidByText := true, laidKinds := [.data, .data, .data, .data], laidTests := true, laidLooks := .later }
def EndsOnlyUptoCardSaid : Prop := Claim7.holds Tryz.pinned (.plain (OpenSpec.upto endsOnlySpec)) endsOnlyUptoCard

/-- THE SECOND FORM's CARD OF 'zugzwanglaw11.EndsMoves'. -/
def endsMovesUptoCard : Claim7 := { stood := { row := endsMovesUptoRow, standIns := [], harness := (true, "be634fe01c18399661baee58b7543ebd0356c05308b5315c0333b370e20043dc"), looks := false }, kinds := [], alts := [], laidByText := true, laidKinds := [.data, .data, .data, .data], laidTests := true, laidLooks := .later }
def EndsMovesUptoCardSaid : Prop := Claim7.holds Tryz.pinned (.plain (OpenSpec.upto endsMovesSpec)) endsMovesUptoCard
end Rows
end Go.Proofs.YthinkiljhkanhaaGreatDoor
