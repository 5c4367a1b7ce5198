/-
  DERIVED. GIVEN WITH THE SEED: THE CARDS: each row of YtcdnakbdajbfoaaGreatDoorRows.lean that lists a variable, with what it lists TIED to the program's text (the seventh form; the later family's looks); each row that meets fmt, with fmt's text TOLD by the authors' own Lean function (tested against real Go, not proved from fmt's source: count such statements apart). THE CARD IS WHAT COUNTS. Prove the row's statement (the work); the ties are given (YtcdnakbdajbfoaaGreatDoorTie.lean); close each card by the builder's one call (the guide's Derived/Test/ToyasCard.lean, 'card_holds'). Laid BY PROGRAM, IN A SANDBOX (cutbox-door.mjs). By AI agents, Wed Nov 11 2026. No macro, syntax, notation, axiom, sorry.
-/
import Derived.Test.YtcdnakbdajbfoaaGreatDoorRows
import GoSem.ClaimSeven
namespace Go.Proofs.YtcdnakbdajbfoaaGreatDoor
namespace Rows

/-- THE TIED CARD OF 'zugzwanglaw12.AgainTells'. -/
def againTellsCard : Claim7 := { stood := { row := againTellsRow, standIns := [], harness := (true, "e9ed4ca0f17389d4fe54523a54c01015e954891f1b1a7a1d6dbcad5b2eb0f8ce"), looks := true }, kinds := [], alts := [], laidByText := true, laidKinds := [.data, .data, .data, .data, .data, .data, .data], laidTests := true, laidLooks := .later }
def AgainTellsCardSaid : Prop := Claim7.holds Tryz.pinned (.plain (OpenSpec.ofChange againTellsSpec)) againTellsCard

/-- THE TIED CARD OF 'zugzwanglaw12.AgainEnds'. -/
def againEndsCard : Claim7 := { stood := { row := againEndsRow, standIns := [], harness := (true, "e9ed4ca0f17389d4fe54523a54c01015e954891f1b1a7a1d6dbcad5b2eb0f8ce"), looks := true }, kinds := [], alts := [], laidByText := true, laidKinds := [.data, .data, .data, .data, .data, .data, .data], laidTests := true, laidLooks := .later }
def AgainEndsCardSaid : Prop := Claim7.holds Tryz.pinned (.plain (OpenSpec.ofChange againEndsSpec)) againEndsCard

/-- THE TIED CARD OF 'zugzwanglaw12.AgainLegal'. -/
def againLegalCard : Claim7 := { stood := { row := againLegalRow, standIns := [], harness := (true, "e9ed4ca0f17389d4fe54523a54c01015e954891f1b1a7a1d6dbcad5b2eb0f8ce"), looks := true }, kinds := [], alts := [], laidByText := true, laidKinds := [.data, .data, .data, .data, .data, .data, .data], laidTests := true, laidLooks := .later }
def AgainLegalCardSaid : Prop := Claim7.holds Tryz.pinned (.plain (OpenSpec.ofChange againLegalSpec)) againLegalCard

/-- THE TIED CARD OF 'zugzwanglaw12.AgainNever'. -/
def againNeverCard : Claim7 := { stood := { row := againNeverRow, standIns := [], harness := (true, "e9ed4ca0f17389d4fe54523a54c01015e954891f1b1a7a1d6dbcad5b2eb0f8ce"), looks := true }, kinds := [], alts := [], laidByText := true, laidKinds := [.data, .data, .data, .data, .data, .data, .data], laidTests := true, laidLooks := .later }
def AgainNeverCardSaid : Prop := Claim7.holds Tryz.pinned (.plain (OpenSpec.ofChange againNeverSpec)) againNeverCard

/-- THE SECOND FORM's CARD OF 'zugzwanglaw12.AgainTells'. -/
def againTellsUptoCard : Claim7 := { stood := { row := againTellsUptoRow, standIns := [], harness := (true, "e9ed4ca0f17389d4fe54523a54c01015e954891f1b1a7a1d6dbcad5b2eb0f8ce"), looks := true }, kinds := [], alts := [], laidByText := true, laidKinds := [.data, .data, .data, .data, .data, .data, .data], laidTests := true, laidLooks := .later }
def AgainTellsUptoCardSaid : Prop := Claim7.holds Tryz.pinned (.plain (OpenSpec.upto againTellsSpec)) againTellsUptoCard

/-- THE SECOND FORM's CARD OF 'zugzwanglaw12.AgainEnds'. -/
def againEndsUptoCard : Claim7 := { stood := { row := againEndsUptoRow, standIns := [], harness := (true, "e9ed4ca0f17389d4fe54523a54c01015e954891f1b1a7a1d6dbcad5b2eb0f8ce"), looks := true }, kinds := [], alts := [], laidByText := true, laidKinds := [.data, .data, .data, .data, .data, .data, .data], laidTests := true, laidLooks := .later }
def AgainEndsUptoCardSaid : Prop := Claim7.holds Tryz.pinned (.plain (OpenSpec.upto againEndsSpec)) againEndsUptoCard

/-- THE SECOND FORM's CARD OF 'zugzwanglaw12.AgainLegal'. -/
def againLegalUptoCard : Claim7 := { stood := { row := againLegalUptoRow, standIns := [], harness := (true, "e9ed4ca0f17389d4fe54523a54c01015e954891f1b1a7a1d6dbcad5b2eb0f8ce"), looks := true }, kinds := [], alts := [], laidByText := true, laidKinds := [.data, .data, .data, .data, .data, .data, .data], laidTests := true, laidLooks := .later }
def AgainLegalUptoCardSaid : Prop := Claim7.holds Tryz.pinned (.plain (OpenSpec.upto againLegalSpec)) againLegalUptoCard

/-- THE SECOND FORM's CARD OF 'zugzwanglaw12.AgainNever'. -/
def againNeverUptoCard : Claim7 := { stood := { row := againNeverUptoRow, standIns := [], harness := (true, "e9ed4ca0f17389d4fe54523a54c01015e954891f1b1a7a1d6dbcad5b2eb0f8ce"), looks := true }, kinds := [], alts := [], laidByText := true, laidKinds := [.data, .data, .data, .data, .data, .data, .data], laidTests := true, laidLooks := .later }
def AgainNeverUptoCardSaid : Prop := Claim7.holds Tryz.pinned (.plain (OpenSpec.upto againNeverSpec)) againNeverUptoCard
end Rows
end Go.Proofs.YtcdnakbdajbfoaaGreatDoor
