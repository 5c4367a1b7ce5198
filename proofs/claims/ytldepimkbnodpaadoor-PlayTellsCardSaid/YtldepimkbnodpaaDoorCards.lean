/-
  DERIVED. GIVEN WITH THE SEED: THE CARDS: each row of YtldepimkbnodpaaDoorRows.lean that lists a variable, with what it lists TIED to the program's text (the seventh form; the later family's looks); each row that meets fmt, with fmt's text TOLD by the authors' own Lean function (tested against real Go, not proved from fmt's source: count such statements apart). THE CARD IS WHAT COUNTS. Prove the row's statement (the work); the ties are given (YtldepimkbnodpaaDoorTie.lean); close each card by the builder's one call (the guide's Derived/Test/ToyasCard.lean, 'card_holds'). Laid BY PROGRAM, IN A SANDBOX (cutbox-door.mjs). By AI agents, Wed Nov 11 2026. No macro, syntax, notation, axiom, sorry.
-/
import Derived.Test.YtldepimkbnodpaaDoorRows
import GoSem.ClaimSeven
namespace Go.Proofs.YtldepimkbnodpaaDoor
namespace Rows

/-- THE TIED CARD OF 'zugzwanglaw08.PlayTells'. -/
def playTellsCard : Claim7 := { stood := { row := playTellsRow, standIns := [], harness := (true, "0e8b0c91980a262ccc7fb4336aae73bbcd4fab494fc3e10556683e152748bfbc"), looks := false }, kinds := [], alts := [], laidByText := true, laidKinds := [.data], laidTests := true, laidLooks := .later }
def PlayTellsCardSaid : Prop := Claim7.holds Tryd.pinned (.plain (OpenSpec.ofChange playTellsSpec)) playTellsCard

/-- THE TIED CARD OF 'zugzwanglaw08.PlayEnds'. -/
def playEndsCard : Claim7 := { stood := { row := playEndsRow, standIns := [], harness := (true, "0e8b0c91980a262ccc7fb4336aae73bbcd4fab494fc3e10556683e152748bfbc"), looks := false }, kinds := [], alts := [], laidByText := true, laidKinds := [.data], laidTests := true, laidLooks := .later }
def PlayEndsCardSaid : Prop := Claim7.holds Tryd.pinned (.plain (OpenSpec.ofChange playEndsSpec)) playEndsCard

/-- THE TIED CARD OF 'zugzwanglaw08.PlayTurns'. -/
def playTurnsCard : Claim7 := { stood := { row := playTurnsRow, standIns := [], harness := (true, "0e8b0c91980a262ccc7fb4336aae73bbcd4fab494fc3e10556683e152748bfbc"), looks := false }, kinds := [], alts := [], laidByText := true, laidKinds := [.data, .data], laidTests := true, laidLooks := .later }
def PlayTurnsCardSaid : Prop := Claim7.holds Tryd.pinned (.plain (OpenSpec.ofChange playTurnsSpec)) playTurnsCard

/-- THE TIED CARD OF 'zugzwanglaw08.PlayFew'. -/
def playFewCard : Claim7 := { stood := { row := playFewRow, standIns := [], harness := (true, "0e8b0c91980a262ccc7fb4336aae73bbcd4fab494fc3e10556683e152748bfbc"), looks := false }, kinds := [], alts := [], laidByText := true, laidKinds := [.data, .data], laidTests := true, laidLooks := .later }
def PlayFewCardSaid : Prop := Claim7.holds Tryd.pinned (.plain (OpenSpec.ofChange playFewSpec)) playFewCard

/-- THE SECOND FORM's CARD OF 'zugzwanglaw08.PlayTells'. -/
def playTellsUptoCard : Claim7 := { stood := { row := playTellsUptoRow, standIns := [], harness := (true, "0e8b0c91980a262ccc7fb4336aae73bbcd4fab494fc3e10556683e152748bfbc"), looks := false }, kinds := [], alts := [], laidByText := true, laidKinds := [.data], laidTests := true, laidLooks := .later }
def PlayTellsUptoCardSaid : Prop := Claim7.holds Tryd.pinned (.plain (OpenSpec.upto playTellsSpec)) playTellsUptoCard

/-- THE SECOND FORM's CARD OF 'zugzwanglaw08.PlayEnds'. -/
def playEndsUptoCard : Claim7 := { stood := { row := playEndsUptoRow, standIns := [], harness := (true, "0e8b0c91980a262ccc7fb4336aae73bbcd4fab494fc3e10556683e152748bfbc"), looks := false }, kinds := [], alts := [], laidByText := true, laidKinds := [.data], laidTests := true, laidLooks := .later }
def PlayEndsUptoCardSaid : Prop := Claim7.holds Tryd.pinned (.plain (OpenSpec.upto playEndsSpec)) playEndsUptoCard

/-- THE SECOND FORM's CARD OF 'zugzwanglaw08.PlayTurns'. -/
def playTurnsUptoCard : Claim7 := { stood := { row := playTurnsUptoRow, standIns := [], harness := (true, "0e8b0c91980a262ccc7fb4336aae73bbcd4fab494fc3e10556683e152748bfbc"), looks := false }, kinds := [], alts := [], laidByText := true, laidKinds := [.data, .data], laidTests := true, laidLooks := .later }
def PlayTurnsUptoCardSaid : Prop := Claim7.holds Tryd.pinned (.plain (OpenSpec.upto playTurnsSpec)) playTurnsUptoCard

/-- THE SECOND FORM's CARD OF 'zugzwanglaw08.PlayFew'. -/
def playFewUptoCard : Claim7 := { stood := { row := playFewUptoRow, standIns := [], harness := (true, "0e8b0c91980a262ccc7fb4336aae73bbcd4fab494fc3e10556683e152748bfbc"), looks := false }, kinds := [], alts := [], laidByText := true, laidKinds := [.data, .data], laidTests := true, laidLooks := .later }
def PlayFewUptoCardSaid : Prop := Claim7.holds Tryd.pinned (.plain (OpenSpec.upto playFewSpec)) playFewUptoCard
end Rows
end Go.Proofs.YtldepimkbnodpaaDoor
