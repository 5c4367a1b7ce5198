/-
  DERIVED. GIVEN WITH THE SEED: THE CARDS: each row of YthhjieagdkimfaaDoorRows.lean that lists a variable, with what it lists TIED to the program's text (the seventh form; the later family's looks); each row that meets fmt, with fmt's text TOLD by the authors' own Lean function (tested against real Go, not proved from fmt's source: count such statements apart). THE CARD IS WHAT COUNTS. Prove the row's statement (the work); the ties are given (YthhjieagdkimfaaDoorTie.lean); close each card by the builder's one call (the guide's Derived/Test/ToyasCard.lean, 'card_holds'). Laid BY PROGRAM, IN A SANDBOX (cutbox-door.mjs). By AI agents, Wed Nov 11 2026. No macro, syntax, notation, axiom, sorry.
-/
import Derived.Test.YthhjieagdkimfaaDoorRows
import GoSem.ClaimSeven
namespace Go.Proofs.YthhjieagdkimfaaDoor
namespace Rows

/-- THE TIED CARD OF 'zugzwanglaw02.DigestTells'. -/
def digestTellsCard : Claim7 := { stood := { row := digestTellsRow, standIns := [], harness := (true, "1b6c253c054e96d7d08923dac17cc493c22c3e6b3bd146876e937fead93a6073"), looks := true }, kinds := [], alts := [], laidByText := true, laidKinds := [.data], laidTests := true, laidLooks := .later }
def DigestTellsCardSaid : Prop := Claim7.holds Tryd.pinned (.plain (OpenSpec.ofChange digestTellsSpec)) digestTellsCard

/-- THE TIED CARD OF 'zugzwanglaw02.DigestEnds'. -/
def digestEndsCard : Claim7 := { stood := { row := digestEndsRow, standIns := [], harness := (true, "1b6c253c054e96d7d08923dac17cc493c22c3e6b3bd146876e937fead93a6073"), looks := true }, kinds := [], alts := [], laidByText := true, laidKinds := [.data], laidTests := true, laidLooks := .later }
def DigestEndsCardSaid : Prop := Claim7.holds Tryd.pinned (.plain (OpenSpec.ofChange digestEndsSpec)) digestEndsCard

/-- THE TIED CARD OF 'zugzwanglaw03.MacEnds'. -/
def macEndsCard : Claim7 := { stood := { row := macEndsRow, standIns := [], harness := (true, "1b6c253c054e96d7d08923dac17cc493c22c3e6b3bd146876e937fead93a6073"), looks := true }, kinds := [], alts := [], laidByText := true, laidKinds := [.data], laidTests := true, laidLooks := .later }
def MacEndsCardSaid : Prop := Claim7.holds Tryd.pinned (.plain (OpenSpec.ofChange macEndsSpec)) macEndsCard

/-- THE TIED CARD OF 'zugzwanglaw04.TagsFresh'. -/
def tagsFreshCard : Claim7 := { stood := { row := tagsFreshRow, standIns := [], harness := (true, "1b6c253c054e96d7d08923dac17cc493c22c3e6b3bd146876e937fead93a6073"), looks := true }, kinds := [], alts := [], laidByText := true, laidKinds := [.data], laidTests := true, laidLooks := .later }
def TagsFreshCardSaid : Prop := Claim7.holds Tryd.pinned (.plain (OpenSpec.ofChange tagsFreshSpec)) tagsFreshCard

/-- THE TIED CARD OF 'zugzwanglaw04.TagsReal'. -/
def tagsRealCard : Claim7 := { stood := { row := tagsRealRow, standIns := [], harness := (true, "1b6c253c054e96d7d08923dac17cc493c22c3e6b3bd146876e937fead93a6073"), looks := true }, kinds := [], alts := [], laidByText := true, laidKinds := [.data], laidTests := true, laidLooks := .later }
def TagsRealCardSaid : Prop := Claim7.holds Tryd.pinned (.plain (OpenSpec.ofChange tagsRealSpec)) tagsRealCard

/-- THE SECOND FORM's CARD OF 'zugzwanglaw02.DigestTells'. -/
def digestTellsUptoCard : Claim7 := { stood := { row := digestTellsUptoRow, standIns := [], harness := (true, "1b6c253c054e96d7d08923dac17cc493c22c3e6b3bd146876e937fead93a6073"), looks := true }, kinds := [], alts := [], laidByText := true, laidKinds := [.data], laidTests := true, laidLooks := .later }
def DigestTellsUptoCardSaid : Prop := Claim7.holds Tryd.pinned (.plain (OpenSpec.upto digestTellsSpec)) digestTellsUptoCard

/-- THE SECOND FORM's CARD OF 'zugzwanglaw02.DigestEnds'. -/
def digestEndsUptoCard : Claim7 := { stood := { row := digestEndsUptoRow, standIns := [], harness := (true, "1b6c253c054e96d7d08923dac17cc493c22c3e6b3bd146876e937fead93a6073"), looks := true }, kinds := [], alts := [], laidByText := true, laidKinds := [.data], laidTests := true, laidLooks := .later }
def DigestEndsUptoCardSaid : Prop := Claim7.holds Tryd.pinned (.plain (OpenSpec.upto digestEndsSpec)) digestEndsUptoCard

/-- THE SECOND FORM's CARD OF 'zugzwanglaw03.MacEnds'. -/
def macEndsUptoCard : Claim7 := { stood := { row := macEndsUptoRow, standIns := [], harness := (true, "1b6c253c054e96d7d08923dac17cc493c22c3e6b3bd146876e937fead93a6073"), looks := true }, kinds := [], alts := [], laidByText := true, laidKinds := [.data], laidTests := true, laidLooks := .later }
def MacEndsUptoCardSaid : Prop := Claim7.holds Tryd.pinned (.plain (OpenSpec.upto macEndsSpec)) macEndsUptoCard

/-- THE SECOND FORM's CARD OF 'zugzwanglaw04.TagsFresh'. -/
def tagsFreshUptoCard : Claim7 := { stood := { row := tagsFreshUptoRow, standIns := [], harness := (true, "1b6c253c054e96d7d08923dac17cc493c22c3e6b3bd146876e937fead93a6073"), looks := true }, kinds := [], alts := [], laidByText := true, laidKinds := [.data], laidTests := true, laidLooks := .later }
def TagsFreshUptoCardSaid : Prop := Claim7.holds Tryd.pinned (.plain (OpenSpec.upto tagsFreshSpec)) tagsFreshUptoCard

/-- THE SECOND FORM's CARD OF 'zugzwanglaw04.TagsReal'. -/
def tagsRealUptoCard : Claim7 := { stood := { row := tagsRealUptoRow, standIns := [], harness := (true, "1b6c253c054e96d7d08923dac17cc493c22c3e6b3bd146876e937fead93a6073"), looks := true }, kinds := [], alts := [], laidByText := true, laidKinds := [.data], laidTests := true, laidLooks := .later }
def TagsRealUptoCardSaid : Prop := Claim7.holds Tryd.pinned (.plain (OpenSpec.upto tagsRealSpec)) tagsRealUptoCard
end Rows
end Go.Proofs.YthhjieagdkimfaaDoor
