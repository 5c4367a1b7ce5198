/-
  DERIVED. GIVEN WITH THE SEED: THE CARDS: each row of YtejknkgbkkdaiaaGreatDoorRows.lean that lists a variable, with what it lists TIED to the program's text (the seventh form; the later family's looks); each row that meets fmt, with fmt's text TOLD by the authors' own Lean function (tested against real Go, not proved from fmt's source: count such statements apart). THE CARD IS WHAT COUNTS. Prove the row's statement (the work); the ties are given (YtejknkgbkkdaiaaGreatDoorTie.lean); close each card by the builder's one call (the guide's Derived/Test/ToyasCard.lean, 'card_holds'). Laid BY PROGRAM, IN A SANDBOX (cutbox-door.mjs). By AI agents, Wed Nov 11 2026. No macro, syntax, notation, axiom, sorry.
-/
import Derived.Test.YtejknkgbkkdaiaaGreatDoorRows
import GoSem.ClaimSeven
namespace Go.Proofs.YtejknkgbkkdaiaaGreatDoor
namespace Rows

/-- THE TIED CARD OF 'zugzwanglaw04.TagsTell'. -/
def tagsTellCard : Claim7 := { stood := { row := tagsTellRow, standIns := [], harness := (true, "ceaf1ad7ba9174b8b72987a77212361019db040c96c27f6c304c818084581b39"), looks := true }, kinds := [], alts := [], laidByText := true, laidKinds := [.data], laidTests := true, laidLooks := .later }
def TagsTellCardSaid : Prop := Claim7.holds Tryz.pinned (.plain (OpenSpec.ofChange tagsTellSpec)) tagsTellCard

/-- THE TIED CARD OF 'zugzwanglaw04.TagsEnds'. -/
def tagsEndsCard : Claim7 := { stood := { row := tagsEndsRow, standIns := [], harness := (true, "ceaf1ad7ba9174b8b72987a77212361019db040c96c27f6c304c818084581b39"), looks := true }, kinds := [], alts := [], laidByText := true, laidKinds := [.data], laidTests := true, laidLooks := .later }
def TagsEndsCardSaid : Prop := Claim7.holds Tryz.pinned (.plain (OpenSpec.ofChange tagsEndsSpec)) tagsEndsCard

/-- THE SECOND FORM's CARD OF 'zugzwanglaw04.TagsTell'. -/
def tagsTellUptoCard : Claim7 := { stood := { row := tagsTellUptoRow, standIns := [], harness := (true, "ceaf1ad7ba9174b8b72987a77212361019db040c96c27f6c304c818084581b39"), looks := true }, kinds := [], alts := [], laidByText := true, laidKinds := [.data], laidTests := true, laidLooks := .later }
def TagsTellUptoCardSaid : Prop := Claim7.holds Tryz.pinned (.plain (OpenSpec.upto tagsTellSpec)) tagsTellUptoCard

/-- THE SECOND FORM's CARD OF 'zugzwanglaw04.TagsEnds'. -/
def tagsEndsUptoCard : Claim7 := { stood := { row := tagsEndsUptoRow, standIns := [], harness := (true, "ceaf1ad7ba9174b8b72987a77212361019db040c96c27f6c304c818084581b39"), looks := true }, kinds := [], alts := [], laidByText := true, laidKinds := [.data], laidTests := true, laidLooks := .later }
def TagsEndsUptoCardSaid : Prop := Claim7.holds Tryz.pinned (.plain (OpenSpec.upto tagsEndsSpec)) tagsEndsUptoCard
end Rows
end Go.Proofs.YtejknkgbkkdaiaaGreatDoor
