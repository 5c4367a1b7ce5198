/-
  DERIVED. GIVEN WITH THE SEED: THE CARDS: each row of YtbnpphecknhpeaaDoorRows.lean that lists a variable, with what it lists TIED to the program's text (the seventh form; the later family's looks); each row that meets fmt, with fmt's text TOLD by the authors' own Lean function (tested against real Go, not proved from fmt's source: count such statements apart). THE CARD IS WHAT COUNTS. Prove the row's statement (the work); the ties are given (YtbnpphecknhpeaaDoorTie.lean); close each card by the builder's one call (the guide's Derived/Test/ToyasCard.lean, 'card_holds'). Laid BY PROGRAM, IN A SANDBOX (cutbox-door.mjs). By AI agents, Wed Nov 11 2026. No macro, syntax, notation, axiom, sorry.
-/
import Derived.Test.YtbnpphecknhpeaaDoorRows
import GoSem.ClaimSeven
namespace Go.Proofs.YtbnpphecknhpeaaDoor
namespace Rows

/-- THE TIED CARD OF 'zugzwanglaw07.AttackTells'. -/
def attackTellsCard : Claim7 := { stood := { row := attackTellsRow, standIns := [], harness := (true, "4e6f67edfc033885cc96d9ac390b874373e723d287f4309431c86c70d9ed0474"), looks := false }, kinds := [], alts := [], laidByText := true, laidKinds := [.data], laidTests := true, laidLooks := .later }
def AttackTellsCardSaid : Prop := Claim7.holds Tryd.pinned (.plain (OpenSpec.ofChange attackTellsSpec)) attackTellsCard

/-- THE TIED CARD OF 'zugzwanglaw07.AttackEnds'. -/
def attackEndsCard : Claim7 := { stood := { row := attackEndsRow, standIns := [], harness := (true, "4e6f67edfc033885cc96d9ac390b874373e723d287f4309431c86c70d9ed0474"), looks := false }, kinds := [], alts := [], laidByText := true, laidKinds := [.data], laidTests := true, laidLooks := .later }
def AttackEndsCardSaid : Prop := Claim7.holds Tryd.pinned (.plain (OpenSpec.ofChange attackEndsSpec)) attackEndsCard

/-- THE TIED CARD OF 'zugzwanglaw07.AttackBoth'. -/
def attackBothCard : Claim7 := { stood := { row := attackBothRow, standIns := [], harness := (true, "4e6f67edfc033885cc96d9ac390b874373e723d287f4309431c86c70d9ed0474"), looks := false }, kinds := [], alts := [], laidByText := true, laidKinds := [.data], laidTests := true, laidLooks := .later }
def AttackBothCardSaid : Prop := Claim7.holds Tryd.pinned (.plain (OpenSpec.ofChange attackBothSpec)) attackBothCard

/-- THE TIED CARD OF 'zugzwanglaw07.AttackTurns'. -/
def attackTurnsCard : Claim7 := { stood := { row := attackTurnsRow, standIns := [], harness := (true, "4e6f67edfc033885cc96d9ac390b874373e723d287f4309431c86c70d9ed0474"), looks := false }, kinds := [], alts := [], laidByText := true, laidKinds := [.data], laidTests := true, laidLooks := .later }
def AttackTurnsCardSaid : Prop := Claim7.holds Tryd.pinned (.plain (OpenSpec.ofChange attackTurnsSpec)) attackTurnsCard

/-- THE SECOND FORM's CARD OF 'zugzwanglaw07.AttackTells'. -/
def attackTellsUptoCard : Claim7 := { stood := { row := attackTellsUptoRow, standIns := [], harness := (true, "4e6f67edfc033885cc96d9ac390b874373e723d287f4309431c86c70d9ed0474"), looks := false }, kinds := [], alts := [], laidByText := true, laidKinds := [.data], laidTests := true, laidLooks := .later }
def AttackTellsUptoCardSaid : Prop := Claim7.holds Tryd.pinned (.plain (OpenSpec.upto attackTellsSpec)) attackTellsUptoCard

/-- THE SECOND FORM's CARD OF 'zugzwanglaw07.AttackEnds'. -/
def attackEndsUptoCard : Claim7 := { stood := { row := attackEndsUptoRow, standIns := [], harness := (true, "4e6f67edfc033885cc96d9ac390b874373e723d287f4309431c86c70d9ed0474"), looks := false }, kinds := [], alts := [], laidByText := true, laidKinds := [.data], laidTests := true, laidLooks := .later }
def AttackEndsUptoCardSaid : Prop := Claim7.holds Tryd.pinned (.plain (OpenSpec.upto attackEndsSpec)) attackEndsUptoCard

/-- THE SECOND FORM's CARD OF 'zugzwanglaw07.AttackBoth'. -/
def attackBothUptoCard : Claim7 := { stood := { row := attackBothUptoRow, standIns := [], harness := (true, "4e6f67edfc033885cc96d9ac390b874373e723d287f4309431c86c70d9ed0474"), looks := false }, kinds := [], alts := [], laidByText := true, laidKinds := [.data], laidTests := true, laidLooks := .later }
def AttackBothUptoCardSaid : Prop := Claim7.holds Tryd.pinned (.plain (OpenSpec.upto attackBothSpec)) attackBothUptoCard

/-- THE SECOND FORM's CARD OF 'zugzwanglaw07.AttackTurns'. -/
def attackTurnsUptoCard : Claim7 := { stood := { row := attackTurnsUptoRow, standIns := [], harness := (true, "4e6f67edfc033885cc96d9ac390b874373e723d287f4309431c86c70d9ed0474"), looks := false }, kinds := [], alts := [], laidByText := true, laidKinds := [.data], laidTests := true, laidLooks := .later }
def AttackTurnsUptoCardSaid : Prop := Claim7.holds Tryd.pinned (.plain (OpenSpec.upto attackTurnsSpec)) attackTurnsUptoCard
end Rows
end Go.Proofs.YtbnpphecknhpeaaDoor
