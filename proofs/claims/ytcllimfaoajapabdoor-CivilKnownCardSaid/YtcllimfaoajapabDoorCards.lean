/-
  DERIVED. GIVEN WITH THE SEED: THE CARDS: each row of YtcllimfaoajapabDoorRows.lean that lists a variable, with what it lists TIED to the program's text (the seventh form; the later family's looks); each row that meets fmt, with fmt's text TOLD by the authors' own Lean function (tested against real Go, not proved from fmt's source: count such statements apart). THE CARD IS WHAT COUNTS. Prove the row's statement (the work); the ties are given (YtcllimfaoajapabDoorTie.lean); close each card by the builder's one call (the guide's Derived/Test/ToyasCard.lean, 'card_holds'). Laid BY PROGRAM, IN A SANDBOX (cutbox-door.mjs). By AI agents, Wed Nov 11 2026. No macro, syntax, notation, axiom, sorry.
-/
import Derived.Test.YtcllimfaoajapabDoorRows
import GoSem.ClaimSeven
namespace Go.Proofs.YtcllimfaoajapabDoor
namespace Rows

/-- THE TIED CARD OF 'clepsydralaw03.CivilDays'. -/
def civilDaysCard : Claim7 := { stood := { row := civilDaysRow, standIns := [], harness := (true, "a510cf990d3422a7ed8f3c83af34adbd2f424c31de5dcff2f679bd4c29210a0a"), looks := false }, kinds := [], alts := [], laidByText := true, laidKinds := [.data], laidTests := true, laidLooks := .later }
def CivilDaysCardSaid : Prop := Claim7.holds Tryd.pinned (.plain (OpenSpec.ofChange civilDaysSpec)) civilDaysCard

/-- THE TIED CARD OF 'clepsydralaw03.CivilOf'. -/
def civilOfCard : Claim7 := { stood := { row := civilOfRow, standIns := [], harness := (true, "a510cf990d3422a7ed8f3c83af34adbd2f424c31de5dcff2f679bd4c29210a0a"), looks := false }, kinds := [], alts := [], laidByText := true, laidKinds := [.data], laidTests := true, laidLooks := .later }
def CivilOfCardSaid : Prop := Claim7.holds Tryd.pinned (.plain (OpenSpec.ofChange civilOfSpec)) civilOfCard

/-- THE TIED CARD OF 'clepsydralaw03.CivilMicro'. -/
def civilMicroCard : Claim7 := { stood := { row := civilMicroRow, standIns := [], harness := (true, "a510cf990d3422a7ed8f3c83af34adbd2f424c31de5dcff2f679bd4c29210a0a"), looks := false }, kinds := [], alts := [], laidByText := true, laidKinds := [.data], laidTests := true, laidLooks := .later }
def CivilMicroCardSaid : Prop := Claim7.holds Tryd.pinned (.plain (OpenSpec.ofChange civilMicroSpec)) civilMicroCard

/-- THE TIED CARD OF 'clepsydralaw03.CivilFrom'. -/
def civilFromCard : Claim7 := { stood := { row := civilFromRow, standIns := [], harness := (true, "a510cf990d3422a7ed8f3c83af34adbd2f424c31de5dcff2f679bd4c29210a0a"), looks := false }, kinds := [], alts := [], laidByText := true, laidKinds := [.data], laidTests := true, laidLooks := .later }
def CivilFromCardSaid : Prop := Claim7.holds Tryd.pinned (.plain (OpenSpec.ofChange civilFromSpec)) civilFromCard

/-- THE TIED CARD OF 'clepsydralaw03.CivilKnown'. -/
def civilKnownCard : Claim7 := { stood := { row := civilKnownRow, standIns := [], harness := (true, "a510cf990d3422a7ed8f3c83af34adbd2f424c31de5dcff2f679bd4c29210a0a"), looks := false }, kinds := [], alts := [], laidByText := true, laidKinds := [.data], laidTests := true, laidLooks := .later }
def CivilKnownCardSaid : Prop := Claim7.holds Tryd.pinned (.plain (OpenSpec.ofChange civilKnownSpec)) civilKnownCard

/-- THE TIED CARD OF 'clepsydralaw03.CivilRound'. -/
def civilRoundCard : Claim7 := { stood := { row := civilRoundRow, standIns := [], harness := (true, "a510cf990d3422a7ed8f3c83af34adbd2f424c31de5dcff2f679bd4c29210a0a"), looks := false }, kinds := [], alts := [], laidByText := true, laidKinds := [.data], laidTests := true, laidLooks := .later }
def CivilRoundCardSaid : Prop := Claim7.holds Tryd.pinned (.plain (OpenSpec.ofChange civilRoundSpec)) civilRoundCard

/-- THE SECOND FORM's CARD OF 'clepsydralaw03.CivilDays'. -/
def civilDaysUptoCard : Claim7 := { stood := { row := civilDaysUptoRow, standIns := [], harness := (true, "a510cf990d3422a7ed8f3c83af34adbd2f424c31de5dcff2f679bd4c29210a0a"), looks := false }, kinds := [], alts := [], laidByText := true, laidKinds := [.data], laidTests := true, laidLooks := .later }
def CivilDaysUptoCardSaid : Prop := Claim7.holds Tryd.pinned (.plain (OpenSpec.upto civilDaysSpec)) civilDaysUptoCard

/-- THE SECOND FORM's CARD OF 'clepsydralaw03.CivilOf'. -/
def civilOfUptoCard : Claim7 := { stood := { row := civilOfUptoRow, standIns := [], harness := (true, "a510cf990d3422a7ed8f3c83af34adbd2f424c31de5dcff2f679bd4c29210a0a"), looks := false }, kinds := [], alts := [], laidByText := true, laidKinds := [.data], laidTests := true, laidLooks := .later }
def CivilOfUptoCardSaid : Prop := Claim7.holds Tryd.pinned (.plain (OpenSpec.upto civilOfSpec)) civilOfUptoCard

/-- THE SECOND FORM's CARD OF 'clepsydralaw03.CivilMicro'. -/
def civilMicroUptoCard : Claim7 := { stood := { row := civilMicroUptoRow, standIns := [], harness := (true, "a510cf990d3422a7ed8f3c83af34adbd2f424c31de5dcff2f679bd4c29210a0a"), looks := false }, kinds := [], alts := [], laidByText := true, laidKinds := [.data], laidTests := true, laidLooks := .later }
def CivilMicroUptoCardSaid : Prop := Claim7.holds Tryd.pinned (.plain (OpenSpec.upto civilMicroSpec)) civilMicroUptoCard

/-- THE SECOND FORM's CARD OF 'clepsydralaw03.CivilFrom'. -/
def civilFromUptoCard : Claim7 := { stood := { row := civilFromUptoRow, standIns := [], harness := (true, "a510cf990d3422a7ed8f3c83af34adbd2f424c31de5dcff2f679bd4c29210a0a"), looks := false }, kinds := [], alts := [], laidByText := true, laidKinds := [.data], laidTests := true, laidLooks := .later }
def CivilFromUptoCardSaid : Prop := Claim7.holds Tryd.pinned (.plain (OpenSpec.upto civilFromSpec)) civilFromUptoCard

/-- THE SECOND FORM's CARD OF 'clepsydralaw03.CivilKnown'. -/
def civilKnownUptoCard : Claim7 := { stood := { row := civilKnownUptoRow, standIns := [], harness := (true, "a510cf990d3422a7ed8f3c83af34adbd2f424c31de5dcff2f679bd4c29210a0a"), looks := false }, kinds := [], alts := [], laidByText := true, laidKinds := [.data], laidTests := true, laidLooks := .later }
def CivilKnownUptoCardSaid : Prop := Claim7.holds Tryd.pinned (.plain (OpenSpec.upto civilKnownSpec)) civilKnownUptoCard

/-- THE SECOND FORM's CARD OF 'clepsydralaw03.CivilRound'. -/
def civilRoundUptoCard : Claim7 := { stood := { row := civilRoundUptoRow, standIns := [], harness := (true, "a510cf990d3422a7ed8f3c83af34adbd2f424c31de5dcff2f679bd4c29210a0a"), looks := false }, kinds := [], alts := [], laidByText := true, laidKinds := [.data], laidTests := true, laidLooks := .later }
def CivilRoundUptoCardSaid : Prop := Claim7.holds Tryd.pinned (.plain (OpenSpec.upto civilRoundSpec)) civilRoundUptoCard
end Rows
end Go.Proofs.YtcllimfaoajapabDoor
