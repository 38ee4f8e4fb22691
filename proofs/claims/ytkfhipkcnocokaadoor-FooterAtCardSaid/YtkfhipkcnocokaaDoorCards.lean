/-
  DERIVED. GIVEN WITH THE SEED: THE CARDS: each row of YtkfhipkcnocokaaDoorRows.lean that lists a variable, with what it lists TIED to the program's text (the seventh form; the later family's looks); each row that meets fmt, with fmt's text TOLD by the authors' own Lean function (tested against real Go, not proved from fmt's source: count such statements apart). THE CARD IS WHAT COUNTS. Prove the row's statement (the work); the ties are given (YtkfhipkcnocokaaDoorTie.lean); close each card by the builder's one call (the guide's Derived/Test/ToyasCard.lean, 'card_holds'). Laid BY PROGRAM, IN A SANDBOX (cutbox-door.mjs). By AI agents, Wed Nov 11 2026. No macro, syntax, notation, axiom, sorry.
-/
import Derived.Test.YtkfhipkcnocokaaDoorRows
import GoSem.ClaimSeven
namespace Go.Proofs.YtkfhipkcnocokaaDoor
namespace Rows

/-- THE TIED CARD OF 'clepsydralaw07.FooterTexts'. -/
def footerTextsCard : Claim7 := { stood := { row := footerTextsRow, standIns := [], harness := (true, "3ed4645fb7f4d4b739a0567e2f4ed8a1486df6cc88416d802efb5caf26f74036"), looks := true }, kinds := [], alts := [], laidByText := true, laidKinds := [.data, .data, .data, .sentinel, .sentinel], laidTests := true, laidLooks := .later }
def FooterTextsCardSaid : Prop := Claim7.holds Tryd.pinned (.plain (OpenSpec.ofChange footerTextsSpec)) footerTextsCard

/-- THE TIED CARD OF 'clepsydralaw07.FooterParses'. -/
def footerParsesCard : Claim7 := { stood := { row := footerParsesRow, standIns := [], harness := (true, "3ed4645fb7f4d4b739a0567e2f4ed8a1486df6cc88416d802efb5caf26f74036"), looks := true }, kinds := [], alts := [], laidByText := true, laidKinds := [.data, .data, .data, .sentinel, .sentinel], laidTests := true, laidLooks := .later }
def FooterParsesCardSaid : Prop := Claim7.holds Tryd.pinned (.plain (OpenSpec.ofChange footerParsesSpec)) footerParsesCard

/-- THE TIED CARD OF 'clepsydralaw07.FooterBack'. -/
def footerBackCard : Claim7 := { stood := { row := footerBackRow, standIns := [], harness := (true, "3ed4645fb7f4d4b739a0567e2f4ed8a1486df6cc88416d802efb5caf26f74036"), looks := true }, kinds := [], alts := [], laidByText := true, laidKinds := [.data, .data, .data, .sentinel, .sentinel], laidTests := true, laidLooks := .later }
def FooterBackCardSaid : Prop := Claim7.holds Tryd.pinned (.plain (OpenSpec.ofChange footerBackSpec)) footerBackCard

/-- THE TIED CARD OF 'clepsydralaw07.FooterAt'. -/
def footerAtCard : Claim7 := { stood := { row := footerAtRow, standIns := [], harness := (true, "3ed4645fb7f4d4b739a0567e2f4ed8a1486df6cc88416d802efb5caf26f74036"), looks := true }, kinds := [], alts := [], laidByText := true, laidKinds := [.data, .data, .data, .sentinel, .sentinel, .data], laidTests := true, laidLooks := .later }
def FooterAtCardSaid : Prop := Claim7.holds Tryd.pinned (.plain (OpenSpec.ofChange footerAtSpec)) footerAtCard

/-- THE TIED CARD OF 'clepsydralaw07.FooterTurns'. -/
def footerTurnsCard : Claim7 := { stood := { row := footerTurnsRow, standIns := [], harness := (true, "3ed4645fb7f4d4b739a0567e2f4ed8a1486df6cc88416d802efb5caf26f74036"), looks := true }, kinds := [], alts := [], laidByText := true, laidKinds := [.data, .data, .data, .sentinel, .sentinel, .data], laidTests := true, laidLooks := .later }
def FooterTurnsCardSaid : Prop := Claim7.holds Tryd.pinned (.plain (OpenSpec.ofChange footerTurnsSpec)) footerTurnsCard

/-- THE TIED CARD OF 'clepsydralaw07.FooterYears'. -/
def footerYearsCard : Claim7 := { stood := { row := footerYearsRow, standIns := [], harness := (true, "3ed4645fb7f4d4b739a0567e2f4ed8a1486df6cc88416d802efb5caf26f74036"), looks := true }, kinds := [], alts := [], laidByText := true, laidKinds := [.data, .data, .data, .sentinel, .sentinel, .data], laidTests := true, laidLooks := .later }
def FooterYearsCardSaid : Prop := Claim7.holds Tryd.pinned (.plain (OpenSpec.ofChange footerYearsSpec)) footerYearsCard

/-- THE SECOND FORM's CARD OF 'clepsydralaw07.FooterTexts'. -/
def footerTextsUptoCard : Claim7 := { stood := { row := footerTextsUptoRow, standIns := [], harness := (true, "3ed4645fb7f4d4b739a0567e2f4ed8a1486df6cc88416d802efb5caf26f74036"), looks := true }, kinds := [], alts := [], laidByText := true, laidKinds := [.data, .data, .data, .sentinel, .sentinel], laidTests := true, laidLooks := .later }
def FooterTextsUptoCardSaid : Prop := Claim7.holds Tryd.pinned (.plain (OpenSpec.upto footerTextsSpec)) footerTextsUptoCard

/-- THE SECOND FORM's CARD OF 'clepsydralaw07.FooterParses'. -/
def footerParsesUptoCard : Claim7 := { stood := { row := footerParsesUptoRow, standIns := [], harness := (true, "3ed4645fb7f4d4b739a0567e2f4ed8a1486df6cc88416d802efb5caf26f74036"), looks := true }, kinds := [], alts := [], laidByText := true, laidKinds := [.data, .data, .data, .sentinel, .sentinel], laidTests := true, laidLooks := .later }
def FooterParsesUptoCardSaid : Prop := Claim7.holds Tryd.pinned (.plain (OpenSpec.upto footerParsesSpec)) footerParsesUptoCard

/-- THE SECOND FORM's CARD OF 'clepsydralaw07.FooterBack'. -/
def footerBackUptoCard : Claim7 := { stood := { row := footerBackUptoRow, standIns := [], harness := (true, "3ed4645fb7f4d4b739a0567e2f4ed8a1486df6cc88416d802efb5caf26f74036"), looks := true }, kinds := [], alts := [], laidByText := true, laidKinds := [.data, .data, .data, .sentinel, .sentinel], laidTests := true, laidLooks := .later }
def FooterBackUptoCardSaid : Prop := Claim7.holds Tryd.pinned (.plain (OpenSpec.upto footerBackSpec)) footerBackUptoCard

/-- THE SECOND FORM's CARD OF 'clepsydralaw07.FooterAt'. -/
def footerAtUptoCard : Claim7 := { stood := { row := footerAtUptoRow, standIns := [], harness := (true, "3ed4645fb7f4d4b739a0567e2f4ed8a1486df6cc88416d802efb5caf26f74036"), looks := true }, kinds := [], alts := [], laidByText := true, laidKinds := [.data, .data, .data, .sentinel, .sentinel, .data], laidTests := true, laidLooks := .later }
def FooterAtUptoCardSaid : Prop := Claim7.holds Tryd.pinned (.plain (OpenSpec.upto footerAtSpec)) footerAtUptoCard

/-- THE SECOND FORM's CARD OF 'clepsydralaw07.FooterTurns'. -/
def footerTurnsUptoCard : Claim7 := { stood := { row := footerTurnsUptoRow, standIns := [], harness := (true, "3ed4645fb7f4d4b739a0567e2f4ed8a1486df6cc88416d802efb5caf26f74036"), looks := true }, kinds := [], alts := [], laidByText := true, laidKinds := [.data, .data, .data, .sentinel, .sentinel, .data], laidTests := true, laidLooks := .later }
def FooterTurnsUptoCardSaid : Prop := Claim7.holds Tryd.pinned (.plain (OpenSpec.upto footerTurnsSpec)) footerTurnsUptoCard

/-- THE SECOND FORM's CARD OF 'clepsydralaw07.FooterYears'. -/
def footerYearsUptoCard : Claim7 := { stood := { row := footerYearsUptoRow, standIns := [], harness := (true, "3ed4645fb7f4d4b739a0567e2f4ed8a1486df6cc88416d802efb5caf26f74036"), looks := true }, kinds := [], alts := [], laidByText := true, laidKinds := [.data, .data, .data, .sentinel, .sentinel, .data], laidTests := true, laidLooks := .later }
def FooterYearsUptoCardSaid : Prop := Claim7.holds Tryd.pinned (.plain (OpenSpec.upto footerYearsSpec)) footerYearsUptoCard
end Rows
end Go.Proofs.YtkfhipkcnocokaaDoor
