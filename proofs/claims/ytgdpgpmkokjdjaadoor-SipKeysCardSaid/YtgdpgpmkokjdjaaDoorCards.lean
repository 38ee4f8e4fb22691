/-
  DERIVED. GIVEN WITH THE SEED: THE CARDS: each row of YtgdpgpmkokjdjaaDoorRows.lean that lists a variable, with what it lists TIED to the program's text (the seventh form; the later family's looks); each row that meets fmt, with fmt's text TOLD by the authors' own Lean function (tested against real Go, not proved from fmt's source: count such statements apart). THE CARD IS WHAT COUNTS. Prove the row's statement (the work); the ties are given (YtgdpgpmkokjdjaaDoorTie.lean); close each card by the builder's one call (the guide's Derived/Test/ToyasCard.lean, 'card_holds'). Laid BY PROGRAM, IN A SANDBOX (cutbox-door.mjs). By AI agents, Wed Nov 11 2026. No macro, syntax, notation, axiom, sorry.
-/
import Derived.Test.YtgdpgpmkokjdjaaDoorRows
import GoSem.ClaimSeven
namespace Go.Proofs.YtgdpgpmkokjdjaaDoor
namespace Rows

/-- THE TIED CARD OF 'clepsydralaw04.SipSums'. -/
def sipSumsCard : Claim7 := { stood := { row := sipSumsRow, standIns := [], harness := (true, "f6260b40d16c91e3b45da1fd405d07525befa6cf8aa3c6f3beee3af7a03992c7"), looks := false }, kinds := [], alts := [], laidByText := true, laidKinds := [.data, .pinned], laidTests := true, laidLooks := .later }
def SipSumsCardSaid : Prop := Claim7.holds Tryd.pinned (.plain (OpenSpec.ofChange sipSumsSpec)) sipSumsCard

/-- THE TIED CARD OF 'clepsydralaw04.SipPieces'. -/
def sipPiecesCard : Claim7 := { stood := { row := sipPiecesRow, standIns := [], harness := (true, "f6260b40d16c91e3b45da1fd405d07525befa6cf8aa3c6f3beee3af7a03992c7"), looks := false }, kinds := [], alts := [], laidByText := true, laidKinds := [.data, .pinned], laidTests := true, laidLooks := .later }
def SipPiecesCardSaid : Prop := Claim7.holds Tryd.pinned (.plain (OpenSpec.ofChange sipPiecesSpec)) sipPiecesCard

/-- THE TIED CARD OF 'clepsydralaw04.SipKeys'. -/
def sipKeysCard : Claim7 := { stood := { row := sipKeysRow, standIns := [], harness := (true, "f6260b40d16c91e3b45da1fd405d07525befa6cf8aa3c6f3beee3af7a03992c7"), looks := false }, kinds := [], alts := [], laidByText := true, laidKinds := [.data, .pinned], laidTests := true, laidLooks := .later }
def SipKeysCardSaid : Prop := Claim7.holds Tryd.pinned (.plain (OpenSpec.ofChange sipKeysSpec)) sipKeysCard

/-- THE TIED CARD OF 'clepsydralaw04.SipDigits'. -/
def sipDigitsCard : Claim7 := { stood := { row := sipDigitsRow, standIns := [], harness := (true, "f6260b40d16c91e3b45da1fd405d07525befa6cf8aa3c6f3beee3af7a03992c7"), looks := false }, kinds := [], alts := [], laidByText := true, laidKinds := [.data, .pinned], laidTests := true, laidLooks := .later }
def SipDigitsCardSaid : Prop := Claim7.holds Tryd.pinned (.plain (OpenSpec.ofChange sipDigitsSpec)) sipDigitsCard

/-- THE TIED CARD OF 'clepsydralaw04.SipKnown'. -/
def sipKnownCard : Claim7 := { stood := { row := sipKnownRow, standIns := [], harness := (true, "f6260b40d16c91e3b45da1fd405d07525befa6cf8aa3c6f3beee3af7a03992c7"), looks := false }, kinds := [], alts := [], laidByText := true, laidKinds := [.data, .pinned], laidTests := true, laidLooks := .later }
def SipKnownCardSaid : Prop := Claim7.holds Tryd.pinned (.plain (OpenSpec.ofChange sipKnownSpec)) sipKnownCard

/-- THE SECOND FORM's CARD OF 'clepsydralaw04.SipSums'. -/
def sipSumsUptoCard : Claim7 := { stood := { row := sipSumsUptoRow, standIns := [], harness := (true, "f6260b40d16c91e3b45da1fd405d07525befa6cf8aa3c6f3beee3af7a03992c7"), looks := false }, kinds := [], alts := [], laidByText := true, laidKinds := [.data, .pinned], laidTests := true, laidLooks := .later }
def SipSumsUptoCardSaid : Prop := Claim7.holds Tryd.pinned (.plain (OpenSpec.upto sipSumsSpec)) sipSumsUptoCard

/-- THE SECOND FORM's CARD OF 'clepsydralaw04.SipPieces'. -/
def sipPiecesUptoCard : Claim7 := { stood := { row := sipPiecesUptoRow, standIns := [], harness := (true, "f6260b40d16c91e3b45da1fd405d07525befa6cf8aa3c6f3beee3af7a03992c7"), looks := false }, kinds := [], alts := [], laidByText := true, laidKinds := [.data, .pinned], laidTests := true, laidLooks := .later }
def SipPiecesUptoCardSaid : Prop := Claim7.holds Tryd.pinned (.plain (OpenSpec.upto sipPiecesSpec)) sipPiecesUptoCard

/-- THE SECOND FORM's CARD OF 'clepsydralaw04.SipKeys'. -/
def sipKeysUptoCard : Claim7 := { stood := { row := sipKeysUptoRow, standIns := [], harness := (true, "f6260b40d16c91e3b45da1fd405d07525befa6cf8aa3c6f3beee3af7a03992c7"), looks := false }, kinds := [], alts := [], laidByText := true, laidKinds := [.data, .pinned], laidTests := true, laidLooks := .later }
def SipKeysUptoCardSaid : Prop := Claim7.holds Tryd.pinned (.plain (OpenSpec.upto sipKeysSpec)) sipKeysUptoCard

/-- THE SECOND FORM's CARD OF 'clepsydralaw04.SipDigits'. -/
def sipDigitsUptoCard : Claim7 := { stood := { row := sipDigitsUptoRow, standIns := [], harness := (true, "f6260b40d16c91e3b45da1fd405d07525befa6cf8aa3c6f3beee3af7a03992c7"), looks := false }, kinds := [], alts := [], laidByText := true, laidKinds := [.data, .pinned], laidTests := true, laidLooks := .later }
def SipDigitsUptoCardSaid : Prop := Claim7.holds Tryd.pinned (.plain (OpenSpec.upto sipDigitsSpec)) sipDigitsUptoCard

/-- THE SECOND FORM's CARD OF 'clepsydralaw04.SipKnown'. -/
def sipKnownUptoCard : Claim7 := { stood := { row := sipKnownUptoRow, standIns := [], harness := (true, "f6260b40d16c91e3b45da1fd405d07525befa6cf8aa3c6f3beee3af7a03992c7"), looks := false }, kinds := [], alts := [], laidByText := true, laidKinds := [.data, .pinned], laidTests := true, laidLooks := .later }
def SipKnownUptoCardSaid : Prop := Claim7.holds Tryd.pinned (.plain (OpenSpec.upto sipKnownSpec)) sipKnownUptoCard
end Rows
end Go.Proofs.YtgdpgpmkokjdjaaDoor
