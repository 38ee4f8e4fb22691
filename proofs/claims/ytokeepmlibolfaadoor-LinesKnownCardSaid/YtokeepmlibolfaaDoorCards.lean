/-
  DERIVED. GIVEN WITH THE SEED: THE CARDS: each row of YtokeepmlibolfaaDoorRows.lean that lists a variable, with what it lists TIED to the program's text (the seventh form; the later family's looks); each row that meets fmt, with fmt's text TOLD by the authors' own Lean function (tested against real Go, not proved from fmt's source: count such statements apart). THE CARD IS WHAT COUNTS. Prove the row's statement (the work); the ties are given (YtokeepmlibolfaaDoorTie.lean); close each card by the builder's one call (the guide's Derived/Test/ToyasCard.lean, 'card_holds'). Laid BY PROGRAM, IN A SANDBOX (cutbox-door.mjs). By AI agents, Wed Nov 11 2026. No macro, syntax, notation, axiom, sorry.
-/
import Derived.Test.YtokeepmlibolfaaDoorRows
import GoSem.ClaimSeven
namespace Go.Proofs.YtokeepmlibolfaaDoor
namespace Rows

/-- THE TIED CARD OF 'clepsydralaw11.LinesParse'. -/
def linesParseCard : Claim7 := { stood := { row := linesParseRow, standIns := [], harness := (true, "56b408dcc90eb31babc69260d039786020b093dbf92fd2281bc2fe00045ffbc1"), looks := false }, kinds := [], alts := [], laidByText := true, laidKinds := [.data, .pinned], laidTests := true, laidLooks := .later }
def LinesParseCardSaid : Prop := Claim7.holds Tryd.pinned (.plain (OpenSpec.ofChange linesParseSpec)) linesParseCard

/-- THE TIED CARD OF 'clepsydralaw11.LinesBack'. -/
def linesBackCard : Claim7 := { stood := { row := linesBackRow, standIns := [], harness := (true, "56b408dcc90eb31babc69260d039786020b093dbf92fd2281bc2fe00045ffbc1"), looks := false }, kinds := [], alts := [], laidByText := true, laidKinds := [.data, .pinned], laidTests := true, laidLooks := .later }
def LinesBackCardSaid : Prop := Claim7.holds Tryd.pinned (.plain (OpenSpec.ofChange linesBackSpec)) linesBackCard

/-- THE TIED CARD OF 'clepsydralaw11.LinesPassed'. -/
def linesPassedCard : Claim7 := { stood := { row := linesPassedRow, standIns := [], harness := (true, "56b408dcc90eb31babc69260d039786020b093dbf92fd2281bc2fe00045ffbc1"), looks := false }, kinds := [], alts := [], laidByText := true, laidKinds := [.data, .pinned], laidTests := true, laidLooks := .later }
def LinesPassedCardSaid : Prop := Claim7.holds Tryd.pinned (.plain (OpenSpec.ofChange linesPassedSpec)) linesPassedCard

/-- THE TIED CARD OF 'clepsydralaw11.LinesKnown'. -/
def linesKnownCard : Claim7 := { stood := { row := linesKnownRow, standIns := [], harness := (true, "56b408dcc90eb31babc69260d039786020b093dbf92fd2281bc2fe00045ffbc1"), looks := false }, kinds := [], alts := [], laidByText := true, laidKinds := [.data, .pinned], laidTests := true, laidLooks := .later }
def LinesKnownCardSaid : Prop := Claim7.holds Tryd.pinned (.plain (OpenSpec.ofChange linesKnownSpec)) linesKnownCard

/-- THE TIED CARD OF 'clepsydralaw11.LinesJoined'. -/
def linesJoinedCard : Claim7 := { stood := { row := linesJoinedRow, standIns := [], harness := (true, "56b408dcc90eb31babc69260d039786020b093dbf92fd2281bc2fe00045ffbc1"), looks := false }, kinds := [], alts := [], laidByText := true, laidKinds := [.data, .pinned], laidTests := true, laidLooks := .later }
def LinesJoinedCardSaid : Prop := Claim7.holds Tryd.pinned (.plain (OpenSpec.ofChange linesJoinedSpec)) linesJoinedCard

/-- THE SECOND FORM's CARD OF 'clepsydralaw11.LinesParse'. -/
def linesParseUptoCard : Claim7 := { stood := { row := linesParseUptoRow, standIns := [], harness := (true, "56b408dcc90eb31babc69260d039786020b093dbf92fd2281bc2fe00045ffbc1"), looks := false }, kinds := [], alts := [], laidByText := true, laidKinds := [.data, .pinned], laidTests := true, laidLooks := .later }
def LinesParseUptoCardSaid : Prop := Claim7.holds Tryd.pinned (.plain (OpenSpec.upto linesParseSpec)) linesParseUptoCard

/-- THE SECOND FORM's CARD OF 'clepsydralaw11.LinesBack'. -/
def linesBackUptoCard : Claim7 := { stood := { row := linesBackUptoRow, standIns := [], harness := (true, "56b408dcc90eb31babc69260d039786020b093dbf92fd2281bc2fe00045ffbc1"), looks := false }, kinds := [], alts := [], laidByText := true, laidKinds := [.data, .pinned], laidTests := true, laidLooks := .later }
def LinesBackUptoCardSaid : Prop := Claim7.holds Tryd.pinned (.plain (OpenSpec.upto linesBackSpec)) linesBackUptoCard

/-- THE SECOND FORM's CARD OF 'clepsydralaw11.LinesPassed'. -/
def linesPassedUptoCard : Claim7 := { stood := { row := linesPassedUptoRow, standIns := [], harness := (true, "56b408dcc90eb31babc69260d039786020b093dbf92fd2281bc2fe00045ffbc1"), looks := false }, kinds := [], alts := [], laidByText := true, laidKinds := [.data, .pinned], laidTests := true, laidLooks := .later }
def LinesPassedUptoCardSaid : Prop := Claim7.holds Tryd.pinned (.plain (OpenSpec.upto linesPassedSpec)) linesPassedUptoCard

/-- THE SECOND FORM's CARD OF 'clepsydralaw11.LinesKnown'. -/
def linesKnownUptoCard : Claim7 := { stood := { row := linesKnownUptoRow, standIns := [], harness := (true, "56b408dcc90eb31babc69260d039786020b093dbf92fd2281bc2fe00045ffbc1"), looks := false }, kinds := [], alts := [], laidByText := true, laidKinds := [.data, .pinned], laidTests := true, laidLooks := .later }
def LinesKnownUptoCardSaid : Prop := Claim7.holds Tryd.pinned (.plain (OpenSpec.upto linesKnownSpec)) linesKnownUptoCard

/-- THE SECOND FORM's CARD OF 'clepsydralaw11.LinesJoined'. -/
def linesJoinedUptoCard : Claim7 := { stood := { row := linesJoinedUptoRow, standIns := [], harness := (true, "56b408dcc90eb31babc69260d039786020b093dbf92fd2281bc2fe00045ffbc1"), looks := false }, kinds := [], alts := [], laidByText := true, laidKinds := [.data, .pinned], laidTests := true, laidLooks := .later }
def LinesJoinedUptoCardSaid : Prop := Claim7.holds Tryd.pinned (.plain (OpenSpec.upto linesJoinedSpec)) linesJoinedUptoCard
end Rows
end Go.Proofs.YtokeepmlibolfaaDoor
