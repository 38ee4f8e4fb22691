/-
  DERIVED. GIVEN WITH THE SEED: THE CARDS: each row of YtdbcjiapbehacaaGreatDoorRows.lean that lists a variable, with what it lists TIED to the program's text (the seventh form; the later family's looks); each row that meets fmt, with fmt's text TOLD by the authors' own Lean function (tested against real Go, not proved from fmt's source: count such statements apart). THE CARD IS WHAT COUNTS. Prove the row's statement (the work); the ties are given (YtdbcjiapbehacaaGreatDoorTie.lean); close each card by the builder's one call (the guide's Derived/Test/ToyasCard.lean, 'card_holds'). Laid BY PROGRAM, IN A SANDBOX (cutbox-door.mjs). By AI agents, Wed Nov 11 2026. No macro, syntax, notation, axiom, sorry.
-/
import Derived.Test.YtdbcjiapbehacaaGreatDoorRows
import GoSem.ClaimSeven
namespace Go.Proofs.YtdbcjiapbehacaaGreatDoor
namespace Rows

/-- THE TIED CARD OF 'clepsydralaw05.VfsPlays'. -/
def vfsPlaysCard : Claim7 := { stood := { row := vfsPlaysRow, standIns := [], harness := (true, "5049342999e4b4c5d2d4bab179db879a712e3b158308a46f5975220b4ff99fbb"), looks := true }, kinds := [], alts := [], laidByText := true, laidKinds := [.data, .pinned], laidTests := true, laidLooks := .later }
def VfsPlaysCardSaid : Prop := Claim7.holds Tryz.pinned (.plain (OpenSpec.ofChange vfsPlaysSpec)) vfsPlaysCard

/-- THE TIED CARD OF 'clepsydralaw05.VfsKeeps'. -/
def vfsKeepsCard : Claim7 := { stood := { row := vfsKeepsRow, standIns := [], harness := (true, "5049342999e4b4c5d2d4bab179db879a712e3b158308a46f5975220b4ff99fbb"), looks := true }, kinds := [], alts := [], laidByText := true, laidKinds := [.data, .pinned], laidTests := true, laidLooks := .later }
def VfsKeepsCardSaid : Prop := Claim7.holds Tryz.pinned (.plain (OpenSpec.ofChange vfsKeepsSpec)) vfsKeepsCard

/-- THE TIED CARD OF 'clepsydralaw05.VfsRename'. -/
def vfsRenameCard : Claim7 := { stood := { row := vfsRenameRow, standIns := [], harness := (true, "5049342999e4b4c5d2d4bab179db879a712e3b158308a46f5975220b4ff99fbb"), looks := true }, kinds := [], alts := [], laidByText := true, laidKinds := [.data, .pinned], laidTests := true, laidLooks := .later }
def VfsRenameCardSaid : Prop := Claim7.holds Tryz.pinned (.plain (OpenSpec.ofChange vfsRenameSpec)) vfsRenameCard

/-- THE TIED CARD OF 'clepsydralaw05.VfsSpace'. -/
def vfsSpaceCard : Claim7 := { stood := { row := vfsSpaceRow, standIns := [], harness := (true, "5049342999e4b4c5d2d4bab179db879a712e3b158308a46f5975220b4ff99fbb"), looks := true }, kinds := [], alts := [], laidByText := true, laidKinds := [.data, .pinned], laidTests := true, laidLooks := .later }
def VfsSpaceCardSaid : Prop := Claim7.holds Tryz.pinned (.plain (OpenSpec.ofChange vfsSpaceSpec)) vfsSpaceCard

/-- THE TIED CARD OF 'clepsydralaw05.VfsKnown'. -/
def vfsKnownCard : Claim7 := { stood := { row := vfsKnownRow, standIns := [], harness := (true, "5049342999e4b4c5d2d4bab179db879a712e3b158308a46f5975220b4ff99fbb"), looks := true }, kinds := [], alts := [], laidByText := true, laidKinds := [.data, .pinned], laidTests := true, laidLooks := .later }
def VfsKnownCardSaid : Prop := Claim7.holds Tryz.pinned (.plain (OpenSpec.ofChange vfsKnownSpec)) vfsKnownCard

/-- THE TIED CARD OF 'clepsydralaw05.VfsDown'. -/
def vfsDownCard : Claim7 := { stood := { row := vfsDownRow, standIns := [], harness := (true, "5049342999e4b4c5d2d4bab179db879a712e3b158308a46f5975220b4ff99fbb"), looks := true }, kinds := [], alts := [], laidByText := true, laidKinds := [.data, .pinned], laidTests := true, laidLooks := .later }
def VfsDownCardSaid : Prop := Claim7.holds Tryz.pinned (.plain (OpenSpec.ofChange vfsDownSpec)) vfsDownCard

/-- THE TIED CARD OF 'clepsydralaw05.VfsSynced'. -/
def vfsSyncedCard : Claim7 := { stood := { row := vfsSyncedRow, standIns := [], harness := (true, "5049342999e4b4c5d2d4bab179db879a712e3b158308a46f5975220b4ff99fbb"), looks := true }, kinds := [], alts := [], laidByText := true, laidKinds := [.data, .pinned], laidTests := true, laidLooks := .later }
def VfsSyncedCardSaid : Prop := Claim7.holds Tryz.pinned (.plain (OpenSpec.ofChange vfsSyncedSpec)) vfsSyncedCard

/-- THE SECOND FORM's CARD OF 'clepsydralaw05.VfsPlays'. -/
def vfsPlaysUptoCard : Claim7 := { stood := { row := vfsPlaysUptoRow, standIns := [], harness := (true, "5049342999e4b4c5d2d4bab179db879a712e3b158308a46f5975220b4ff99fbb"), looks := true }, kinds := [], alts := [], laidByText := true, laidKinds := [.data, .pinned], laidTests := true, laidLooks := .later }
def VfsPlaysUptoCardSaid : Prop := Claim7.holds Tryz.pinned (.plain (OpenSpec.upto vfsPlaysSpec)) vfsPlaysUptoCard

/-- THE SECOND FORM's CARD OF 'clepsydralaw05.VfsKeeps'. -/
def vfsKeepsUptoCard : Claim7 := { stood := { row := vfsKeepsUptoRow, standIns := [], harness := (true, "5049342999e4b4c5d2d4bab179db879a712e3b158308a46f5975220b4ff99fbb"), looks := true }, kinds := [], alts := [], laidByText := true, laidKinds := [.data, .pinned], laidTests := true, laidLooks := .later }
def VfsKeepsUptoCardSaid : Prop := Claim7.holds Tryz.pinned (.plain (OpenSpec.upto vfsKeepsSpec)) vfsKeepsUptoCard

/-- THE SECOND FORM's CARD OF 'clepsydralaw05.VfsRename'. -/
def vfsRenameUptoCard : Claim7 := { stood := { row := vfsRenameUptoRow, standIns := [], harness := (true, "5049342999e4b4c5d2d4bab179db879a712e3b158308a46f5975220b4ff99fbb"), looks := true }, kinds := [], alts := [], laidByText := true, laidKinds := [.data, .pinned], laidTests := true, laidLooks := .later }
def VfsRenameUptoCardSaid : Prop := Claim7.holds Tryz.pinned (.plain (OpenSpec.upto vfsRenameSpec)) vfsRenameUptoCard

/-- THE SECOND FORM's CARD OF 'clepsydralaw05.VfsSpace'. -/
def vfsSpaceUptoCard : Claim7 := { stood := { row := vfsSpaceUptoRow, standIns := [], harness := (true, "5049342999e4b4c5d2d4bab179db879a712e3b158308a46f5975220b4ff99fbb"), looks := true }, kinds := [], alts := [], laidByText := true, laidKinds := [.data, .pinned], laidTests := true, laidLooks := .later }
def VfsSpaceUptoCardSaid : Prop := Claim7.holds Tryz.pinned (.plain (OpenSpec.upto vfsSpaceSpec)) vfsSpaceUptoCard

/-- THE SECOND FORM's CARD OF 'clepsydralaw05.VfsKnown'. -/
def vfsKnownUptoCard : Claim7 := { stood := { row := vfsKnownUptoRow, standIns := [], harness := (true, "5049342999e4b4c5d2d4bab179db879a712e3b158308a46f5975220b4ff99fbb"), looks := true }, kinds := [], alts := [], laidByText := true, laidKinds := [.data, .pinned], laidTests := true, laidLooks := .later }
def VfsKnownUptoCardSaid : Prop := Claim7.holds Tryz.pinned (.plain (OpenSpec.upto vfsKnownSpec)) vfsKnownUptoCard

/-- THE SECOND FORM's CARD OF 'clepsydralaw05.VfsDown'. -/
def vfsDownUptoCard : Claim7 := { stood := { row := vfsDownUptoRow, standIns := [], harness := (true, "5049342999e4b4c5d2d4bab179db879a712e3b158308a46f5975220b4ff99fbb"), looks := true }, kinds := [], alts := [], laidByText := true, laidKinds := [.data, .pinned], laidTests := true, laidLooks := .later }
def VfsDownUptoCardSaid : Prop := Claim7.holds Tryz.pinned (.plain (OpenSpec.upto vfsDownSpec)) vfsDownUptoCard

/-- THE SECOND FORM's CARD OF 'clepsydralaw05.VfsSynced'. -/
def vfsSyncedUptoCard : Claim7 := { stood := { row := vfsSyncedUptoRow, standIns := [], harness := (true, "5049342999e4b4c5d2d4bab179db879a712e3b158308a46f5975220b4ff99fbb"), looks := true }, kinds := [], alts := [], laidByText := true, laidKinds := [.data, .pinned], laidTests := true, laidLooks := .later }
def VfsSyncedUptoCardSaid : Prop := Claim7.holds Tryz.pinned (.plain (OpenSpec.upto vfsSyncedSpec)) vfsSyncedUptoCard
end Rows
end Go.Proofs.YtdbcjiapbehacaaGreatDoor
