/-
  NARROWER THAN 'FOR EVERY INPUT', by the rows' own cells (each row's printed sentence says how): VfsPlays: laid · VfsKeeps: laid · VfsRename: laid · VfsSpace: laid · VfsKnown: laid · VfsDown: laid · VfsSynced: laid.
  DERIVED. THE GIVEN ROWS OF THIS SEAT. 7 by the template 'for every input the law returns true; each argument reads behind the call as it read before'; 0 by the template 'total and deterministic' (their statements: YtdbcjiapbehacaaGreatDoorTotals.lean).
  GIVEN WITH THE SEED: the statements are not yours to turn. If you find one false, say at which input.
  Laid BY PROGRAM, IN A SANDBOX (cutbox-rows.mjs): the forced cells as the released guide's own fill.sh prints them over the translation 1eecb159c59a43d2… (all of the seat's roots in one cut). By AI agents, Wed Nov 11 2026. No macro, syntax, notation, axiom, sorry.
-/
import Derived.Test.YtdbcjiapbehacaaGreatDoorChecked
import GoSem.PinnedTables
import GoSem.Claim
import GoSem.ClaimJoined
import GoSem.ClaimMapViews
import Derived.JoinedTies
import Derived.KernelRfl
namespace Go.Proofs.YtdbcjiapbehacaaGreatDoor
/- THE CELL 'sum', in the pinned program and in every row, IS THE sha256 OF THE DUMP (.gsa) THAT YtdbcjiapbehacaaGreatDoorProg.lean LOADS. Nothing in Lean hashes anything: it is a label: what it is worth is what the hold of that sum in a sandbox is worth. -/
noncomputable def Tryz.pinned : Pinned := { name := "ytdbcjiapbehacaagreatdoor", sum := "1eecb159c59a43d286de8205900aab7ae9ddea6e85240e7dc3c9379a93aa7a6d", checked := Tryz.checked }
namespace Rows
def none {H : Type} : Left H := { results := [], args := [] }

/- WHAT THE LISTED PACKAGE-LEVEL VARIABLES READ AS WHEN THE CALL BEGINS. Each datum BY PROGRAM (the guide's laid-datum.mjs) off the statement by which the dump's own 'gosem.cut.vars' lays the variable. In a bare row this is a premise. The card (YtdbcjiapbehacaaGreatDoorCards.lean) ties it to the program's text. -/
def laid_unicode_utf8_acceptRanges {H : Type} : DataW H := .agg [.agg [.lit (.int .u8 128), .lit (.int .u8 191)], .agg [.lit (.int .u8 160), .lit (.int .u8 191)], .agg [.lit (.int .u8 128), .lit (.int .u8 159)], .agg [.lit (.int .u8 144), .lit (.int .u8 191)], .agg [.lit (.int .u8 128), .lit (.int .u8 143)], .agg [.lit (.int .u8 0), .lit (.int .u8 0)], .agg [.lit (.int .u8 0), .lit (.int .u8 0)], .agg [.lit (.int .u8 0), .lit (.int .u8 0)], .agg [.lit (.int .u8 0), .lit (.int .u8 0)], .agg [.lit (.int .u8 0), .lit (.int .u8 0)], .agg [.lit (.int .u8 0), .lit (.int .u8 0)], .agg [.lit (.int .u8 0), .lit (.int .u8 0)], .agg [.lit (.int .u8 0), .lit (.int .u8 0)], .agg [.lit (.int .u8 0), .lit (.int .u8 0)], .agg [.lit (.int .u8 0), .lit (.int .u8 0)], .agg [.lit (.int .u8 0), .lit (.int .u8 0)]]
/-- One of Go's own tables, pinned by name: the form's constant. -/
def laid_unicode_utf8_first : DataW Unit := Go.Pinned.utf8First

/-- 'clepsydralaw05.VfsPlays': WHATEVER THE INPUT: true; the input reads as it did. -/
def vfsPlaysSpec : ChangeSpec := { name := "vfsPlays", fn := fun _ => fun
  | [d1, d2] => { results := [.lit (.bool true)], args := [d1, d2] }
  | _ => none }
def vfsPlaysRow : OpenClaim := { program := "ytdbcjiapbehacaagreatdoor", sum := "1eecb159c59a43d286de8205900aab7ae9ddea6e85240e7dc3c9379a93aa7a6d", func := "clepsydra/clepsydralaw05.VfsPlays", spec := "vfsPlays", inPlace := ["internal/bytealg.IndexByteString", "internal/bytealg.IndexString", "maps.clone", "internal/bytealg.abigen_runtime_cmpstring"], unfollowed := true, recurses := true, named := ["unicode/utf8.first", "unicode/utf8.acceptRanges", "internal/bytealg.MaxLen"], plainKeys := false, apart := false, laid := [("unicode/utf8.acceptRanges", laid_unicode_utf8_acceptRanges), ("unicode/utf8.first", laid_unicode_utf8_first)] }
def VfsPlaysSaid : Prop := vfsPlaysRow.holds Tryz.pinned (OpenSpec.ofChange vfsPlaysSpec)

/-- ITS FALSE NEIGHBOUR: 'it returns false'. Refute it at one input. -/
def vfsPlaysWrong : ChangeSpec := { name := "vfsPlays", fn := fun _ => fun
  | [d1, d2] => { results := [.lit (.bool false)], args := [d1, d2] }
  | _ => none }
def VfsPlaysWrongFalsely : Prop := vfsPlaysRow.holds Tryz.pinned (OpenSpec.ofChange vfsPlaysWrong)

/-- 'clepsydralaw05.VfsKeeps': WHATEVER THE INPUT: true; the input reads as it did. -/
def vfsKeepsSpec : ChangeSpec := { name := "vfsKeeps", fn := fun _ => fun
  | [d1, d2, d3, d4] => { results := [.lit (.bool true)], args := [d1, d2, d3, d4] }
  | _ => none }
def vfsKeepsRow : OpenClaim := { program := "ytdbcjiapbehacaagreatdoor", sum := "1eecb159c59a43d286de8205900aab7ae9ddea6e85240e7dc3c9379a93aa7a6d", func := "clepsydra/clepsydralaw05.VfsKeeps", spec := "vfsKeeps", inPlace := ["internal/bytealg.IndexByteString", "internal/bytealg.IndexString", "maps.clone", "internal/bytealg.abigen_runtime_cmpstring"], unfollowed := true, recurses := true, named := ["unicode/utf8.first", "unicode/utf8.acceptRanges", "internal/bytealg.MaxLen"], plainKeys := false, apart := false, laid := [("unicode/utf8.acceptRanges", laid_unicode_utf8_acceptRanges), ("unicode/utf8.first", laid_unicode_utf8_first)] }
def VfsKeepsSaid : Prop := vfsKeepsRow.holds Tryz.pinned (OpenSpec.ofChange vfsKeepsSpec)

/-- ITS FALSE NEIGHBOUR: 'it returns false'. Refute it at one input. -/
def vfsKeepsWrong : ChangeSpec := { name := "vfsKeeps", fn := fun _ => fun
  | [d1, d2, d3, d4] => { results := [.lit (.bool false)], args := [d1, d2, d3, d4] }
  | _ => none }
def VfsKeepsWrongFalsely : Prop := vfsKeepsRow.holds Tryz.pinned (OpenSpec.ofChange vfsKeepsWrong)

/-- 'clepsydralaw05.VfsRename': WHATEVER THE INPUT: true; the input reads as it did. -/
def vfsRenameSpec : ChangeSpec := { name := "vfsRename", fn := fun _ => fun
  | [d1, d2, d3, d4, d5] => { results := [.lit (.bool true)], args := [d1, d2, d3, d4, d5] }
  | _ => none }
def vfsRenameRow : OpenClaim := { program := "ytdbcjiapbehacaagreatdoor", sum := "1eecb159c59a43d286de8205900aab7ae9ddea6e85240e7dc3c9379a93aa7a6d", func := "clepsydra/clepsydralaw05.VfsRename", spec := "vfsRename", inPlace := ["internal/bytealg.IndexByteString", "internal/bytealg.IndexString", "maps.clone", "internal/bytealg.abigen_runtime_cmpstring"], unfollowed := true, recurses := true, named := ["unicode/utf8.first", "unicode/utf8.acceptRanges", "internal/bytealg.MaxLen"], plainKeys := false, apart := false, laid := [("unicode/utf8.acceptRanges", laid_unicode_utf8_acceptRanges), ("unicode/utf8.first", laid_unicode_utf8_first)] }
def VfsRenameSaid : Prop := vfsRenameRow.holds Tryz.pinned (OpenSpec.ofChange vfsRenameSpec)

/-- ITS FALSE NEIGHBOUR: 'it returns false'. Refute it at one input. -/
def vfsRenameWrong : ChangeSpec := { name := "vfsRename", fn := fun _ => fun
  | [d1, d2, d3, d4, d5] => { results := [.lit (.bool false)], args := [d1, d2, d3, d4, d5] }
  | _ => none }
def VfsRenameWrongFalsely : Prop := vfsRenameRow.holds Tryz.pinned (OpenSpec.ofChange vfsRenameWrong)

/-- 'clepsydralaw05.VfsSpace': WHATEVER THE INPUT: true; the input reads as it did. -/
def vfsSpaceSpec : ChangeSpec := { name := "vfsSpace", fn := fun _ => fun
  | [d1, d2] => { results := [.lit (.bool true)], args := [d1, d2] }
  | _ => none }
def vfsSpaceRow : OpenClaim := { program := "ytdbcjiapbehacaagreatdoor", sum := "1eecb159c59a43d286de8205900aab7ae9ddea6e85240e7dc3c9379a93aa7a6d", func := "clepsydra/clepsydralaw05.VfsSpace", spec := "vfsSpace", inPlace := ["internal/bytealg.IndexByteString", "internal/bytealg.IndexString", "maps.clone", "internal/bytealg.abigen_runtime_cmpstring"], unfollowed := true, recurses := true, named := ["unicode/utf8.first", "unicode/utf8.acceptRanges", "internal/bytealg.MaxLen"], plainKeys := false, apart := false, laid := [("unicode/utf8.acceptRanges", laid_unicode_utf8_acceptRanges), ("unicode/utf8.first", laid_unicode_utf8_first)] }
def VfsSpaceSaid : Prop := vfsSpaceRow.holds Tryz.pinned (OpenSpec.ofChange vfsSpaceSpec)

/-- ITS FALSE NEIGHBOUR: 'it returns false'. Refute it at one input. -/
def vfsSpaceWrong : ChangeSpec := { name := "vfsSpace", fn := fun _ => fun
  | [d1, d2] => { results := [.lit (.bool false)], args := [d1, d2] }
  | _ => none }
def VfsSpaceWrongFalsely : Prop := vfsSpaceRow.holds Tryz.pinned (OpenSpec.ofChange vfsSpaceWrong)

/-- 'clepsydralaw05.VfsKnown': WHATEVER THE INPUT: true; the input reads as it did. -/
def vfsKnownSpec : ChangeSpec := { name := "vfsKnown", fn := fun _ => fun
  | [] => { results := [.lit (.bool true)], args := [] }
  | _ => none }
def vfsKnownRow : OpenClaim := { program := "ytdbcjiapbehacaagreatdoor", sum := "1eecb159c59a43d286de8205900aab7ae9ddea6e85240e7dc3c9379a93aa7a6d", func := "clepsydra/clepsydralaw05.VfsKnown", spec := "vfsKnown", inPlace := ["internal/bytealg.IndexByteString", "internal/bytealg.IndexString", "maps.clone", "internal/bytealg.abigen_runtime_cmpstring"], unfollowed := true, recurses := true, named := ["unicode/utf8.first", "unicode/utf8.acceptRanges", "internal/bytealg.MaxLen"], plainKeys := false, apart := false, laid := [("unicode/utf8.acceptRanges", laid_unicode_utf8_acceptRanges), ("unicode/utf8.first", laid_unicode_utf8_first)] }
def VfsKnownSaid : Prop := vfsKnownRow.holds Tryz.pinned (OpenSpec.ofChange vfsKnownSpec)

/-- ITS FALSE NEIGHBOUR: 'it returns false'. Refute it at one input. -/
def vfsKnownWrong : ChangeSpec := { name := "vfsKnown", fn := fun _ => fun
  | [] => { results := [.lit (.bool false)], args := [] }
  | _ => none }
def VfsKnownWrongFalsely : Prop := vfsKnownRow.holds Tryz.pinned (OpenSpec.ofChange vfsKnownWrong)

/-- 'clepsydralaw05.VfsDown': WHATEVER THE INPUT: true; the input reads as it did. -/
def vfsDownSpec : ChangeSpec := { name := "vfsDown", fn := fun _ => fun
  | [d1, d2, d3] => { results := [.lit (.bool true)], args := [d1, d2, d3] }
  | _ => none }
def vfsDownRow : OpenClaim := { program := "ytdbcjiapbehacaagreatdoor", sum := "1eecb159c59a43d286de8205900aab7ae9ddea6e85240e7dc3c9379a93aa7a6d", func := "clepsydra/clepsydralaw05.VfsDown", spec := "vfsDown", inPlace := ["internal/bytealg.IndexByteString", "internal/bytealg.IndexString", "maps.clone", "internal/bytealg.abigen_runtime_cmpstring"], unfollowed := true, recurses := true, named := ["unicode/utf8.first", "unicode/utf8.acceptRanges", "internal/bytealg.MaxLen"], plainKeys := false, apart := false, laid := [("unicode/utf8.acceptRanges", laid_unicode_utf8_acceptRanges), ("unicode/utf8.first", laid_unicode_utf8_first)] }
def VfsDownSaid : Prop := vfsDownRow.holds Tryz.pinned (OpenSpec.ofChange vfsDownSpec)

/-- ITS FALSE NEIGHBOUR: 'it returns false'. Refute it at one input. -/
def vfsDownWrong : ChangeSpec := { name := "vfsDown", fn := fun _ => fun
  | [d1, d2, d3] => { results := [.lit (.bool false)], args := [d1, d2, d3] }
  | _ => none }
def VfsDownWrongFalsely : Prop := vfsDownRow.holds Tryz.pinned (OpenSpec.ofChange vfsDownWrong)

/-- 'clepsydralaw05.VfsSynced': WHATEVER THE INPUT: true; the input reads as it did. -/
def vfsSyncedSpec : ChangeSpec := { name := "vfsSynced", fn := fun _ => fun
  | [d1, d2] => { results := [.lit (.bool true)], args := [d1, d2] }
  | _ => none }
def vfsSyncedRow : OpenClaim := { program := "ytdbcjiapbehacaagreatdoor", sum := "1eecb159c59a43d286de8205900aab7ae9ddea6e85240e7dc3c9379a93aa7a6d", func := "clepsydra/clepsydralaw05.VfsSynced", spec := "vfsSynced", inPlace := ["internal/bytealg.IndexByteString", "internal/bytealg.IndexString", "maps.clone", "internal/bytealg.abigen_runtime_cmpstring"], unfollowed := true, recurses := true, named := ["unicode/utf8.first", "unicode/utf8.acceptRanges", "internal/bytealg.MaxLen"], plainKeys := false, apart := false, laid := [("unicode/utf8.acceptRanges", laid_unicode_utf8_acceptRanges), ("unicode/utf8.first", laid_unicode_utf8_first)] }
def VfsSyncedSaid : Prop := vfsSyncedRow.holds Tryz.pinned (OpenSpec.ofChange vfsSyncedSpec)

/-- ITS FALSE NEIGHBOUR: 'it returns false'. Refute it at one input. -/
def vfsSyncedWrong : ChangeSpec := { name := "vfsSynced", fn := fun _ => fun
  | [d1, d2] => { results := [.lit (.bool false)], args := [d1, d2] }
  | _ => none }
def VfsSyncedWrongFalsely : Prop := vfsSyncedRow.holds Tryz.pinned (OpenSpec.ofChange vfsSyncedWrong)

/- THE SECOND FORM. 'bulk': how many values and letters a reading holds, each counted each time it is reached (what is shared counts as often as it is met; a slice's spare places count too). A statement '..UptoSaid' is the law's where the arguments, and the package variables that the reading takes, are together of bulk at most 1048576: NARROWER than '..Said'. Prove '..Said' where nothing that the law and all that it calls make is longer than what came in: it says more and counts as full. Else prove '..UptoSaid'. A law counts once. -/
mutual
def uptoBulk {H : Type} : DataW H → Nat
  | .lit (.string bytes) => bytes.length + 1
  | .lit _ => 1
  | .nil => 1
  | .ptr d => uptoBulk d + 1
  | .slice elems spare => uptoBulkAll elems + uptoBulkAll spare + 1
  | .agg parts => uptoBulkAll parts + 1
  | .iface _ d => uptoBulk d + 1
  | .map entries => uptoBulkEntries entries + 1
  | .held _ => 1
def uptoBulkAll {H : Type} : List (DataW H) → Nat
  | [] => 0
  | d :: r => uptoBulk d + uptoBulkAll r
def uptoBulkEntries {H : Type} : List (Lit × DataW H) → Nat
  | [] => 0
  | x :: r => uptoBulkEntry x + uptoBulkEntries r
def uptoBulkEntry {H : Type} : Lit × DataW H → Nat
  | (.string bytes, d) => bytes.length + uptoBulk d + 1
  | (_, d) => uptoBulk d + 1
 end
def uptoSmall : (H : Type) → List (DataW H) → Bool := fun _ ds => decide (uptoBulkAll ds ≤ 1048576)
def OpenSpec.upto (s : _root_.Go.ChangeSpec) : _root_.Go.OpenSpec := { _root_.Go.OpenSpec.ofChange s with cond := some uptoSmall }

/-- 'clepsydralaw05.VfsPlays', WHERE WHAT IT READS IS OF BULK AT MOST 1048576: true; the input reads as it did. -/
def vfsPlaysUptoRow : OpenClaim := { program := "ytdbcjiapbehacaagreatdoor", sum := "1eecb159c59a43d286de8205900aab7ae9ddea6e85240e7dc3c9379a93aa7a6d", func := "clepsydra/clepsydralaw05.VfsPlays", spec := "vfsPlays", inPlace := ["internal/bytealg.IndexByteString", "internal/bytealg.IndexString", "maps.clone", "internal/bytealg.abigen_runtime_cmpstring"], unfollowed := true, recurses := true, named := ["unicode/utf8.first", "unicode/utf8.acceptRanges", "internal/bytealg.MaxLen"], plainKeys := false, apart := false, laid := [("unicode/utf8.acceptRanges", laid_unicode_utf8_acceptRanges), ("unicode/utf8.first", laid_unicode_utf8_first)], narrowed := true }
def VfsPlaysUptoSaid : Prop := vfsPlaysUptoRow.holds Tryz.pinned (OpenSpec.upto vfsPlaysSpec)

/-- 'clepsydralaw05.VfsKeeps', WHERE WHAT IT READS IS OF BULK AT MOST 1048576: true; the input reads as it did. -/
def vfsKeepsUptoRow : OpenClaim := { program := "ytdbcjiapbehacaagreatdoor", sum := "1eecb159c59a43d286de8205900aab7ae9ddea6e85240e7dc3c9379a93aa7a6d", func := "clepsydra/clepsydralaw05.VfsKeeps", spec := "vfsKeeps", inPlace := ["internal/bytealg.IndexByteString", "internal/bytealg.IndexString", "maps.clone", "internal/bytealg.abigen_runtime_cmpstring"], unfollowed := true, recurses := true, named := ["unicode/utf8.first", "unicode/utf8.acceptRanges", "internal/bytealg.MaxLen"], plainKeys := false, apart := false, laid := [("unicode/utf8.acceptRanges", laid_unicode_utf8_acceptRanges), ("unicode/utf8.first", laid_unicode_utf8_first)], narrowed := true }
def VfsKeepsUptoSaid : Prop := vfsKeepsUptoRow.holds Tryz.pinned (OpenSpec.upto vfsKeepsSpec)

/-- 'clepsydralaw05.VfsRename', WHERE WHAT IT READS IS OF BULK AT MOST 1048576: true; the input reads as it did. -/
def vfsRenameUptoRow : OpenClaim := { program := "ytdbcjiapbehacaagreatdoor", sum := "1eecb159c59a43d286de8205900aab7ae9ddea6e85240e7dc3c9379a93aa7a6d", func := "clepsydra/clepsydralaw05.VfsRename", spec := "vfsRename", inPlace := ["internal/bytealg.IndexByteString", "internal/bytealg.IndexString", "maps.clone", "internal/bytealg.abigen_runtime_cmpstring"], unfollowed := true, recurses := true, named := ["unicode/utf8.first", "unicode/utf8.acceptRanges", "internal/bytealg.MaxLen"], plainKeys := false, apart := false, laid := [("unicode/utf8.acceptRanges", laid_unicode_utf8_acceptRanges), ("unicode/utf8.first", laid_unicode_utf8_first)], narrowed := true }
def VfsRenameUptoSaid : Prop := vfsRenameUptoRow.holds Tryz.pinned (OpenSpec.upto vfsRenameSpec)

/-- 'clepsydralaw05.VfsSpace', WHERE WHAT IT READS IS OF BULK AT MOST 1048576: true; the input reads as it did. -/
def vfsSpaceUptoRow : OpenClaim := { program := "ytdbcjiapbehacaagreatdoor", sum := "1eecb159c59a43d286de8205900aab7ae9ddea6e85240e7dc3c9379a93aa7a6d", func := "clepsydra/clepsydralaw05.VfsSpace", spec := "vfsSpace", inPlace := ["internal/bytealg.IndexByteString", "internal/bytealg.IndexString", "maps.clone", "internal/bytealg.abigen_runtime_cmpstring"], unfollowed := true, recurses := true, named := ["unicode/utf8.first", "unicode/utf8.acceptRanges", "internal/bytealg.MaxLen"], plainKeys := false, apart := false, laid := [("unicode/utf8.acceptRanges", laid_unicode_utf8_acceptRanges), ("unicode/utf8.first", laid_unicode_utf8_first)], narrowed := true }
def VfsSpaceUptoSaid : Prop := vfsSpaceUptoRow.holds Tryz.pinned (OpenSpec.upto vfsSpaceSpec)

/-- 'clepsydralaw05.VfsKnown', WHERE WHAT IT READS IS OF BULK AT MOST 1048576: true; the input reads as it did. -/
def vfsKnownUptoRow : OpenClaim := { program := "ytdbcjiapbehacaagreatdoor", sum := "1eecb159c59a43d286de8205900aab7ae9ddea6e85240e7dc3c9379a93aa7a6d", func := "clepsydra/clepsydralaw05.VfsKnown", spec := "vfsKnown", inPlace := ["internal/bytealg.IndexByteString", "internal/bytealg.IndexString", "maps.clone", "internal/bytealg.abigen_runtime_cmpstring"], unfollowed := true, recurses := true, named := ["unicode/utf8.first", "unicode/utf8.acceptRanges", "internal/bytealg.MaxLen"], plainKeys := false, apart := false, laid := [("unicode/utf8.acceptRanges", laid_unicode_utf8_acceptRanges), ("unicode/utf8.first", laid_unicode_utf8_first)], narrowed := true }
def VfsKnownUptoSaid : Prop := vfsKnownUptoRow.holds Tryz.pinned (OpenSpec.upto vfsKnownSpec)

/-- 'clepsydralaw05.VfsDown', WHERE WHAT IT READS IS OF BULK AT MOST 1048576: true; the input reads as it did. -/
def vfsDownUptoRow : OpenClaim := { program := "ytdbcjiapbehacaagreatdoor", sum := "1eecb159c59a43d286de8205900aab7ae9ddea6e85240e7dc3c9379a93aa7a6d", func := "clepsydra/clepsydralaw05.VfsDown", spec := "vfsDown", inPlace := ["internal/bytealg.IndexByteString", "internal/bytealg.IndexString", "maps.clone", "internal/bytealg.abigen_runtime_cmpstring"], unfollowed := true, recurses := true, named := ["unicode/utf8.first", "unicode/utf8.acceptRanges", "internal/bytealg.MaxLen"], plainKeys := false, apart := false, laid := [("unicode/utf8.acceptRanges", laid_unicode_utf8_acceptRanges), ("unicode/utf8.first", laid_unicode_utf8_first)], narrowed := true }
def VfsDownUptoSaid : Prop := vfsDownUptoRow.holds Tryz.pinned (OpenSpec.upto vfsDownSpec)

/-- 'clepsydralaw05.VfsSynced', WHERE WHAT IT READS IS OF BULK AT MOST 1048576: true; the input reads as it did. -/
def vfsSyncedUptoRow : OpenClaim := { program := "ytdbcjiapbehacaagreatdoor", sum := "1eecb159c59a43d286de8205900aab7ae9ddea6e85240e7dc3c9379a93aa7a6d", func := "clepsydra/clepsydralaw05.VfsSynced", spec := "vfsSynced", inPlace := ["internal/bytealg.IndexByteString", "internal/bytealg.IndexString", "maps.clone", "internal/bytealg.abigen_runtime_cmpstring"], unfollowed := true, recurses := true, named := ["unicode/utf8.first", "unicode/utf8.acceptRanges", "internal/bytealg.MaxLen"], plainKeys := false, apart := false, laid := [("unicode/utf8.acceptRanges", laid_unicode_utf8_acceptRanges), ("unicode/utf8.first", laid_unicode_utf8_first)], narrowed := true }
def VfsSyncedUptoSaid : Prop := vfsSyncedUptoRow.holds Tryz.pinned (OpenSpec.upto vfsSyncedSpec)

end Rows
end Go.Proofs.YtdbcjiapbehacaaGreatDoor
