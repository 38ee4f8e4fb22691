/-
  NARROWER THAN 'FOR EVERY INPUT', by the rows' own cells (each row's printed sentence says how): SipSums: laid · SipPieces: laid · SipKeys: laid · SipDigits: laid · SipKnown: laid.
  DERIVED. THE GIVEN ROWS OF THIS SEAT. 5 by the template 'for every input the law returns true; each argument reads behind the call as it read before'; 0 by the template 'total and deterministic' (their statements: YtgdpgpmkokjdjaaDoorTotals.lean).
  GIVEN WITH THE SEED: the statements are not yours to turn. If you find one false, say at which input.
  Laid BY PROGRAM, IN A SANDBOX (cutbox-rows.mjs): the forced cells as the released guide's own fill.sh prints them over the translation f4ee05361553d549… (all of the seat's roots in one cut). By AI agents, Wed Nov 11 2026. No macro, syntax, notation, axiom, sorry.
-/
import Derived.Test.YtgdpgpmkokjdjaaDoorChecked
import GoSem.PinnedTables
import GoSem.Claim
import GoSem.ClaimJoined
import GoSem.ClaimMapViews
import Derived.JoinedTies
import Derived.KernelRfl
namespace Go.Proofs.YtgdpgpmkokjdjaaDoor
/- THE CELL 'sum', in the pinned program and in every row, IS THE sha256 OF THE DUMP (.gsa) THAT YtgdpgpmkokjdjaaDoorProg.lean LOADS. Nothing in Lean hashes anything: it is a label: what it is worth is what the hold of that sum in a sandbox is worth. -/
noncomputable def Tryd.pinned : Pinned := { name := "ytgdpgpmkokjdjaadoor", sum := "f4ee05361553d5499127a70f98dc075e556561d04ae87d61a297f1c49ed67f73", checked := Tryd.checked }
namespace Rows
def none {H : Type} : Left H := { results := [], args := [] }

/- WHAT THE LISTED PACKAGE-LEVEL VARIABLES READ AS WHEN THE CALL BEGINS. Each datum BY PROGRAM (the guide's laid-datum.mjs) off the statement by which the dump's own 'gosem.cut.vars' lays the variable. In a bare row this is a premise. The card (YtgdpgpmkokjdjaaDoorCards.lean) ties it to the program's text. -/
def laid_unicode_utf8_acceptRanges {H : Type} : DataW H := .agg [.agg [.lit (.int .u8 128), .lit (.int .u8 191)], .agg [.lit (.int .u8 160), .lit (.int .u8 191)], .agg [.lit (.int .u8 128), .lit (.int .u8 159)], .agg [.lit (.int .u8 144), .lit (.int .u8 191)], .agg [.lit (.int .u8 128), .lit (.int .u8 143)], .agg [.lit (.int .u8 0), .lit (.int .u8 0)], .agg [.lit (.int .u8 0), .lit (.int .u8 0)], .agg [.lit (.int .u8 0), .lit (.int .u8 0)], .agg [.lit (.int .u8 0), .lit (.int .u8 0)], .agg [.lit (.int .u8 0), .lit (.int .u8 0)], .agg [.lit (.int .u8 0), .lit (.int .u8 0)], .agg [.lit (.int .u8 0), .lit (.int .u8 0)], .agg [.lit (.int .u8 0), .lit (.int .u8 0)], .agg [.lit (.int .u8 0), .lit (.int .u8 0)], .agg [.lit (.int .u8 0), .lit (.int .u8 0)], .agg [.lit (.int .u8 0), .lit (.int .u8 0)]]
/-- One of Go's own tables, pinned by name: the form's constant. -/
def laid_unicode_utf8_first : DataW Unit := Go.Pinned.utf8First

/-- 'clepsydralaw04.SipSums': WHATEVER THE INPUT: true; the input reads as it did. -/
def sipSumsSpec : ChangeSpec := { name := "sipSums", fn := fun _ => fun
  | [d1, d2] => { results := [.lit (.bool true)], args := [d1, d2] }
  | _ => none }
def sipSumsRow : OpenClaim := { program := "ytgdpgpmkokjdjaadoor", sum := "f4ee05361553d5499127a70f98dc075e556561d04ae87d61a297f1c49ed67f73", func := "clepsydra/clepsydralaw04.SipSums", spec := "sipSums", inPlace := ["internal/bytealg.IndexByteString", "internal/bytealg.IndexString"], named := ["unicode/utf8.first", "unicode/utf8.acceptRanges", "internal/bytealg.MaxLen"], apart := false, laid := [("unicode/utf8.acceptRanges", laid_unicode_utf8_acceptRanges), ("unicode/utf8.first", laid_unicode_utf8_first)] }
def SipSumsSaid : Prop := sipSumsRow.holds Tryd.pinned (OpenSpec.ofChange sipSumsSpec)

/-- ITS FALSE NEIGHBOUR: 'it returns false'. Refute it at one input. -/
def sipSumsWrong : ChangeSpec := { name := "sipSums", fn := fun _ => fun
  | [d1, d2] => { results := [.lit (.bool false)], args := [d1, d2] }
  | _ => none }
def SipSumsWrongFalsely : Prop := sipSumsRow.holds Tryd.pinned (OpenSpec.ofChange sipSumsWrong)

/-- 'clepsydralaw04.SipPieces': WHATEVER THE INPUT: true; the input reads as it did. -/
def sipPiecesSpec : ChangeSpec := { name := "sipPieces", fn := fun _ => fun
  | [d1, d2, d3] => { results := [.lit (.bool true)], args := [d1, d2, d3] }
  | _ => none }
def sipPiecesRow : OpenClaim := { program := "ytgdpgpmkokjdjaadoor", sum := "f4ee05361553d5499127a70f98dc075e556561d04ae87d61a297f1c49ed67f73", func := "clepsydra/clepsydralaw04.SipPieces", spec := "sipPieces", inPlace := ["internal/bytealg.IndexByteString", "internal/bytealg.IndexString"], named := ["unicode/utf8.first", "unicode/utf8.acceptRanges", "internal/bytealg.MaxLen"], apart := false, laid := [("unicode/utf8.acceptRanges", laid_unicode_utf8_acceptRanges), ("unicode/utf8.first", laid_unicode_utf8_first)] }
def SipPiecesSaid : Prop := sipPiecesRow.holds Tryd.pinned (OpenSpec.ofChange sipPiecesSpec)

/-- ITS FALSE NEIGHBOUR: 'it returns false'. Refute it at one input. -/
def sipPiecesWrong : ChangeSpec := { name := "sipPieces", fn := fun _ => fun
  | [d1, d2, d3] => { results := [.lit (.bool false)], args := [d1, d2, d3] }
  | _ => none }
def SipPiecesWrongFalsely : Prop := sipPiecesRow.holds Tryd.pinned (OpenSpec.ofChange sipPiecesWrong)

/-- 'clepsydralaw04.SipKeys': WHATEVER THE INPUT: true; the input reads as it did. -/
def sipKeysSpec : ChangeSpec := { name := "sipKeys", fn := fun _ => fun
  | [d] => { results := [.lit (.bool true)], args := [d] }
  | _ => none }
def sipKeysRow : OpenClaim := { program := "ytgdpgpmkokjdjaadoor", sum := "f4ee05361553d5499127a70f98dc075e556561d04ae87d61a297f1c49ed67f73", func := "clepsydra/clepsydralaw04.SipKeys", spec := "sipKeys", inPlace := ["internal/bytealg.IndexByteString", "internal/bytealg.IndexString"], named := ["unicode/utf8.first", "unicode/utf8.acceptRanges", "internal/bytealg.MaxLen"], apart := false, laid := [("unicode/utf8.acceptRanges", laid_unicode_utf8_acceptRanges), ("unicode/utf8.first", laid_unicode_utf8_first)] }
def SipKeysSaid : Prop := sipKeysRow.holds Tryd.pinned (OpenSpec.ofChange sipKeysSpec)

/-- ITS FALSE NEIGHBOUR: 'it returns false'. Refute it at one input. -/
def sipKeysWrong : ChangeSpec := { name := "sipKeys", fn := fun _ => fun
  | [d] => { results := [.lit (.bool false)], args := [d] }
  | _ => none }
def SipKeysWrongFalsely : Prop := sipKeysRow.holds Tryd.pinned (OpenSpec.ofChange sipKeysWrong)

/-- 'clepsydralaw04.SipDigits': WHATEVER THE INPUT: true; the input reads as it did. -/
def sipDigitsSpec : ChangeSpec := { name := "sipDigits", fn := fun _ => fun
  | [d1, d2, d3, d4] => { results := [.lit (.bool true)], args := [d1, d2, d3, d4] }
  | _ => none }
def sipDigitsRow : OpenClaim := { program := "ytgdpgpmkokjdjaadoor", sum := "f4ee05361553d5499127a70f98dc075e556561d04ae87d61a297f1c49ed67f73", func := "clepsydra/clepsydralaw04.SipDigits", spec := "sipDigits", inPlace := ["internal/bytealg.IndexByteString", "internal/bytealg.IndexString"], named := ["unicode/utf8.first", "unicode/utf8.acceptRanges", "internal/bytealg.MaxLen"], apart := false, laid := [("unicode/utf8.acceptRanges", laid_unicode_utf8_acceptRanges), ("unicode/utf8.first", laid_unicode_utf8_first)] }
def SipDigitsSaid : Prop := sipDigitsRow.holds Tryd.pinned (OpenSpec.ofChange sipDigitsSpec)

/-- ITS FALSE NEIGHBOUR: 'it returns false'. Refute it at one input. -/
def sipDigitsWrong : ChangeSpec := { name := "sipDigits", fn := fun _ => fun
  | [d1, d2, d3, d4] => { results := [.lit (.bool false)], args := [d1, d2, d3, d4] }
  | _ => none }
def SipDigitsWrongFalsely : Prop := sipDigitsRow.holds Tryd.pinned (OpenSpec.ofChange sipDigitsWrong)

/-- 'clepsydralaw04.SipKnown': WHATEVER THE INPUT: true; the input reads as it did. -/
def sipKnownSpec : ChangeSpec := { name := "sipKnown", fn := fun _ => fun
  | [] => { results := [.lit (.bool true)], args := [] }
  | _ => none }
def sipKnownRow : OpenClaim := { program := "ytgdpgpmkokjdjaadoor", sum := "f4ee05361553d5499127a70f98dc075e556561d04ae87d61a297f1c49ed67f73", func := "clepsydra/clepsydralaw04.SipKnown", spec := "sipKnown", inPlace := ["internal/bytealg.IndexByteString", "internal/bytealg.IndexString"], named := ["unicode/utf8.first", "unicode/utf8.acceptRanges", "internal/bytealg.MaxLen"], apart := false, laid := [("unicode/utf8.acceptRanges", laid_unicode_utf8_acceptRanges), ("unicode/utf8.first", laid_unicode_utf8_first)] }
def SipKnownSaid : Prop := sipKnownRow.holds Tryd.pinned (OpenSpec.ofChange sipKnownSpec)

/-- ITS FALSE NEIGHBOUR: 'it returns false'. Refute it at one input. -/
def sipKnownWrong : ChangeSpec := { name := "sipKnown", fn := fun _ => fun
  | [] => { results := [.lit (.bool false)], args := [] }
  | _ => none }
def SipKnownWrongFalsely : Prop := sipKnownRow.holds Tryd.pinned (OpenSpec.ofChange sipKnownWrong)

/- THE SECOND FORM. 'bulk': how many values and letters a reading holds, each counted each time it is reached (what is shared counts as often as it is met; a slice's spare places count too). A statement '..UptoSaid' is the law's where the arguments, and the package variables that the reading takes, are together of bulk at most 1048576: NARROWER than '..Said'. Prove '..Said' where nothing that the law and all that it calls make is longer than what came in: it says more and counts as full. Else prove '..UptoSaid'. A law counts once. -/
mutual
def uptoBulk {H : Type} : DataW H → Nat
  | .lit (.string bytes) => bytes.length + 1
  | .lit _ => 1
  | .nil => 1
  | .ptr d => uptoBulk d + 1
  | .slice elems spare => uptoBulkAll elems + uptoBulkAll spare + 1
  | .agg parts => uptoBulkAll parts + 1
  | .iface _ d => uptoBulk d + 1
  | .map entries => uptoBulkEntries entries + 1
  | .held _ => 1
def uptoBulkAll {H : Type} : List (DataW H) → Nat
  | [] => 0
  | d :: r => uptoBulk d + uptoBulkAll r
def uptoBulkEntries {H : Type} : List (Lit × DataW H) → Nat
  | [] => 0
  | x :: r => uptoBulkEntry x + uptoBulkEntries r
def uptoBulkEntry {H : Type} : Lit × DataW H → Nat
  | (.string bytes, d) => bytes.length + uptoBulk d + 1
  | (_, d) => uptoBulk d + 1
 end
def uptoSmall : (H : Type) → List (DataW H) → Bool := fun _ ds => decide (uptoBulkAll ds ≤ 1048576)
def OpenSpec.upto (s : _root_.Go.ChangeSpec) : _root_.Go.OpenSpec := { _root_.Go.OpenSpec.ofChange s with cond := some uptoSmall }

/-- 'clepsydralaw04.SipSums', WHERE WHAT IT READS IS OF BULK AT MOST 1048576: true; the input reads as it did. -/
def sipSumsUptoRow : OpenClaim := { program := "ytgdpgpmkokjdjaadoor", sum := "f4ee05361553d5499127a70f98dc075e556561d04ae87d61a297f1c49ed67f73", func := "clepsydra/clepsydralaw04.SipSums", spec := "sipSums", inPlace := ["internal/bytealg.IndexByteString", "internal/bytealg.IndexString"], named := ["unicode/utf8.first", "unicode/utf8.acceptRanges", "internal/bytealg.MaxLen"], apart := false, laid := [("unicode/utf8.acceptRanges", laid_unicode_utf8_acceptRanges), ("unicode/utf8.first", laid_unicode_utf8_first)], narrowed := true }
def SipSumsUptoSaid : Prop := sipSumsUptoRow.holds Tryd.pinned (OpenSpec.upto sipSumsSpec)

/-- 'clepsydralaw04.SipPieces', WHERE WHAT IT READS IS OF BULK AT MOST 1048576: true; the input reads as it did. -/
def sipPiecesUptoRow : OpenClaim := { program := "ytgdpgpmkokjdjaadoor", sum := "f4ee05361553d5499127a70f98dc075e556561d04ae87d61a297f1c49ed67f73", func := "clepsydra/clepsydralaw04.SipPieces", spec := "sipPieces", inPlace := ["internal/bytealg.IndexByteString", "internal/bytealg.IndexString"], named := ["unicode/utf8.first", "unicode/utf8.acceptRanges", "internal/bytealg.MaxLen"], apart := false, laid := [("unicode/utf8.acceptRanges", laid_unicode_utf8_acceptRanges), ("unicode/utf8.first", laid_unicode_utf8_first)], narrowed := true }
def SipPiecesUptoSaid : Prop := sipPiecesUptoRow.holds Tryd.pinned (OpenSpec.upto sipPiecesSpec)

/-- 'clepsydralaw04.SipKeys', WHERE WHAT IT READS IS OF BULK AT MOST 1048576: true; the input reads as it did. -/
def sipKeysUptoRow : OpenClaim := { program := "ytgdpgpmkokjdjaadoor", sum := "f4ee05361553d5499127a70f98dc075e556561d04ae87d61a297f1c49ed67f73", func := "clepsydra/clepsydralaw04.SipKeys", spec := "sipKeys", inPlace := ["internal/bytealg.IndexByteString", "internal/bytealg.IndexString"], named := ["unicode/utf8.first", "unicode/utf8.acceptRanges", "internal/bytealg.MaxLen"], apart := false, laid := [("unicode/utf8.acceptRanges", laid_unicode_utf8_acceptRanges), ("unicode/utf8.first", laid_unicode_utf8_first)], narrowed := true }
def SipKeysUptoSaid : Prop := sipKeysUptoRow.holds Tryd.pinned (OpenSpec.upto sipKeysSpec)

/-- 'clepsydralaw04.SipDigits', WHERE WHAT IT READS IS OF BULK AT MOST 1048576: true; the input reads as it did. -/
def sipDigitsUptoRow : OpenClaim := { program := "ytgdpgpmkokjdjaadoor", sum := "f4ee05361553d5499127a70f98dc075e556561d04ae87d61a297f1c49ed67f73", func := "clepsydra/clepsydralaw04.SipDigits", spec := "sipDigits", inPlace := ["internal/bytealg.IndexByteString", "internal/bytealg.IndexString"], named := ["unicode/utf8.first", "unicode/utf8.acceptRanges", "internal/bytealg.MaxLen"], apart := false, laid := [("unicode/utf8.acceptRanges", laid_unicode_utf8_acceptRanges), ("unicode/utf8.first", laid_unicode_utf8_first)], narrowed := true }
def SipDigitsUptoSaid : Prop := sipDigitsUptoRow.holds Tryd.pinned (OpenSpec.upto sipDigitsSpec)

/-- 'clepsydralaw04.SipKnown', WHERE WHAT IT READS IS OF BULK AT MOST 1048576: true; the input reads as it did. -/
def sipKnownUptoRow : OpenClaim := { program := "ytgdpgpmkokjdjaadoor", sum := "f4ee05361553d5499127a70f98dc075e556561d04ae87d61a297f1c49ed67f73", func := "clepsydra/clepsydralaw04.SipKnown", spec := "sipKnown", inPlace := ["internal/bytealg.IndexByteString", "internal/bytealg.IndexString"], named := ["unicode/utf8.first", "unicode/utf8.acceptRanges", "internal/bytealg.MaxLen"], apart := false, laid := [("unicode/utf8.acceptRanges", laid_unicode_utf8_acceptRanges), ("unicode/utf8.first", laid_unicode_utf8_first)], narrowed := true }
def SipKnownUptoSaid : Prop := sipKnownUptoRow.holds Tryd.pinned (OpenSpec.upto sipKnownSpec)

end Rows
end Go.Proofs.YtgdpgpmkokjdjaaDoor
