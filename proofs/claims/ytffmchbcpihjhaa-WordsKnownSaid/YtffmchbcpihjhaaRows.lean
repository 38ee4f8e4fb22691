/-
  No cell of these rows narrows 'for every input' (looked for: loops, veiled, ifaces, maps, wideKeys, modest, calm, conditions, laid).
  DERIVED. THE GIVEN ROWS OF THIS SEAT. 6 by the template 'for every input the law returns true; each argument reads behind the call as it read before'; 0 by the template 'total and deterministic' (their statements: YtffmchbcpihjhaaTotals.lean).
  GIVEN WITH THE SEED: the statements are not yours to turn. If you find one false, say at which input.
  Laid BY PROGRAM, IN A SANDBOX (cutbox-rows.mjs): the forced cells as the released guide's own fill.sh prints them over the translation c6ce3109743fe8e2… (all of the seat's roots in one cut). By AI agents, Wed Nov 11 2026. No macro, syntax, notation, axiom, sorry.
-/
import Derived.Test.YtffmchbcpihjhaaChecked
import GoSem.Claim
import GoSem.ClaimJoined
import GoSem.ClaimMapViews
import Derived.JoinedTies
import Derived.KernelRfl
namespace Go.Proofs.Ytffmchbcpihjhaa
/- THE CELL 'sum', in the pinned program and in every row, IS THE sha256 OF THE DUMP (.gsa) THAT YtffmchbcpihjhaaProg.lean LOADS. Nothing in Lean hashes anything: it is a label: what it is worth is what the hold of that sum in a sandbox is worth. -/
noncomputable def Try.pinned : Pinned := { name := "ytffmchbcpihjhaa", sum := "c6ce3109743fe8e2b2eb44432f46656b5cd7a6fa07b5ef54f70eb6c9c679cf93", checked := Try.checked }
namespace Rows
def none {H : Type} : Left H := { results := [], args := [] }

/-- 'clepsydralaw12.WordsSplit': WHATEVER THE INPUT: true; the input reads as it did. -/
def wordsSplitSpec : ChangeSpec := { name := "wordsSplit", fn := fun _ => fun
  | [d] => { results := [.lit (.bool true)], args := [d] }
  | _ => none }
def wordsSplitRow : OpenClaim := { program := "ytffmchbcpihjhaa", sum := "c6ce3109743fe8e2b2eb44432f46656b5cd7a6fa07b5ef54f70eb6c9c679cf93", func := "clepsydra/clepsydralaw12.WordsSplit", spec := "wordsSplit", inPlace := ["internal/abi.NoEscape"], apart := false }
def WordsSplitSaid : Prop := wordsSplitRow.holds Try.pinned (OpenSpec.ofChange wordsSplitSpec)

/-- ITS FALSE NEIGHBOUR: 'it returns false'. Refute it at one input. -/
def wordsSplitWrong : ChangeSpec := { name := "wordsSplit", fn := fun _ => fun
  | [d] => { results := [.lit (.bool false)], args := [d] }
  | _ => none }
def WordsSplitWrongFalsely : Prop := wordsSplitRow.holds Try.pinned (OpenSpec.ofChange wordsSplitWrong)

/-- 'clepsydralaw12.WordsBack': WHATEVER THE INPUT: true; the input reads as it did. -/
def wordsBackSpec : ChangeSpec := { name := "wordsBack", fn := fun _ => fun
  | [d] => { results := [.lit (.bool true)], args := [d] }
  | _ => none }
def wordsBackRow : OpenClaim := { program := "ytffmchbcpihjhaa", sum := "c6ce3109743fe8e2b2eb44432f46656b5cd7a6fa07b5ef54f70eb6c9c679cf93", func := "clepsydra/clepsydralaw12.WordsBack", spec := "wordsBack", inPlace := ["internal/abi.NoEscape"], apart := false }
def WordsBackSaid : Prop := wordsBackRow.holds Try.pinned (OpenSpec.ofChange wordsBackSpec)

/-- ITS FALSE NEIGHBOUR: 'it returns false'. Refute it at one input. -/
def wordsBackWrong : ChangeSpec := { name := "wordsBack", fn := fun _ => fun
  | [d] => { results := [.lit (.bool false)], args := [d] }
  | _ => none }
def WordsBackWrongFalsely : Prop := wordsBackRow.holds Try.pinned (OpenSpec.ofChange wordsBackWrong)

/-- 'clepsydralaw12.WordsMore': WHATEVER THE INPUT: true; the input reads as it did. -/
def wordsMoreSpec : ChangeSpec := { name := "wordsMore", fn := fun _ => fun
  | [d1, d2] => { results := [.lit (.bool true)], args := [d1, d2] }
  | _ => none }
def wordsMoreRow : OpenClaim := { program := "ytffmchbcpihjhaa", sum := "c6ce3109743fe8e2b2eb44432f46656b5cd7a6fa07b5ef54f70eb6c9c679cf93", func := "clepsydra/clepsydralaw12.WordsMore", spec := "wordsMore", inPlace := ["internal/abi.NoEscape"], apart := false }
def WordsMoreSaid : Prop := wordsMoreRow.holds Try.pinned (OpenSpec.ofChange wordsMoreSpec)

/-- ITS FALSE NEIGHBOUR: 'it returns false'. Refute it at one input. -/
def wordsMoreWrong : ChangeSpec := { name := "wordsMore", fn := fun _ => fun
  | [d1, d2] => { results := [.lit (.bool false)], args := [d1, d2] }
  | _ => none }
def WordsMoreWrongFalsely : Prop := wordsMoreRow.holds Try.pinned (OpenSpec.ofChange wordsMoreWrong)

/-- 'clepsydralaw12.WordsPlain': WHATEVER THE INPUT: true; the input reads as it did. -/
def wordsPlainSpec : ChangeSpec := { name := "wordsPlain", fn := fun _ => fun
  | [d] => { results := [.lit (.bool true)], args := [d] }
  | _ => none }
def wordsPlainRow : OpenClaim := { program := "ytffmchbcpihjhaa", sum := "c6ce3109743fe8e2b2eb44432f46656b5cd7a6fa07b5ef54f70eb6c9c679cf93", func := "clepsydra/clepsydralaw12.WordsPlain", spec := "wordsPlain", inPlace := ["internal/abi.NoEscape"], apart := false }
def WordsPlainSaid : Prop := wordsPlainRow.holds Try.pinned (OpenSpec.ofChange wordsPlainSpec)

/-- ITS FALSE NEIGHBOUR: 'it returns false'. Refute it at one input. -/
def wordsPlainWrong : ChangeSpec := { name := "wordsPlain", fn := fun _ => fun
  | [d] => { results := [.lit (.bool false)], args := [d] }
  | _ => none }
def WordsPlainWrongFalsely : Prop := wordsPlainRow.holds Try.pinned (OpenSpec.ofChange wordsPlainWrong)

/-- 'clepsydralaw12.WordsKnown': WHATEVER THE INPUT: true; the input reads as it did. -/
def wordsKnownSpec : ChangeSpec := { name := "wordsKnown", fn := fun _ => fun
  | [] => { results := [.lit (.bool true)], args := [] }
  | _ => none }
def wordsKnownRow : OpenClaim := { program := "ytffmchbcpihjhaa", sum := "c6ce3109743fe8e2b2eb44432f46656b5cd7a6fa07b5ef54f70eb6c9c679cf93", func := "clepsydra/clepsydralaw12.WordsKnown", spec := "wordsKnown", inPlace := ["internal/abi.NoEscape"], apart := false }
def WordsKnownSaid : Prop := wordsKnownRow.holds Try.pinned (OpenSpec.ofChange wordsKnownSpec)

/-- ITS FALSE NEIGHBOUR: 'it returns false'. Refute it at one input. -/
def wordsKnownWrong : ChangeSpec := { name := "wordsKnown", fn := fun _ => fun
  | [] => { results := [.lit (.bool false)], args := [] }
  | _ => none }
def WordsKnownWrongFalsely : Prop := wordsKnownRow.holds Try.pinned (OpenSpec.ofChange wordsKnownWrong)

/-- 'clepsydralaw12.WordsQuoted': WHATEVER THE INPUT: true; the input reads as it did. -/
def wordsQuotedSpec : ChangeSpec := { name := "wordsQuoted", fn := fun _ => fun
  | [d] => { results := [.lit (.bool true)], args := [d] }
  | _ => none }
def wordsQuotedRow : OpenClaim := { program := "ytffmchbcpihjhaa", sum := "c6ce3109743fe8e2b2eb44432f46656b5cd7a6fa07b5ef54f70eb6c9c679cf93", func := "clepsydra/clepsydralaw12.WordsQuoted", spec := "wordsQuoted", inPlace := ["internal/abi.NoEscape"], apart := false }
def WordsQuotedSaid : Prop := wordsQuotedRow.holds Try.pinned (OpenSpec.ofChange wordsQuotedSpec)

/-- ITS FALSE NEIGHBOUR: 'it returns false'. Refute it at one input. -/
def wordsQuotedWrong : ChangeSpec := { name := "wordsQuoted", fn := fun _ => fun
  | [d] => { results := [.lit (.bool false)], args := [d] }
  | _ => none }
def WordsQuotedWrongFalsely : Prop := wordsQuotedRow.holds Try.pinned (OpenSpec.ofChange wordsQuotedWrong)

/- THE SECOND FORM. 'bulk': how many values and letters a reading holds, each counted each time it is reached (what is shared counts as often as it is met; a slice's spare places count too). A statement '..UptoSaid' is the law's where the arguments, and the package variables that the reading takes, are together of bulk at most 1048576: NARROWER than '..Said'. Prove '..Said' where nothing that the law and all that it calls make is longer than what came in: it says more and counts as full. Else prove '..UptoSaid'. A law counts once. -/
mutual
def uptoBulk {H : Type} : DataW H → Nat
  | .lit (.string bytes) => bytes.length + 1
  | .lit _ => 1
  | .nil => 1
  | .ptr d => uptoBulk d + 1
  | .slice elems spare => uptoBulkAll elems + uptoBulkAll spare + 1
  | .agg parts => uptoBulkAll parts + 1
  | .iface _ d => uptoBulk d + 1
  | .map entries => uptoBulkEntries entries + 1
  | .held _ => 1
def uptoBulkAll {H : Type} : List (DataW H) → Nat
  | [] => 0
  | d :: r => uptoBulk d + uptoBulkAll r
def uptoBulkEntries {H : Type} : List (Lit × DataW H) → Nat
  | [] => 0
  | x :: r => uptoBulkEntry x + uptoBulkEntries r
def uptoBulkEntry {H : Type} : Lit × DataW H → Nat
  | (.string bytes, d) => bytes.length + uptoBulk d + 1
  | (_, d) => uptoBulk d + 1
 end
def uptoSmall : (H : Type) → List (DataW H) → Bool := fun _ ds => decide (uptoBulkAll ds ≤ 1048576)
def OpenSpec.upto (s : _root_.Go.ChangeSpec) : _root_.Go.OpenSpec := { _root_.Go.OpenSpec.ofChange s with cond := some uptoSmall }

/-- 'clepsydralaw12.WordsSplit', WHERE WHAT IT READS IS OF BULK AT MOST 1048576: true; the input reads as it did. -/
def wordsSplitUptoRow : OpenClaim := { program := "ytffmchbcpihjhaa", sum := "c6ce3109743fe8e2b2eb44432f46656b5cd7a6fa07b5ef54f70eb6c9c679cf93", func := "clepsydra/clepsydralaw12.WordsSplit", spec := "wordsSplit", inPlace := ["internal/abi.NoEscape"], apart := false, narrowed := true }
def WordsSplitUptoSaid : Prop := wordsSplitUptoRow.holds Try.pinned (OpenSpec.upto wordsSplitSpec)

/-- 'clepsydralaw12.WordsBack', WHERE WHAT IT READS IS OF BULK AT MOST 1048576: true; the input reads as it did. -/
def wordsBackUptoRow : OpenClaim := { program := "ytffmchbcpihjhaa", sum := "c6ce3109743fe8e2b2eb44432f46656b5cd7a6fa07b5ef54f70eb6c9c679cf93", func := "clepsydra/clepsydralaw12.WordsBack", spec := "wordsBack", inPlace := ["internal/abi.NoEscape"], apart := false, narrowed := true }
def WordsBackUptoSaid : Prop := wordsBackUptoRow.holds Try.pinned (OpenSpec.upto wordsBackSpec)

/-- 'clepsydralaw12.WordsMore', WHERE WHAT IT READS IS OF BULK AT MOST 1048576: true; the input reads as it did. -/
def wordsMoreUptoRow : OpenClaim := { program := "ytffmchbcpihjhaa", sum := "c6ce3109743fe8e2b2eb44432f46656b5cd7a6fa07b5ef54f70eb6c9c679cf93", func := "clepsydra/clepsydralaw12.WordsMore", spec := "wordsMore", inPlace := ["internal/abi.NoEscape"], apart := false, narrowed := true }
def WordsMoreUptoSaid : Prop := wordsMoreUptoRow.holds Try.pinned (OpenSpec.upto wordsMoreSpec)

/-- 'clepsydralaw12.WordsPlain', WHERE WHAT IT READS IS OF BULK AT MOST 1048576: true; the input reads as it did. -/
def wordsPlainUptoRow : OpenClaim := { program := "ytffmchbcpihjhaa", sum := "c6ce3109743fe8e2b2eb44432f46656b5cd7a6fa07b5ef54f70eb6c9c679cf93", func := "clepsydra/clepsydralaw12.WordsPlain", spec := "wordsPlain", inPlace := ["internal/abi.NoEscape"], apart := false, narrowed := true }
def WordsPlainUptoSaid : Prop := wordsPlainUptoRow.holds Try.pinned (OpenSpec.upto wordsPlainSpec)

/-- 'clepsydralaw12.WordsKnown', WHERE WHAT IT READS IS OF BULK AT MOST 1048576: true; the input reads as it did. -/
def wordsKnownUptoRow : OpenClaim := { program := "ytffmchbcpihjhaa", sum := "c6ce3109743fe8e2b2eb44432f46656b5cd7a6fa07b5ef54f70eb6c9c679cf93", func := "clepsydra/clepsydralaw12.WordsKnown", spec := "wordsKnown", inPlace := ["internal/abi.NoEscape"], apart := false, narrowed := true }
def WordsKnownUptoSaid : Prop := wordsKnownUptoRow.holds Try.pinned (OpenSpec.upto wordsKnownSpec)

/-- 'clepsydralaw12.WordsQuoted', WHERE WHAT IT READS IS OF BULK AT MOST 1048576: true; the input reads as it did. -/
def wordsQuotedUptoRow : OpenClaim := { program := "ytffmchbcpihjhaa", sum := "c6ce3109743fe8e2b2eb44432f46656b5cd7a6fa07b5ef54f70eb6c9c679cf93", func := "clepsydra/clepsydralaw12.WordsQuoted", spec := "wordsQuoted", inPlace := ["internal/abi.NoEscape"], apart := false, narrowed := true }
def WordsQuotedUptoSaid : Prop := wordsQuotedUptoRow.holds Try.pinned (OpenSpec.upto wordsQuotedSpec)

end Rows
end Go.Proofs.Ytffmchbcpihjhaa
