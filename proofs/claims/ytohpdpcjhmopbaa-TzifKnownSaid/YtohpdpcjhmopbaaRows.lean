/-
  No cell of these rows narrows 'for every input' (looked for: loops, veiled, ifaces, maps, wideKeys, modest, calm, conditions, laid).
  DERIVED. THE GIVEN ROWS OF THIS SEAT. 5 by the template 'for every input the law returns true; each argument reads behind the call as it read before'; 0 by the template 'total and deterministic' (their statements: YtohpdpcjhmopbaaTotals.lean).
  GIVEN WITH THE SEED: the statements are not yours to turn. If you find one false, say at which input.
  Laid BY PROGRAM, IN A SANDBOX (cutbox-rows.mjs): the forced cells as the released guide's own fill.sh prints them over the translation cd0711c8839ae07e… (all of the seat's roots in one cut). By AI agents, Wed Nov 11 2026. No macro, syntax, notation, axiom, sorry.
-/
import Derived.Test.YtohpdpcjhmopbaaChecked
import GoSem.Claim
import GoSem.ClaimJoined
import GoSem.ClaimMapViews
import Derived.JoinedTies
import Derived.KernelRfl
namespace Go.Proofs.Ytohpdpcjhmopbaa
/- THE CELL 'sum', in the pinned program and in every row, IS THE sha256 OF THE DUMP (.gsa) THAT YtohpdpcjhmopbaaProg.lean LOADS. Nothing in Lean hashes anything: it is a label: what it is worth is what the hold of that sum in a sandbox is worth. -/
noncomputable def Try.pinned : Pinned := { name := "ytohpdpcjhmopbaa", sum := "cd0711c8839ae07e591dd7b0bc2b4adb3815ce7ea9ef27f89f4307a343045f0e", checked := Try.checked }
namespace Rows
def none {H : Type} : Left H := { results := [], args := [] }

/-- 'clepsydralaw06.TzifPuts': WHATEVER THE INPUT: true; the input reads as it did. -/
def tzifPutsSpec : ChangeSpec := { name := "tzifPuts", fn := fun _ => fun
  | [d1, d2, d3] => { results := [.lit (.bool true)], args := [d1, d2, d3] }
  | _ => none }
def tzifPutsRow : OpenClaim := { program := "ytohpdpcjhmopbaa", sum := "cd0711c8839ae07e591dd7b0bc2b4adb3815ce7ea9ef27f89f4307a343045f0e", func := "clepsydra/clepsydralaw06.TzifPuts", spec := "tzifPuts", inPlace := ["internal/bytealg.IndexByte", "internal/bytealg.Index"], unfollowed := true, recurses := true, named := ["internal/bytealg.MaxLen"], apart := false }
def TzifPutsSaid : Prop := tzifPutsRow.holds Try.pinned (OpenSpec.ofChange tzifPutsSpec)

/-- ITS FALSE NEIGHBOUR: 'it returns false'. Refute it at one input. -/
def tzifPutsWrong : ChangeSpec := { name := "tzifPuts", fn := fun _ => fun
  | [d1, d2, d3] => { results := [.lit (.bool false)], args := [d1, d2, d3] }
  | _ => none }
def TzifPutsWrongFalsely : Prop := tzifPutsRow.holds Try.pinned (OpenSpec.ofChange tzifPutsWrong)

/-- 'clepsydralaw06.TzifBack': WHATEVER THE INPUT: true; the input reads as it did. -/
def tzifBackSpec : ChangeSpec := { name := "tzifBack", fn := fun _ => fun
  | [d1, d2] => { results := [.lit (.bool true)], args := [d1, d2] }
  | _ => none }
def tzifBackRow : OpenClaim := { program := "ytohpdpcjhmopbaa", sum := "cd0711c8839ae07e591dd7b0bc2b4adb3815ce7ea9ef27f89f4307a343045f0e", func := "clepsydra/clepsydralaw06.TzifBack", spec := "tzifBack", inPlace := ["internal/bytealg.IndexByte", "internal/bytealg.Index"], unfollowed := true, recurses := true, named := ["internal/bytealg.MaxLen"], apart := false }
def TzifBackSaid : Prop := tzifBackRow.holds Try.pinned (OpenSpec.ofChange tzifBackSpec)

/-- ITS FALSE NEIGHBOUR: 'it returns false'. Refute it at one input. -/
def tzifBackWrong : ChangeSpec := { name := "tzifBack", fn := fun _ => fun
  | [d1, d2] => { results := [.lit (.bool false)], args := [d1, d2] }
  | _ => none }
def TzifBackWrongFalsely : Prop := tzifBackRow.holds Try.pinned (OpenSpec.ofChange tzifBackWrong)

/-- 'clepsydralaw06.TzifOld': WHATEVER THE INPUT: true; the input reads as it did. -/
def tzifOldSpec : ChangeSpec := { name := "tzifOld", fn := fun _ => fun
  | [d1, d2, d3] => { results := [.lit (.bool true)], args := [d1, d2, d3] }
  | _ => none }
def tzifOldRow : OpenClaim := { program := "ytohpdpcjhmopbaa", sum := "cd0711c8839ae07e591dd7b0bc2b4adb3815ce7ea9ef27f89f4307a343045f0e", func := "clepsydra/clepsydralaw06.TzifOld", spec := "tzifOld", inPlace := ["internal/bytealg.IndexByte", "internal/bytealg.Index"], unfollowed := true, recurses := true, named := ["internal/bytealg.MaxLen"], apart := false }
def TzifOldSaid : Prop := tzifOldRow.holds Try.pinned (OpenSpec.ofChange tzifOldSpec)

/-- ITS FALSE NEIGHBOUR: 'it returns false'. Refute it at one input. -/
def tzifOldWrong : ChangeSpec := { name := "tzifOld", fn := fun _ => fun
  | [d1, d2, d3] => { results := [.lit (.bool false)], args := [d1, d2, d3] }
  | _ => none }
def TzifOldWrongFalsely : Prop := tzifOldRow.holds Try.pinned (OpenSpec.ofChange tzifOldWrong)

/-- 'clepsydralaw06.TzifMore': WHATEVER THE INPUT: true; the input reads as it did. -/
def tzifMoreSpec : ChangeSpec := { name := "tzifMore", fn := fun _ => fun
  | [d1, d2, d3, d4] => { results := [.lit (.bool true)], args := [d1, d2, d3, d4] }
  | _ => none }
def tzifMoreRow : OpenClaim := { program := "ytohpdpcjhmopbaa", sum := "cd0711c8839ae07e591dd7b0bc2b4adb3815ce7ea9ef27f89f4307a343045f0e", func := "clepsydra/clepsydralaw06.TzifMore", spec := "tzifMore", inPlace := ["internal/bytealg.IndexByte", "internal/bytealg.Index"], unfollowed := true, recurses := true, named := ["internal/bytealg.MaxLen"], apart := false }
def TzifMoreSaid : Prop := tzifMoreRow.holds Try.pinned (OpenSpec.ofChange tzifMoreSpec)

/-- ITS FALSE NEIGHBOUR: 'it returns false'. Refute it at one input. -/
def tzifMoreWrong : ChangeSpec := { name := "tzifMore", fn := fun _ => fun
  | [d1, d2, d3, d4] => { results := [.lit (.bool false)], args := [d1, d2, d3, d4] }
  | _ => none }
def TzifMoreWrongFalsely : Prop := tzifMoreRow.holds Try.pinned (OpenSpec.ofChange tzifMoreWrong)

/-- 'clepsydralaw06.TzifKnown': WHATEVER THE INPUT: true; the input reads as it did. -/
def tzifKnownSpec : ChangeSpec := { name := "tzifKnown", fn := fun _ => fun
  | [] => { results := [.lit (.bool true)], args := [] }
  | _ => none }
def tzifKnownRow : OpenClaim := { program := "ytohpdpcjhmopbaa", sum := "cd0711c8839ae07e591dd7b0bc2b4adb3815ce7ea9ef27f89f4307a343045f0e", func := "clepsydra/clepsydralaw06.TzifKnown", spec := "tzifKnown", inPlace := ["internal/bytealg.IndexByte", "internal/bytealg.Index"], unfollowed := true, recurses := true, named := ["internal/bytealg.MaxLen"], apart := false }
def TzifKnownSaid : Prop := tzifKnownRow.holds Try.pinned (OpenSpec.ofChange tzifKnownSpec)

/-- ITS FALSE NEIGHBOUR: 'it returns false'. Refute it at one input. -/
def tzifKnownWrong : ChangeSpec := { name := "tzifKnown", fn := fun _ => fun
  | [] => { results := [.lit (.bool false)], args := [] }
  | _ => none }
def TzifKnownWrongFalsely : Prop := tzifKnownRow.holds Try.pinned (OpenSpec.ofChange tzifKnownWrong)

/- THE SECOND FORM. 'bulk': how many values and letters a reading holds, each counted each time it is reached (what is shared counts as often as it is met; a slice's spare places count too). A statement '..UptoSaid' is the law's where the arguments, and the package variables that the reading takes, are together of bulk at most 1048576: NARROWER than '..Said'. Prove '..Said' where nothing that the law and all that it calls make is longer than what came in: it says more and counts as full. Else prove '..UptoSaid'. A law counts once. -/
mutual
def uptoBulk {H : Type} : DataW H → Nat
  | .lit (.string bytes) => bytes.length + 1
  | .lit _ => 1
  | .nil => 1
  | .ptr d => uptoBulk d + 1
  | .slice elems spare => uptoBulkAll elems + uptoBulkAll spare + 1
  | .agg parts => uptoBulkAll parts + 1
  | .iface _ d => uptoBulk d + 1
  | .map entries => uptoBulkEntries entries + 1
  | .held _ => 1
def uptoBulkAll {H : Type} : List (DataW H) → Nat
  | [] => 0
  | d :: r => uptoBulk d + uptoBulkAll r
def uptoBulkEntries {H : Type} : List (Lit × DataW H) → Nat
  | [] => 0
  | x :: r => uptoBulkEntry x + uptoBulkEntries r
def uptoBulkEntry {H : Type} : Lit × DataW H → Nat
  | (.string bytes, d) => bytes.length + uptoBulk d + 1
  | (_, d) => uptoBulk d + 1
 end
def uptoSmall : (H : Type) → List (DataW H) → Bool := fun _ ds => decide (uptoBulkAll ds ≤ 1048576)
def OpenSpec.upto (s : _root_.Go.ChangeSpec) : _root_.Go.OpenSpec := { _root_.Go.OpenSpec.ofChange s with cond := some uptoSmall }

/-- 'clepsydralaw06.TzifPuts', WHERE WHAT IT READS IS OF BULK AT MOST 1048576: true; the input reads as it did. -/
def tzifPutsUptoRow : OpenClaim := { program := "ytohpdpcjhmopbaa", sum := "cd0711c8839ae07e591dd7b0bc2b4adb3815ce7ea9ef27f89f4307a343045f0e", func := "clepsydra/clepsydralaw06.TzifPuts", spec := "tzifPuts", inPlace := ["internal/bytealg.IndexByte", "internal/bytealg.Index"], unfollowed := true, recurses := true, named := ["internal/bytealg.MaxLen"], apart := false, narrowed := true }
def TzifPutsUptoSaid : Prop := tzifPutsUptoRow.holds Try.pinned (OpenSpec.upto tzifPutsSpec)

/-- 'clepsydralaw06.TzifBack', WHERE WHAT IT READS IS OF BULK AT MOST 1048576: true; the input reads as it did. -/
def tzifBackUptoRow : OpenClaim := { program := "ytohpdpcjhmopbaa", sum := "cd0711c8839ae07e591dd7b0bc2b4adb3815ce7ea9ef27f89f4307a343045f0e", func := "clepsydra/clepsydralaw06.TzifBack", spec := "tzifBack", inPlace := ["internal/bytealg.IndexByte", "internal/bytealg.Index"], unfollowed := true, recurses := true, named := ["internal/bytealg.MaxLen"], apart := false, narrowed := true }
def TzifBackUptoSaid : Prop := tzifBackUptoRow.holds Try.pinned (OpenSpec.upto tzifBackSpec)

/-- 'clepsydralaw06.TzifOld', WHERE WHAT IT READS IS OF BULK AT MOST 1048576: true; the input reads as it did. -/
def tzifOldUptoRow : OpenClaim := { program := "ytohpdpcjhmopbaa", sum := "cd0711c8839ae07e591dd7b0bc2b4adb3815ce7ea9ef27f89f4307a343045f0e", func := "clepsydra/clepsydralaw06.TzifOld", spec := "tzifOld", inPlace := ["internal/bytealg.IndexByte", "internal/bytealg.Index"], unfollowed := true, recurses := true, named := ["internal/bytealg.MaxLen"], apart := false, narrowed := true }
def TzifOldUptoSaid : Prop := tzifOldUptoRow.holds Try.pinned (OpenSpec.upto tzifOldSpec)

/-- 'clepsydralaw06.TzifMore', WHERE WHAT IT READS IS OF BULK AT MOST 1048576: true; the input reads as it did. -/
def tzifMoreUptoRow : OpenClaim := { program := "ytohpdpcjhmopbaa", sum := "cd0711c8839ae07e591dd7b0bc2b4adb3815ce7ea9ef27f89f4307a343045f0e", func := "clepsydra/clepsydralaw06.TzifMore", spec := "tzifMore", inPlace := ["internal/bytealg.IndexByte", "internal/bytealg.Index"], unfollowed := true, recurses := true, named := ["internal/bytealg.MaxLen"], apart := false, narrowed := true }
def TzifMoreUptoSaid : Prop := tzifMoreUptoRow.holds Try.pinned (OpenSpec.upto tzifMoreSpec)

/-- 'clepsydralaw06.TzifKnown', WHERE WHAT IT READS IS OF BULK AT MOST 1048576: true; the input reads as it did. -/
def tzifKnownUptoRow : OpenClaim := { program := "ytohpdpcjhmopbaa", sum := "cd0711c8839ae07e591dd7b0bc2b4adb3815ce7ea9ef27f89f4307a343045f0e", func := "clepsydra/clepsydralaw06.TzifKnown", spec := "tzifKnown", inPlace := ["internal/bytealg.IndexByte", "internal/bytealg.Index"], unfollowed := true, recurses := true, named := ["internal/bytealg.MaxLen"], apart := false, narrowed := true }
def TzifKnownUptoSaid : Prop := tzifKnownUptoRow.holds Try.pinned (OpenSpec.upto tzifKnownSpec)

end Rows
end Go.Proofs.Ytohpdpcjhmopbaa
