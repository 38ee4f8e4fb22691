/-
  NARROWER THAN 'FOR EVERY INPUT', by the rows' own cells (each row's printed sentence says how): CivilDays: laid · CivilOf: laid · CivilMicro: laid · CivilFrom: laid · CivilKnown: laid · CivilRound: laid.
  DERIVED. THE GIVEN ROWS OF THIS SEAT. 6 by the template 'for every input the law returns true; each argument reads behind the call as it read before'; 0 by the template 'total and deterministic' (their statements: YtcllimfaoajapabDoorTotals.lean).
  GIVEN WITH THE SEED: the statements are not yours to turn. If you find one false, say at which input.
  Laid BY PROGRAM, IN A SANDBOX (cutbox-rows.mjs): the forced cells as the released guide's own fill.sh prints them over the translation a6b22b18966b5424… (all of the seat's roots in one cut). By AI agents, Wed Nov 11 2026. No macro, syntax, notation, axiom, sorry.
-/
import Derived.Test.YtcllimfaoajapabDoorChecked
import GoSem.Claim
import GoSem.ClaimJoined
import GoSem.ClaimMapViews
import Derived.JoinedTies
import Derived.KernelRfl
namespace Go.Proofs.YtcllimfaoajapabDoor
/- THE CELL 'sum', in the pinned program and in every row, IS THE sha256 OF THE DUMP (.gsa) THAT YtcllimfaoajapabDoorProg.lean LOADS. Nothing in Lean hashes anything: it is a label: what it is worth is what the hold of that sum in a sandbox is worth. -/
noncomputable def Tryd.pinned : Pinned := { name := "ytcllimfaoajapabdoor", sum := "a6b22b18966b5424ec6681717a44b26bb2916601d97d305e973af9e879a73614", checked := Tryd.checked }
namespace Rows
def none {H : Type} : Left H := { results := [], args := [] }

/- WHAT THE LISTED PACKAGE-LEVEL VARIABLES READ AS WHEN THE CALL BEGINS. Each datum BY PROGRAM (the guide's laid-datum.mjs) off the statement by which the dump's own 'gosem.cut.vars' lays the variable. In a bare row this is a premise. The card (YtcllimfaoajapabDoorCards.lean) ties it to the program's text. -/
def laid_clepsydra_civil_lengths {H : Type} : DataW H := .agg [.lit (.int .i64 31), .lit (.int .i64 28), .lit (.int .i64 31), .lit (.int .i64 30), .lit (.int .i64 31), .lit (.int .i64 30), .lit (.int .i64 31), .lit (.int .i64 31), .lit (.int .i64 30), .lit (.int .i64 31), .lit (.int .i64 30), .lit (.int .i64 31)]

/-- 'clepsydralaw03.CivilDays': WHATEVER THE INPUT: true; the input reads as it did. -/
def civilDaysSpec : ChangeSpec := { name := "civilDays", fn := fun _ => fun
  | [d] => { results := [.lit (.bool true)], args := [d] }
  | _ => none }
def civilDaysRow : OpenClaim := { program := "ytcllimfaoajapabdoor", sum := "a6b22b18966b5424ec6681717a44b26bb2916601d97d305e973af9e879a73614", func := "clepsydra/clepsydralaw03.CivilDays", spec := "civilDays", named := ["clepsydra/civil.lengths"], apart := false, laid := [("clepsydra/civil.lengths", laid_clepsydra_civil_lengths)] }
def CivilDaysSaid : Prop := civilDaysRow.holds Tryd.pinned (OpenSpec.ofChange civilDaysSpec)

/-- ITS FALSE NEIGHBOUR: 'it returns false'. Refute it at one input. -/
def civilDaysWrong : ChangeSpec := { name := "civilDays", fn := fun _ => fun
  | [d] => { results := [.lit (.bool false)], args := [d] }
  | _ => none }
def CivilDaysWrongFalsely : Prop := civilDaysRow.holds Tryd.pinned (OpenSpec.ofChange civilDaysWrong)

/-- 'clepsydralaw03.CivilOf': WHATEVER THE INPUT: true; the input reads as it did. -/
def civilOfSpec : ChangeSpec := { name := "civilOf", fn := fun _ => fun
  | [d] => { results := [.lit (.bool true)], args := [d] }
  | _ => none }
def civilOfRow : OpenClaim := { program := "ytcllimfaoajapabdoor", sum := "a6b22b18966b5424ec6681717a44b26bb2916601d97d305e973af9e879a73614", func := "clepsydra/clepsydralaw03.CivilOf", spec := "civilOf", named := ["clepsydra/civil.lengths"], apart := false, laid := [("clepsydra/civil.lengths", laid_clepsydra_civil_lengths)] }
def CivilOfSaid : Prop := civilOfRow.holds Tryd.pinned (OpenSpec.ofChange civilOfSpec)

/-- ITS FALSE NEIGHBOUR: 'it returns false'. Refute it at one input. -/
def civilOfWrong : ChangeSpec := { name := "civilOf", fn := fun _ => fun
  | [d] => { results := [.lit (.bool false)], args := [d] }
  | _ => none }
def CivilOfWrongFalsely : Prop := civilOfRow.holds Tryd.pinned (OpenSpec.ofChange civilOfWrong)

/-- 'clepsydralaw03.CivilMicro': WHATEVER THE INPUT: true; the input reads as it did. -/
def civilMicroSpec : ChangeSpec := { name := "civilMicro", fn := fun _ => fun
  | [d] => { results := [.lit (.bool true)], args := [d] }
  | _ => none }
def civilMicroRow : OpenClaim := { program := "ytcllimfaoajapabdoor", sum := "a6b22b18966b5424ec6681717a44b26bb2916601d97d305e973af9e879a73614", func := "clepsydra/clepsydralaw03.CivilMicro", spec := "civilMicro", named := ["clepsydra/civil.lengths"], apart := false, laid := [("clepsydra/civil.lengths", laid_clepsydra_civil_lengths)] }
def CivilMicroSaid : Prop := civilMicroRow.holds Tryd.pinned (OpenSpec.ofChange civilMicroSpec)

/-- ITS FALSE NEIGHBOUR: 'it returns false'. Refute it at one input. -/
def civilMicroWrong : ChangeSpec := { name := "civilMicro", fn := fun _ => fun
  | [d] => { results := [.lit (.bool false)], args := [d] }
  | _ => none }
def CivilMicroWrongFalsely : Prop := civilMicroRow.holds Tryd.pinned (OpenSpec.ofChange civilMicroWrong)

/-- 'clepsydralaw03.CivilFrom': WHATEVER THE INPUT: true; the input reads as it did. -/
def civilFromSpec : ChangeSpec := { name := "civilFrom", fn := fun _ => fun
  | [d] => { results := [.lit (.bool true)], args := [d] }
  | _ => none }
def civilFromRow : OpenClaim := { program := "ytcllimfaoajapabdoor", sum := "a6b22b18966b5424ec6681717a44b26bb2916601d97d305e973af9e879a73614", func := "clepsydra/clepsydralaw03.CivilFrom", spec := "civilFrom", named := ["clepsydra/civil.lengths"], apart := false, laid := [("clepsydra/civil.lengths", laid_clepsydra_civil_lengths)] }
def CivilFromSaid : Prop := civilFromRow.holds Tryd.pinned (OpenSpec.ofChange civilFromSpec)

/-- ITS FALSE NEIGHBOUR: 'it returns false'. Refute it at one input. -/
def civilFromWrong : ChangeSpec := { name := "civilFrom", fn := fun _ => fun
  | [d] => { results := [.lit (.bool false)], args := [d] }
  | _ => none }
def CivilFromWrongFalsely : Prop := civilFromRow.holds Tryd.pinned (OpenSpec.ofChange civilFromWrong)

/-- 'clepsydralaw03.CivilKnown': WHATEVER THE INPUT: true; the input reads as it did. -/
def civilKnownSpec : ChangeSpec := { name := "civilKnown", fn := fun _ => fun
  | [] => { results := [.lit (.bool true)], args := [] }
  | _ => none }
def civilKnownRow : OpenClaim := { program := "ytcllimfaoajapabdoor", sum := "a6b22b18966b5424ec6681717a44b26bb2916601d97d305e973af9e879a73614", func := "clepsydra/clepsydralaw03.CivilKnown", spec := "civilKnown", named := ["clepsydra/civil.lengths"], apart := false, laid := [("clepsydra/civil.lengths", laid_clepsydra_civil_lengths)] }
def CivilKnownSaid : Prop := civilKnownRow.holds Tryd.pinned (OpenSpec.ofChange civilKnownSpec)

/-- ITS FALSE NEIGHBOUR: 'it returns false'. Refute it at one input. -/
def civilKnownWrong : ChangeSpec := { name := "civilKnown", fn := fun _ => fun
  | [] => { results := [.lit (.bool false)], args := [] }
  | _ => none }
def CivilKnownWrongFalsely : Prop := civilKnownRow.holds Tryd.pinned (OpenSpec.ofChange civilKnownWrong)

/-- 'clepsydralaw03.CivilRound': WHATEVER THE INPUT: true; the input reads as it did. -/
def civilRoundSpec : ChangeSpec := { name := "civilRound", fn := fun _ => fun
  | [d] => { results := [.lit (.bool true)], args := [d] }
  | _ => none }
def civilRoundRow : OpenClaim := { program := "ytcllimfaoajapabdoor", sum := "a6b22b18966b5424ec6681717a44b26bb2916601d97d305e973af9e879a73614", func := "clepsydra/clepsydralaw03.CivilRound", spec := "civilRound", named := ["clepsydra/civil.lengths"], apart := false, laid := [("clepsydra/civil.lengths", laid_clepsydra_civil_lengths)] }
def CivilRoundSaid : Prop := civilRoundRow.holds Tryd.pinned (OpenSpec.ofChange civilRoundSpec)

/-- ITS FALSE NEIGHBOUR: 'it returns false'. Refute it at one input. -/
def civilRoundWrong : ChangeSpec := { name := "civilRound", fn := fun _ => fun
  | [d] => { results := [.lit (.bool false)], args := [d] }
  | _ => none }
def CivilRoundWrongFalsely : Prop := civilRoundRow.holds Tryd.pinned (OpenSpec.ofChange civilRoundWrong)

/- THE SECOND FORM. 'bulk': how many values and letters a reading holds, each counted each time it is reached (what is shared counts as often as it is met; a slice's spare places count too). A statement '..UptoSaid' is the law's where the arguments, and the package variables that the reading takes, are together of bulk at most 1048576: NARROWER than '..Said'. Prove '..Said' where nothing that the law and all that it calls make is longer than what came in: it says more and counts as full. Else prove '..UptoSaid'. A law counts once. -/
mutual
def uptoBulk {H : Type} : DataW H → Nat
  | .lit (.string bytes) => bytes.length + 1
  | .lit _ => 1
  | .nil => 1
  | .ptr d => uptoBulk d + 1
  | .slice elems spare => uptoBulkAll elems + uptoBulkAll spare + 1
  | .agg parts => uptoBulkAll parts + 1
  | .iface _ d => uptoBulk d + 1
  | .map entries => uptoBulkEntries entries + 1
  | .held _ => 1
def uptoBulkAll {H : Type} : List (DataW H) → Nat
  | [] => 0
  | d :: r => uptoBulk d + uptoBulkAll r
def uptoBulkEntries {H : Type} : List (Lit × DataW H) → Nat
  | [] => 0
  | x :: r => uptoBulkEntry x + uptoBulkEntries r
def uptoBulkEntry {H : Type} : Lit × DataW H → Nat
  | (.string bytes, d) => bytes.length + uptoBulk d + 1
  | (_, d) => uptoBulk d + 1
 end
def uptoSmall : (H : Type) → List (DataW H) → Bool := fun _ ds => decide (uptoBulkAll ds ≤ 1048576)
def OpenSpec.upto (s : _root_.Go.ChangeSpec) : _root_.Go.OpenSpec := { _root_.Go.OpenSpec.ofChange s with cond := some uptoSmall }

/-- 'clepsydralaw03.CivilDays', WHERE WHAT IT READS IS OF BULK AT MOST 1048576: true; the input reads as it did. -/
def civilDaysUptoRow : OpenClaim := { program := "ytcllimfaoajapabdoor", sum := "a6b22b18966b5424ec6681717a44b26bb2916601d97d305e973af9e879a73614", func := "clepsydra/clepsydralaw03.CivilDays", spec := "civilDays", named := ["clepsydra/civil.lengths"], apart := false, laid := [("clepsydra/civil.lengths", laid_clepsydra_civil_lengths)], narrowed := true }
def CivilDaysUptoSaid : Prop := civilDaysUptoRow.holds Tryd.pinned (OpenSpec.upto civilDaysSpec)

/-- 'clepsydralaw03.CivilOf', WHERE WHAT IT READS IS OF BULK AT MOST 1048576: true; the input reads as it did. -/
def civilOfUptoRow : OpenClaim := { program := "ytcllimfaoajapabdoor", sum := "a6b22b18966b5424ec6681717a44b26bb2916601d97d305e973af9e879a73614", func := "clepsydra/clepsydralaw03.CivilOf", spec := "civilOf", named := ["clepsydra/civil.lengths"], apart := false, laid := [("clepsydra/civil.lengths", laid_clepsydra_civil_lengths)], narrowed := true }
def CivilOfUptoSaid : Prop := civilOfUptoRow.holds Tryd.pinned (OpenSpec.upto civilOfSpec)

/-- 'clepsydralaw03.CivilMicro', WHERE WHAT IT READS IS OF BULK AT MOST 1048576: true; the input reads as it did. -/
def civilMicroUptoRow : OpenClaim := { program := "ytcllimfaoajapabdoor", sum := "a6b22b18966b5424ec6681717a44b26bb2916601d97d305e973af9e879a73614", func := "clepsydra/clepsydralaw03.CivilMicro", spec := "civilMicro", named := ["clepsydra/civil.lengths"], apart := false, laid := [("clepsydra/civil.lengths", laid_clepsydra_civil_lengths)], narrowed := true }
def CivilMicroUptoSaid : Prop := civilMicroUptoRow.holds Tryd.pinned (OpenSpec.upto civilMicroSpec)

/-- 'clepsydralaw03.CivilFrom', WHERE WHAT IT READS IS OF BULK AT MOST 1048576: true; the input reads as it did. -/
def civilFromUptoRow : OpenClaim := { program := "ytcllimfaoajapabdoor", sum := "a6b22b18966b5424ec6681717a44b26bb2916601d97d305e973af9e879a73614", func := "clepsydra/clepsydralaw03.CivilFrom", spec := "civilFrom", named := ["clepsydra/civil.lengths"], apart := false, laid := [("clepsydra/civil.lengths", laid_clepsydra_civil_lengths)], narrowed := true }
def CivilFromUptoSaid : Prop := civilFromUptoRow.holds Tryd.pinned (OpenSpec.upto civilFromSpec)

/-- 'clepsydralaw03.CivilKnown', WHERE WHAT IT READS IS OF BULK AT MOST 1048576: true; the input reads as it did. -/
def civilKnownUptoRow : OpenClaim := { program := "ytcllimfaoajapabdoor", sum := "a6b22b18966b5424ec6681717a44b26bb2916601d97d305e973af9e879a73614", func := "clepsydra/clepsydralaw03.CivilKnown", spec := "civilKnown", named := ["clepsydra/civil.lengths"], apart := false, laid := [("clepsydra/civil.lengths", laid_clepsydra_civil_lengths)], narrowed := true }
def CivilKnownUptoSaid : Prop := civilKnownUptoRow.holds Tryd.pinned (OpenSpec.upto civilKnownSpec)

/-- 'clepsydralaw03.CivilRound', WHERE WHAT IT READS IS OF BULK AT MOST 1048576: true; the input reads as it did. -/
def civilRoundUptoRow : OpenClaim := { program := "ytcllimfaoajapabdoor", sum := "a6b22b18966b5424ec6681717a44b26bb2916601d97d305e973af9e879a73614", func := "clepsydra/clepsydralaw03.CivilRound", spec := "civilRound", named := ["clepsydra/civil.lengths"], apart := false, laid := [("clepsydra/civil.lengths", laid_clepsydra_civil_lengths)], narrowed := true }
def CivilRoundUptoSaid : Prop := civilRoundUptoRow.holds Tryd.pinned (OpenSpec.upto civilRoundSpec)

end Rows
end Go.Proofs.YtcllimfaoajapabDoor
