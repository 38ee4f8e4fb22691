/-
  Layer 11 (lines): what going over whole lines keeps.
-/
import Derived.Test.YtokeepmlibolfaaDoorLnMem
import Derived.RangeFuncNested
import Derived.RangeFuncBound
import Derived.RangeFuncCalls
import Derived.RangeFuncLeaves
import Derived.Shelf.Abstract
import Derived.Shelf.RegionOpen
import Derived.OwnWalkIn
import Derived.TacticsInMore
import Derived.LoopNIn
import Derived.LoopIn
import Derived.Lib.BufStepsIn
import Derived.Lib.QuietBelow
namespace Go.Proofs.YtokeepmlibolfaaDoor.Ln
open Go.RowKit

/-- What the loop's body promises: its own blocks are told. -/
structure Bd (B tb : Nat) (text : List UInt8) (m : Int) (J : List (Nat × List UInt8) → List Nat → World → Prop) : Prop where
  abide : ∀ {pre bl W W' row}, J pre bl W → W.grownBy W' row → (∀ r, row = some r → B ≤ r ∧ r ∉ bl) → J pre bl W'
  kind : ∀ {pre bl W}, J pre bl W → ∀ b ∈ bl, ∃ cur t fz, W.heap[b]? = some (.cells cur t fz) ∧ t ≠ 5 ∧ t ≠ 9
  cell : ∀ {pre bl W}, J pre bl W → W.cell? ⟨tb, 0, none⟩ = some (.string (bs text))
  lim : ∀ {pre bl W}, J pre bl W → W.cell? ⟨0, 0, none⟩ = some (.int .i64 m)
  size : ∀ {pre bl W}, J pre bl W → B ≤ W.heap.size
/-- Between two lines: the body's, the lines, the bytes of one's own. -/
structure It (B Ls : Nat) (ls : List (List UInt8)) (J : List (Nat × List UInt8) → List Nat → World → Prop) (pre : List (Nat × List UInt8)) (bl : List Nat) (v : Value) (xs : List UInt8) (W : World) : Prop where
  j : J pre bl W
  ls : W.heap[Ls]? = some (.cells (ls.map fun l => Value.string (bs l)).toArray 9 (0, 0))
  le : B ≤ Ls
  own : W.ownsRowF (Ls + 1) 5 1 v xs.length (cellsU xs)
theorem grown_of {W W' : World} (hb : Below W.heap.size W W') : W.grownBy W' none := ⟨hb.os, hb.tape, hb.output, hb.size, fun k hk _ => hb.block k hk⟩
section
variable {B tb Ls : Nat} {text : List UInt8} {m : Int} {ls : List (List UInt8)} {J : List (Nat × List UInt8) → List Nat → World → Prop} {pre : List (Nat × List UInt8)} {bl : List Nat} {v : Value} {xs : List UInt8} {W W' : World}
theorem It.lt (h : It B Ls ls J pre bl v xs W) : Ls < W.heap.size := (Array.getElem?_eq_some_iff.1 h.ls).1
theorem It.grow (hB : Bd B tb text m J) (h : It B Ls ls J pre bl v xs W) (hg : W.grownBy W' none) : It B Ls ls J pre bl v xs W' :=
  ⟨hB.abide h.j hg (fun _ e => by cases e), (hg.block Ls h.lt (by simp)).trans h.ls, h.le, h.own.kept hg (by cases v.ownBlock <;> simp)⟩
theorem It.below (hB : Bd B tb text m J) (h : It B Ls ls J pre bl v xs W) (hb : Below W.heap.size W W') : It B Ls ls J pre bl v xs W' := h.grow hB (grown_of hb)
theorem It.alloc (hB : Bd B tb text m J) (h : It B Ls ls J pre bl v xs W) (o : Obj) : It B Ls ls J pre bl v xs (W.alloc o) := h.grow hB (World.grownBy_alloc W o none)
/-- One's own bytes lie in no block of the body's. -/
theorem It.far (hB : Bd B tb text m J) (h : It B Ls ls J pre bl v xs W) : ∀ r, v.ownBlock = some r → Ls < r ∧ r ∉ bl := fun r hr => by
  refine ⟨(h.own.lt r hr).1, fun hin => ?_⟩
  obtain ⟨cur, t, fz, hc, h1, _⟩ := hB.kind h.j r hin
  exact absurd hr (Lib.ownBlock_neF h.own hc h1)
theorem It.lsn (hB : Bd B tb text m J) (h : It B Ls ls J pre bl v xs W) : Ls ∉ bl := fun hin => by
  obtain ⟨cur, t, fz, hc, _, h2⟩ := hB.kind h.j Ls hin
  rw [h.ls] at hc
  cases hc
  exact h2 rfl
/-- Bytes put behind one's own. -/
theorem It.app (hB : Bd B tb text m J) (h : It B Ls ls J pre bl v xs W) {v' : Value} {ys : List UInt8} (hg : W.grownBy W' v.ownBlock) (ho : W'.ownsRowF (Ls + 1) 5 1 v' ys.length (cellsU ys)) : It B Ls ls J pre bl v' ys W' :=
  ⟨hB.abide h.j hg (fun r e => by obtain ⟨a, b⟩ := h.far hB r e; have := h.le; exact ⟨by omega, b⟩), (hg.block Ls h.lt (fun e => by have := (h.far hB Ls e.symm).1; omega)).trans h.ls, h.le, ho⟩
theorem It.nil (h : It B Ls ls J pre bl v xs W) : It B Ls ls J pre bl (.slice none 0 0) [] W := ⟨h.j, h.ls, h.le, World.ownsRowF_nil _ _ _ _⟩
/-- A round has been. -/
theorem It.round (hB : Bd B tb text m J) (h : It B Ls ls J pre bl v xs W) {pre' : List (Nat × List UInt8)} {bl' : List Nat} (hj : J pre' bl' W') (hs : ∀ b, B ≤ b → b < W.heap.size → b ∉ bl → W'.heap[b]? = W.heap[b]?) : It B Ls ls J pre' bl' (.slice none 0 0) [] W' :=
  ⟨hj, (hs Ls h.le h.lt (h.lsn hB)).trans h.ls, h.le, World.ownsRowF_nil _ _ _ _⟩
theorem It.line (h : It B Ls ls J pre bl v xs W) {i : Nat} {l : List UInt8} (hl : ls[i]? = some l) : W.cell? ⟨Ls, i, none⟩ = some (.string (bs l)) := by
  simp only [World.cell?, h.ls]
  simp [hl]
end
/-- How much there is to be read. -/
def tot : List (List UInt8) → Nat
  | [] => 0
  | l :: ls => l.length + 1 + tot ls
theorem tot_drop {ls : List (List UInt8)} {i : Nat} {l : List UInt8} (h : ls[i]? = some l) : tot (ls.drop i) = l.length + 1 + tot (ls.drop (i + 1)) := by
  obtain ⟨hi, e⟩ := List.getElem?_eq_some_iff.1 h
  rw [List.drop_eq_getElem_cons hi, e]; rfl
theorem wholes_cons {ls : List (List UInt8)} {i b : Nat} {w : List UInt8} {l : List UInt8} (h : ls[i]? = some l) : wholesL (ls.drop i) i b w = wholesL (l :: ls.drop (i + 1)) i b w := by
  obtain ⟨hi, e⟩ := List.getElem?_eq_some_iff.1 h
  rw [List.drop_eq_getElem_cons hi, e]
theorem infoU8 : (Tryd.prog.info? 5).map (fun i => (i.zero, i.size, i.bytes)) = some (some (.int .u8 0), 1, 1) := by kernel_rfl
end Go.Proofs.YtokeepmlibolfaaDoor.Ln
