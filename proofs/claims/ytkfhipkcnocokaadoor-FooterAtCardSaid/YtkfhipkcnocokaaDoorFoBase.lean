/-
  Layer 7 (footer): what lies in memory, from world to world.
-/
import Derived.WalkKit
import Derived.Below
import Derived.LoopTactic
import Derived.IntWalk
import Derived.Lib.Hide
import Derived.Deep.QuietTactic
import Derived.BigQuiet
import Derived.WalkSpells
import Derived.WalkLawsBesides
import Derived.Outline
import Derived.Deep.DeepCutAuto
import Derived.Deep.RegionLaw
import Derived.Lib.QuietBelow
import Derived.Handy
import Derived.ProofKit
import Derived.Test.YtkfhipkcnocokaaDoorProg
import Derived.Test.YtkfhipkcnocokaaDoorFoPlain
namespace Go.Proofs.YtkfhipkcnocokaaDoor.Fo
open Go.RowKit

theorem cells_at (g : Nat) {w V : World} {G : Nat} (h : Below G w V) (hg : g < G) {i : Nat} {u : Value} (hc : w.cell? ⟨g, i, none⟩ = some u) : V.cell? ⟨g, i, none⟩ = some u := (h.cell (p := ⟨g, i, none⟩) hg).trans hc
theorem cell_new (W : World) (C : Array Value) (t : TypeId) (g i : Nat) (u : Value) (hg : W.heap.size = g) (h : C[i]? = some u) : (W.alloc (.cells C t)).cell? ⟨g, i, none⟩ = some u := by
  subst hg; exact (World.cell?_alloc_mark W C t (0, 0) i).trans h
theorem cell_old (W : World) (o : Obj) (g i : Nat) (u : Value) (hg : g < W.heap.size) (h : W.cell? ⟨g, i, none⟩ = some u) : (W.alloc o).cell? ⟨g, i, none⟩ = some u := cells_at g ((Below.refl W.heap.size W).alloc (Nat.le_refl _) o) hg h
theorem cell_lt {w : World} {g i : Nat} {u : Value} (h : w.cell? ⟨g, i, none⟩ = some u) : g < w.heap.size := by
  refine Nat.lt_of_not_le fun hn => ?_
  have : w.heap[g]? = none := Array.getElem?_eq_none hn
  simp [World.cell?, this] at h
theorem gb_below {w V w' : World} {g : Nat} (h : w.grownBy V (some g)) (hb : Below w.heap.size V w') : w.grownBy w' (some g) :=
  ⟨hb.os.trans h.os, hb.tape.trans h.tape, hb.output.trans h.output, Nat.le_trans h.size hb.size, fun k hk hne => (hb.block k hk).trans (h.block k hk hne)⟩
theorem gb_of (w w' : World) (g : Nat) (hb : Below w.heap.size w w') : w.grownBy w' (some g) := gb_below (World.grownBy.refl _ _) hb
theorem grown_set (W : World) (g i : Nat) (u : Value) : W.grownBy (W.setCell ⟨g, i, none⟩ u) (some g) :=
  ⟨rfl, rfl, rfl, by simp, fun k _ hne => by simp only [World.setCell, Array.getElem?_modify]; rw [if_neg (fun e => hne (by rw [← e]))]⟩
theorem gb_cell {U V : World} {g k i : Nat} {u : Value} (h : U.grownBy V (some g)) (hk : k < U.heap.size) (hne : k ≠ g) (hc : U.cell? ⟨k, i, none⟩ = some u) : V.cell? ⟨k, i, none⟩ = some u :=
  (World.cell?_of_block (a := ⟨k, i, none⟩) (h.block k hk (fun e => by injection e with e; omega))).trans hc
theorem gb_frozen {U V : World} {g k i : Nat} (h : U.grownBy V (some g)) (hk : k < U.heap.size) (hne : k ≠ g) : V.frozen? ⟨k, i, none⟩ = U.frozen? ⟨k, i, none⟩ :=
  World.frozen?_of_block (a := ⟨k, i, none⟩) (h.block k hk (fun e => by injection e with e; omega))
theorem below_of_gb {U V : World} {G C : Nat} (h : U.grownBy V (some G)) (hC : C ≤ G) (hs : C ≤ U.heap.size) : Below C U V :=
  ⟨h.os, h.tape, h.output, h.size, fun k hk => h.block k (by omega) (fun e => by injection e with e; omega)⟩
theorem set_other {W : World} {g i j : Nat} {u : Value} (hij : i ≠ j) : (W.setCell ⟨g, i, none⟩ u).cell? ⟨g, j, none⟩ = W.cell? ⟨g, j, none⟩ := World.cell?_setCell_other _ _ _ _ (by rintro ⟨⟩; exact hij rfl)
theorem wp_world {P : Program} {c : Code} {Q : Exit → Act → World → Prop} {a : Act} {W : World} (R : World → Prop) (h : R W) (k : ∀ W, R W → Code.wp P c Q a W) : Code.wp P c Q a W := k W h
theorem quiet_mine {P : Program} {f : FuncId} {args : Array Value} {w : World} {n : Nat} {v : Value}
    (h : Calls P f args (w.drewN n) fun e w' => e = .returned v ∧ w.drewN n = w') : Calls P f args (w.drewN n) fun e w'' => e = .returned v ∧ ∃ m, w'' = w.drewN m :=
  h.mono fun _ _ ⟨he, hm⟩ => ⟨he, n, hm.symm⟩
theorem below_drewN {B : Nat} {a w : World} (h : Below B a w) : ∀ m, Below B a (w.drewN m)
  | 0 => h
  | m + 1 => (below_drewN h m).drew

/-- The reader, in block g: what is left, and whether it was wrong. -/
structure Rd (w : World) (g : Nat) (s : St) : Prop where
  c0 : w.cell? ⟨g, 0, none⟩ = some (.string (bs s.left))
  c1 : w.cell? ⟨g, 1, none⟩ = some (.bool s.wrong)
  fr : ∀ i, w.frozen? ⟨g, i, none⟩ = false
section
variable {w V : World} {g G : Nat} {s : St}
theorem Rd.lt (h : Rd w g s) : g < w.heap.size := cell_lt h.c0
theorem Rd.below (h : Rd w g s) (hb : Below G w V) (hg : g < G) : Rd V g s :=
  ⟨cells_at g hb hg h.c0, cells_at g hb hg h.c1, fun i => (hb.frozen (p := ⟨g, i, none⟩) hg).trans (h.fr i)⟩
theorem Rd.keep (h : Rd w g s) (hb : Below w.heap.size w V) : Rd V g s := h.below hb h.lt
theorem Rd.gb (h : Rd w g s) (hb : w.grownBy V (some G)) (hn : g ≠ G) : Rd V g s :=
  ⟨gb_cell hb h.lt hn h.c0, gb_cell hb h.lt hn h.c1, fun i => (gb_frozen hb h.lt hn).trans (h.fr i)⟩
theorem Rd.set0 (h : Rd w g s) (l : List UInt8) : Rd (w.setCell ⟨g, 0, none⟩ (.string (bs l))) g ⟨l, s.wrong⟩ :=
  ⟨World.cell?_setCell_same _ _ _ h.c0, (set_other (by decide)).trans h.c1, fun i => by rw [World.frozen?_setCell]; exact h.fr i⟩
theorem Rd.set1 (h : Rd w g s) (b : Bool) : Rd (w.setCell ⟨g, 1, none⟩ (.bool b)) g ⟨s.left, b⟩ :=
  ⟨(set_other (by decide)).trans h.c0, World.cell?_setCell_same _ _ _ h.c1, fun i => by rw [World.frozen?_setCell]; exact h.fr i⟩
end
end Go.Proofs.YtkfhipkcnocokaaDoor.Fo
