/-
  Layer 11 (lines): slices of one's own: rows of elements of several cells, appended to (as at layer 5).
-/
import Derived.Test.YtokeepmlibolfaaDoorLnRefS
import Derived.Test.YtokeepmlibolfaaDoorLnJoin
import Derived.OrdersHeld
import Derived.Tactics
import Derived.KernelRfl
import Derived.Deep.AppendLies
namespace Go.Proofs.YtokeepmlibolfaaDoor.Ln
open Go.RowKit

/-- A slice whose whole block is known to be its own: its elements (s cells each). -/
def OwnR (w : World) (base : Nat) (t : TypeId) (s : Nat) (v : Value) (xs : List (List Value)) : Prop := w.ownsRow base t s v xs.length xs.flatten ∧ ∀ x ∈ xs, x.length = s
section
variable {w w' : World} {base : Nat} {t : TypeId} {s : Nat} {v : Value} {xs : List (List Value)}
theorem OwnR.nil (w : World) (base : Nat) (t : TypeId) (s : Nat) : OwnR w base t s (.slice none 0 0) [] := ⟨World.ownsRow_nil w base t s, fun x hx => by cases hx⟩
theorem OwnR.kept {row : Option Nat} (h : OwnR w base t s v xs) (hg : w.grownBy w' row) (hne : v.ownBlock = none ∨ v.ownBlock ≠ row) : OwnR w' base t s v xs := ⟨World.ownsRow.kept h.1 hg hne, h.2⟩
theorem OwnR.keep (h : OwnR w base t s v xs) (hb : Below w.heap.size w w') : OwnR w' base t s v xs :=
  h.kept (row := none) ⟨hb.os, hb.tape, hb.output, hb.size, fun k hk _ => hb.block k hk⟩ (by cases hv : v.ownBlock <;> simp)
theorem OwnR.alloc (h : OwnR w base t s v xs) (o : Obj) : OwnR (w.alloc o) base t s v xs := ⟨World.ownsRow.alloc h.1 o, h.2⟩
theorem OwnR.mono {base' : Nat} (h : OwnR w base t s v xs) (hb : base' ≤ base) : OwnR w base' t s v xs :=
  ⟨⟨h.1.1, h.1.2.imp id fun ⟨g, cap, cur, h1, h2, h3⟩ => ⟨g, cap, cur, h1, Nat.le_trans hb h2, h3⟩⟩, h.2⟩
theorem OwnR.lt (h : OwnR w base t s v xs) (k : Nat) (hk : v.ownBlock = some k) : base ≤ k ∧ k < w.heap.size := World.ownsRow.lt h.1 k hk
theorem OwnR.below (h : OwnR w base t s v xs) {B : Nat} (hg : w.grownBy w' v.ownBlock) (hB : B ≤ base) (hS : B ≤ w.heap.size) : Below B w w' :=
  ⟨hg.os, hg.tape, hg.output, hg.size, fun k hk => hg.block k (by omega) (fun e => by have := (h.lt k e.symm).1; omega)⟩
end
/-- One element more. -/
theorem plain_append_one {P : Program} {ops : Array Oper} {rest : List Oper} {o : Oper} {a : Act} {w : World} {Q : Exit → Act → World → Prop} (s x : Operand) (hgd : o.guard = none) (T e : TypeId) (sz bytes : Nat) (z : Value)
    (ho : o.op = .call { callee := .builtin .append, args := #[s, x], argTypes := #[T, T] }) (hT : P.underlying T = some (.slice e)) (hi : (P.info? e).map (fun i => (i.zero, i.size, i.bytes)) = some (some z, sz, bytes)) (hzs : z.cells.size = sz) (hsz : 0 < sz) (hby : bytes ≤ 100)
    (base : Nat) (v : Value) (xs : List (List Value)) (cs : List Value) (ad : Addr) (c : Nat)
    (hs : a.eval s = v) (hx : a.eval x = .slice (some ad) 1 c) (hown : OwnR w base e sz v xs) (hcl : cs.length = sz) (hz : ∀ j u, cs[j]? = some u → w.cell? (ad.add j) = some u) (h1 : ∀ u ∈ cs, u.oneCell' = true) (hlen : xs.length ≤ 100000000) (hbase : base ≤ w.heap.size)
    (h : ∀ v' w', OwnR w' base e sz v' (xs ++ [cs]) → w.grownBy w' v.ownBlock → (v'.ownBlock = v.ownBlock ∨ v'.ownBlock = some w.heap.size) → wpList P ops Q rest (a.put o.dst v') w') : wpList P ops Q (o :: rest) a w := by
  obtain ⟨i, hi', hz0, hz1, hz2⟩ := info_parts hi
  have hb : (xs.length + 1) * bytes ≤ (xs.length + 1) * 100 := Nat.mul_le_mul_left _ hby
  refine wpList_append_own_at w hgd s x T ho base e i z sz bytes hT hi' hz0 hz1 hz2 hzs hsz v xs.length xs.flatten hs hown.1 ad 1 c cs hx (by omega) hz h1 (by unfold maxLen; omega) (by omega) hbase ?_
  intro v' w' hown' hgr _ hat
  refine h v' w' ⟨?_, ?_⟩ hgr hat
  · rw [List.length_append, List.flatten_append, List.flatten_singleton]; exact hown'
  · intro y hy
    rcases List.mem_append.1 hy with hy | hy
    · exact hown.2 y hy
    · rw [List.mem_singleton.1 hy]; exact hcl
theorem new_cells (W : World) (g : Nat) (hg : W.heap.size = g) (cs : List Value) (t : TypeId) : ∀ j u, cs[j]? = some u → (W.alloc (.cells cs.toArray t)).cell? ((⟨g, 0, none⟩ : Addr).add j) = some u := by
  subst hg
  intro j u hj
  have hadd : (⟨W.heap.size, 0, none⟩ : Addr).add j = ⟨W.heap.size, j, none⟩ := by unfold Addr.add; split <;> simp_all
  have hn := heap_alloc_new W (.cells cs.toArray t)
  rw [hadd]
  simp only [World.cell?, hn]
  simpa using hj
theorem str_info : (Tryd.prog.info? 9).map (fun i => (i.zero, i.size, i.bytes)) = some (some (.string ⟨#[]⟩), 1, 16) := by kernel_rfl
end Go.Proofs.YtokeepmlibolfaaDoor.Ln
