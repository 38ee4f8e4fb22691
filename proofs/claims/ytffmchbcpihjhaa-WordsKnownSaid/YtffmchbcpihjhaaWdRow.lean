/-
  Layer 12 (words): rows of bytes of one's own (as at layers 5 and 11).
-/
import Derived.Test.YtffmchbcpihjhaaWdEscd
import Derived.OrdersHeld
import Derived.Tactics
import Derived.KernelRfl
import Derived.Deep.AppendLies
import Derived.Laws.BytesArg
namespace Go.Proofs.Ytffmchbcpihjhaa.Wd
open Go.RowKit
set_option maxRecDepth 100000

/-- A slice whose whole block is known to be its own: its elements (s cells each). -/
def OwnR (w : World) (base : Nat) (t : TypeId) (s : Nat) (v : Value) (xs : List (List Value)) : Prop := w.ownsRow base t s v xs.length xs.flatten ∧ ∀ x ∈ xs, x.length = s
section
variable {w w' : World} {base : Nat} {t : TypeId} {s : Nat} {v : Value} {xs : List (List Value)}
theorem OwnR.nil (w : World) (base : Nat) (t : TypeId) (s : Nat) : OwnR w base t s (.slice none 0 0) [] := ⟨World.ownsRow_nil w base t s, fun x hx => by cases hx⟩
theorem OwnR.kept {row : Option Nat} (h : OwnR w base t s v xs) (hg : w.grownBy w' row) (hne : v.ownBlock = none ∨ v.ownBlock ≠ row) : OwnR w' base t s v xs := ⟨World.ownsRow.kept h.1 hg hne, h.2⟩
theorem OwnR.keep (h : OwnR w base t s v xs) (hb : Below w.heap.size w w') : OwnR w' base t s v xs :=
  h.kept (row := none) ⟨hb.os, hb.tape, hb.output, hb.size, fun k hk _ => hb.block k hk⟩ (by cases hv : v.ownBlock <;> simp)
theorem OwnR.alloc (h : OwnR w base t s v xs) (o : Obj) : OwnR (w.alloc o) base t s v xs := ⟨World.ownsRow.alloc h.1 o, h.2⟩
theorem OwnR.mono {base' : Nat} (h : OwnR w base t s v xs) (hb : base' ≤ base) : OwnR w base' t s v xs :=
  ⟨⟨h.1.1, h.1.2.imp id fun ⟨g, cap, cur, h1, h2, h3⟩ => ⟨g, cap, cur, h1, Nat.le_trans hb h2, h3⟩⟩, h.2⟩
theorem OwnR.lt (h : OwnR w base t s v xs) (k : Nat) (hk : v.ownBlock = some k) : base ≤ k ∧ k < w.heap.size := World.ownsRow.lt h.1 k hk
theorem OwnR.below (h : OwnR w base t s v xs) {B : Nat} (hg : w.grownBy w' v.ownBlock) (hB : B ≤ base) (hS : B ≤ w.heap.size) : Below B w w' :=
  ⟨hg.os, hg.tape, hg.output, hg.size, fun k hk => hg.block k (by omega) (fun e => by have := (h.lt k e.symm).1; omega)⟩
end
/-- One element more. -/
theorem plain_append_one {P : Program} {ops : Array Oper} {rest : List Oper} {o : Oper} {a : Act} {w : World} {Q : Exit → Act → World → Prop} (s x : Operand) (hgd : o.guard = none) (T e : TypeId) (sz bytes : Nat) (z : Value)
    (ho : o.op = .call { callee := .builtin .append, args := #[s, x], argTypes := #[T, T] }) (hT : P.underlying T = some (.slice e)) (hi : (P.info? e).map (fun i => (i.zero, i.size, i.bytes)) = some (some z, sz, bytes)) (hzs : z.cells.size = sz) (hsz : 0 < sz) (hby : bytes ≤ 100)
    (base : Nat) (v : Value) (xs : List (List Value)) (cs : List Value) (ad : Addr) (c : Nat)
    (hs : a.eval s = v) (hx : a.eval x = .slice (some ad) 1 c) (hown : OwnR w base e sz v xs) (hcl : cs.length = sz) (hz : ∀ j u, cs[j]? = some u → w.cell? (ad.add j) = some u) (h1 : ∀ u ∈ cs, u.oneCell' = true) (hlen : xs.length ≤ 100000000) (hbase : base ≤ w.heap.size)
    (h : ∀ v' w', OwnR w' base e sz v' (xs ++ [cs]) → w.grownBy w' v.ownBlock → (v'.ownBlock = v.ownBlock ∨ v'.ownBlock = some w.heap.size) → wpList P ops Q rest (a.put o.dst v') w') : wpList P ops Q (o :: rest) a w := by
  obtain ⟨i, hi', hz0, hz1, hz2⟩ := info_parts hi
  have hb : (xs.length + 1) * bytes ≤ (xs.length + 1) * 100 := Nat.mul_le_mul_left _ hby
  refine wpList_append_own_at w hgd s x T ho base e i z sz bytes hT hi' hz0 hz1 hz2 hzs hsz v xs.length xs.flatten hs hown.1 ad 1 c cs hx (by omega) hz h1 (by unfold maxLen; omega) (by omega) hbase ?_
  intro v' w' hown' hgr _ hat
  refine h v' w' ⟨?_, ?_⟩ hgr hat
  · rw [List.length_append, List.flatten_append, List.flatten_singleton]; exact hown'
  · intro y hy
    rcases List.mem_append.1 hy with hy | hy
    · exact hown.2 y hy
    · rw [List.mem_singleton.1 hy]; exact hcl
theorem new_cells (W : World) (g : Nat) (hg : W.heap.size = g) (cs : List Value) (t : TypeId) : ∀ j u, cs[j]? = some u → (W.alloc (.cells cs.toArray t)).cell? ((⟨g, 0, none⟩ : Addr).add j) = some u := by
  subst hg
  intro j u hj
  have hadd : (⟨W.heap.size, 0, none⟩ : Addr).add j = ⟨W.heap.size, j, none⟩ := by unfold Addr.add; split <;> simp_all
  have hn := heap_alloc_new W (.cells cs.toArray t)
  rw [hadd]
  simp only [World.cell?, hn]
  simpa using hj
/-- A row of none, a row of some. -/
theorem row_none {W : World} {base size : Nat} {e : TypeId} {v : Value} {xs : List Value} (h : W.ownsRow base e size v 0 xs) : ∃ p c, v = .slice p 0 c := by
  rcases h.2 with ⟨rfl, _⟩ | ⟨g, cap, cur, rfl, _⟩
  · exact ⟨_, _, rfl⟩
  · exact ⟨_, _, rfl⟩
theorem row_some {W : World} {base size n : Nat} {e : TypeId} {v : Value} {xs : List Value} (h : W.ownsRow base e size v n xs) (hn : 0 < n) : ∃ g cap, v = .slice (some ⟨g, 0, none⟩) n cap ∧ base ≤ g ∧ g < W.heap.size ∧ ∀ i u, xs[i]? = some u → W.cell? ⟨g, i, none⟩ = some u := by
  rcases h.2 with ⟨_, h0⟩ | ⟨g, cap, cur, rfl, hb, hg, _, _, _, ht⟩
  · omega
  · refine ⟨g, cap, rfl, hb, (Array.getElem?_eq_some_iff.1 hg).1, fun i u hu => ?_⟩
    rw [← ht] at hu
    have hi : i < n * size := by
      have := (List.getElem?_eq_some_iff.1 hu).1
      simp at this
      omega
    rw [List.getElem?_take, if_pos hi, Array.getElem?_toList] at hu
    simp only [World.cell?, hg]
    exact hu
theorem nums_bs (l : List UInt8) : strOfNums (l.map fun b => (b.toNat : Int)) = bs l := by
  unfold strOfNums
  rw [List.map_map]
  congr 2
  conv => rhs; rw [← List.map_id l]
  refine List.map_congr_left fun b _ => ?_
  simp
/-- Bytes that lie from an address on, as a text. -/
theorem conv_any (w : World) (a : Addr) (len cap : Nat) (l : List UInt8) (hlen : l.length = len) (hcell : ∀ i b, l[i]? = some b → w.cell? (a.add i) = some (.int .u8 (b.toNat : Int))) : (convert 35 9 (.slice (some a) len cap)).run Try.prog w = .ok (.string (bs l)) w := by
  have hl : (loadCells a len).run Try.prog w = .ok ((l.map fun b => (b.toNat : Int)).map (Value.int .u8)).toArray w := by
    have := run_loadCells_list (P := Try.prog) w a ((l.map fun b => (b.toNat : Int)).map (Value.int .u8)) (fun j v hj => by
      rw [List.getElem?_map, List.getElem?_map] at hj
      cases hb : l[j]? with
      | none => rw [hb] at hj; cases hj
      | some b => rw [hb] at hj; cases hj; exact hcell j b hb)
    simpa [hlen] using this
  rw [run_convert_bytes_string w 35 9 5 _ len cap Try.underlying35 Try.underlying5 Try.underlying9, run_bytesToString w _ len cap _ hl, foldl_push_bytes]
  rw [← nums_bs l]
  simp [strOfNums, ByteArray.empty, ByteArray.emptyWithCapacity]
  rfl
/-- A row of bytes. -/
def cellB (b : UInt8) : List Value := [.int .u8 (b.toNat : Int)]
theorem u8_info : (Try.prog.info? 5).map (fun i => (i.zero, i.size, i.bytes)) = some (some (.int .u8 0), 1, 1) := by kernel_rfl
theorem flat_b : ∀ l : List UInt8, (l.map cellB).flatten = l.map fun b => Value.int .u8 (b.toNat : Int)
  | [] => rfl
  | b :: l => by rw [List.map_cons, List.flatten_cons, flat_b l]; rfl
theorem own_text {W : World} {base : Nat} {v : Value} {l : List UInt8} (h : OwnR W base 5 1 v (l.map cellB)) : (convert 35 9 v).run Try.prog W = .ok (.string (bs l)) W := by
  have h1 := h.1
  rw [List.length_map, flat_b] at h1
  rcases Nat.eq_zero_or_pos l.length with h0 | h0
  · rw [h0] at h1
    obtain ⟨p, c, rfl⟩ := row_none h1
    obtain rfl := List.length_eq_zero_iff.mp h0
    cases p with
    | none => exact run_convert_bytes_nil W 35 5 Try.underlying35 Try.underlying5 0 c 9 Try.underlying9
    | some a => exact conv_any W a 0 c [] rfl (fun i b hi => by simp at hi)
  · obtain ⟨g, cap, rfl, _, _, hc⟩ := row_some h1 h0
    refine conv_any W ⟨g, 0, none⟩ l.length cap l rfl (fun i b hi => ?_)
    have hadd : (⟨g, 0, none⟩ : Addr).add i = ⟨g, i, none⟩ := by unfold Addr.add; split <;> simp_all
    rw [hadd]
    exact hc i _ (by rw [List.getElem?_map, hi]; rfl)
end Go.Proofs.Ytffmchbcpihjhaa.Wd
