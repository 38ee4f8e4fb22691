/-
  Layer 11 (lines): one more is found, or wrong: the append.
-/
import Derived.Test.YtokeepmlibolfaaDoorLnMs
namespace Go.Proofs.YtokeepmlibolfaaDoor.Ln
open Go.RowKit

theorem cells_row (W : World) (cs : List Value) (t : TypeId) : ∀ j u, cs[j]? = some u → (W.alloc (.cells cs.toArray t)).cell? ((⟨W.heap.size, 0, none⟩ : Addr).add j) = some u := fun j u h => by
  have e : (⟨W.heap.size, 0, none⟩ : Addr).add j = ⟨W.heap.size, j, none⟩ := by unfold Addr.add; simp; intro h; exact h.symm
  rw [e]
  have := World.alloc_heap_new W (.cells cs.toArray t)
  simp only [World.cell?, this]
  simpa using h
section
variable {F : Fence} {n' : Nat} {ops : Array Oper} {rest : List Oper} {o : Oper} {a : Act} {Q : Exit → Act → World → Prop} {w W V : World} {B : Nat} {text : List UInt8} {lp : Loop} {bl : List Nat} {c1 c2 v1 v2 : Value} {st : Fs}
theorem wpIn_appD (hg : o.guard = none) (s x : Operand) (hop : o.op = Op.call { callee := Callee.builtin Builtin.append, args := #[s, x], argTypes := #[25, 25] }) (h : Ms w B text lp W bl c1 c2 v1 v2 st V) (hv : ∀ b, v2.ownBlock = some b → b ∈ bl) (d : Nat × Int) (hlen : st.wrong.length ≤ 1000001) (hs : a.eval s = v2) (hx : a.eval x = .slice (some ⟨V.heap.size, 0, none⟩) 1 1)
    (hK : ∀ g cap w', Ms w B text lp W bl c1 c2 v1 (.slice (some ⟨g, 0, none⟩) (st.wrong.length + 1) cap) ⟨st.found, st.wrong ++ [d], st.sec⟩ w' → wpListIn F n' Tryd.prog ops Q rest (a.put o.dst (.slice (some ⟨g, 0, none⟩) (st.wrong.length + 1) cap)) w') :
    wpListIn F n' Tryd.prog ops Q (o :: rest) a (V.alloc (.cells #[.int .i64 d.1, .int .i64 d.2] 39)) := by
  obtain ⟨i2, hi2, hz2, hs2, hb2⟩ := info_parts infoD
  have h' := h.alloc (.cells #[.int .i64 d.1, .int .i64 d.2] 39)
  refine wpListIn_append_own _ hg s x 25 hop (B + 6) 39 i2 _ 2 16 Tryd.underlying25 hi2 hz2 hs2 hb2 rfl (by decide) v2 st.wrong.length (rowD st) hs h'.o2 ⟨V.heap.size, 0, none⟩ 1 1 (diagC d) hx rfl (cells_row V (diagC d) _) (by intro u hu; simp [diagC] at hu; rcases hu with rfl | rfl <;> rfl) (by unfold maxLen; omega) (by omega) h'.size ?_
  intro v' w' ho hg' _
  obtain ⟨g, cap, rfl⟩ := ownsRow_succ ho
  exact hK g cap w' (h'.app2 hv d hg' ho)
theorem wpIn_appL (hg : o.guard = none) (s x : Operand) (hop : o.op = Op.call { callee := Callee.builtin Builtin.append, args := #[s, x], argTypes := #[24, 24] }) (h : Ms w B text lp W bl c1 c2 v1 v2 st V) (hv : ∀ b, v1.ownBlock = some b → b ∈ bl) (d : Nat × List UInt8 × List UInt8 × List UInt8) (hlen : st.found.length ≤ 1000001) (hs : a.eval s = v1) (hx : a.eval x = .slice (some ⟨V.heap.size, 0, none⟩) 1 1)
    (hK : ∀ g cap w', Ms w B text lp W bl c1 c2 (.slice (some ⟨g, 0, none⟩) (st.found.length + 1) cap) v2 ⟨st.found ++ [d], st.wrong, st.sec⟩ w' → wpListIn F n' Tryd.prog ops Q rest (a.put o.dst (.slice (some ⟨g, 0, none⟩) (st.found.length + 1) cap)) w') :
    wpListIn F n' Tryd.prog ops Q (o :: rest) a (V.alloc (.cells #[.int .i64 d.1, .string (bs d.2.1), .string (bs d.2.2.1), .string (bs d.2.2.2)] 33)) := by
  obtain ⟨i2, hi2, hz2, hs2, hb2⟩ := info_parts infoL
  have h' := h.alloc (.cells #[.int .i64 d.1, .string (bs d.2.1), .string (bs d.2.2.1), .string (bs d.2.2.2)] 33)
  refine wpListIn_append_own _ hg s x 24 hop (B + 6) 33 i2 _ 4 56 Tryd.underlying24 hi2 hz2 hs2 hb2 rfl (by decide) v1 st.found.length (rowL st) hs h'.o1 ⟨V.heap.size, 0, none⟩ 1 1 (lineC d) hx rfl (cells_row V (lineC d) _) (by intro u hu; simp [lineC] at hu; rcases hu with rfl | rfl | rfl | rfl <;> rfl) (by unfold maxLen; omega) (by omega) h'.size ?_
  intro v' w' ho hg' _
  obtain ⟨g, cap, rfl⟩ := ownsRow_succ ho
  exact hK g cap w' (h'.app1 hv d hg' ho)
end
end Go.Proofs.YtokeepmlibolfaaDoor.Ln
