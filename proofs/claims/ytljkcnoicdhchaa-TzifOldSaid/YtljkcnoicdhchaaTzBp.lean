/-
  Layer 6 (tzif): rows of types of the call's own; a zone of the call's own.
-/
import Derived.Test.YtljkcnoicdhchaaTzZ
import Derived.Test.YtljkcnoicdhchaaTzBi
namespace Go.Proofs.Ytljkcnoicdhchaa.Tz
open Go.RowKit

theorem tp_info : (Try.prog.info? 54).map (fun i => (i.zero, i.size, i.bytes)) = some (some (.agg #[.int .i64 0, .bool false, .string ⟨#[]⟩]), 3, 32) := by kernel_rfl
/-- A row of the program's types, of the call's own. -/
def OwnY (w : World) (base : Nat) (v : Value) (l : List Ty) : Prop := w.ownsRow base 54 3 v l.length (l.flatMap tyCells)
section
variable {w w' : World} {base : Nat} {v : Value} {l : List Ty}
theorem OwnY.keep (h : OwnY w base v l) (hb : Below w.heap.size w w') : OwnY w' base v l :=
  World.ownsRow.kept h (row := none) ⟨hb.os, hb.tape, hb.output, hb.size, fun k hk _ => hb.block k hk⟩ (by cases hv : v.ownBlock <;> simp)
theorem OwnY.alloc (h : OwnY w base v l) (o : Obj) : OwnY (w.alloc o) base v l := World.ownsRow.alloc h o
theorem OwnY.lt (h : OwnY w base v l) (k : Nat) (hk : v.ownBlock = some k) : base ≤ k ∧ k < w.heap.size := World.ownsRow.lt h k hk
theorem OwnY.other {g : Nat} (h : OwnY w base v l) (hg : w.grownBy w' (some g)) (hb : g < base) : OwnY w' base v l :=
  World.ownsRow.kept h hg (by
    cases hv : v.ownBlock with
    | none => exact .inl rfl
    | some k => exact .inr (fun e => by injection e with e; have := (h.lt k hv).1; omega))
theorem OwnY.set (h : OwnY w base v l) {g : Nat} (hg : g < base) (i : Nat) (u : Value) : OwnY (w.setCell ⟨g, i, none⟩ u) base v l := h.other (grown_set w g i u) hg
theorem OwnY.form (h : OwnY w base v l) : ∃ A c, v = .slice A l.length c := by
  rcases h.2 with ⟨rfl, h0⟩ | ⟨g, cap, cur, rfl, _⟩
  · exact ⟨none, 0, by rw [h0]⟩
  · exact ⟨_, _, rfl⟩
theorem OwnY.lower {b : Nat} (h : OwnY w base v l) (hc : b ≤ base) : OwnY w b v l := by
  refine ⟨h.1, ?_⟩
  rcases h.2 with h0 | ⟨g, cap, cur, e, hbg, h⟩
  · exact .inl h0
  · exact .inr ⟨g, cap, cur, e, Nat.le_trans hc hbg, h⟩
theorem OwnI.lower {te : TypeId} {xs : List Int} {b : Nat} (h : OwnI w base te v xs) (hc : b ≤ base) : OwnI w b te v xs := by
  refine ⟨h.1, ?_⟩
  rcases h.2 with h0 | ⟨g, cap, cur, e, hbg, h⟩
  · exact .inl h0
  · exact .inr ⟨g, cap, cur, e, Nat.le_trans hc hbg, h⟩
theorem OwnY.sl (h : OwnY w base v l) {B : Nat} (hB : w.heap.size ≤ B) : Sl w B 3 v (l.map tyCells) := by
  refine ⟨?_, fun j row hj => ?_⟩
  · obtain ⟨A, c, e⟩ := h.form
    exact ⟨A, c, by rw [List.length_map]; exact e⟩
  · rw [List.getElem?_map] at hj
    cases hx : l[j]? with
    | none => rw [hx] at hj; cases hj
    | some t =>
      rw [hx] at hj
      have e : row = tyCells t := by injection hj with hj; exact hj.symm
      subst e
      have hlt : j < l.length := (List.getElem?_eq_some_iff.1 hx).1
      obtain ⟨g, cap, cur, rfl, hg⟩ : ∃ g cap cur, v = .slice (some ⟨g, 0, none⟩) l.length cap ∧ w.heap[g]? = some (.cells cur 54 (0, 0)) := by
        rcases h.2 with ⟨_, h0⟩ | ⟨g, cap, cur, e, hbg, hg, _⟩
        · omega
        · exact ⟨g, cap, cur, e, hg⟩
      have hgl := (Array.getElem?_eq_some_iff.1 hg).1
      refine ⟨g, 0, cap, by rw [List.length_map], by omega, fun k u hu => ?_⟩
      have := World.ownsRow.cells h (g := g) rfl (j * 3 + k) u (flat_ty hx hu)
      rw [Own_add] at this
      rw [Nat.zero_add]; exact this
theorem growY_below {w w' : World} {base B : Nat} {v v' : Value} {l : List Ty} (h : OwnY w base v l) (hg : Grew w w' v v') (hB : B ≤ base) (hS : B ≤ w.heap.size) : Below B w w' :=
  ⟨hg.gr.os, hg.gr.tape, hg.gr.output, hg.gr.size, fun k hk => hg.gr.block k (by omega) (fun e => by have := (h.lt k e.symm).1; omega)⟩
end
set_option maxRecDepth 100000 in
theorem plain_append_ty {ops : Array Oper} {rest : List Oper} {o : Oper} {a : Act} {w : World} {Q : Exit → Act → World → Prop} (s x : Operand) (hgd : o.guard = none)
    (ho : o.op = .call { callee := .builtin .append, args := #[s, x], argTypes := #[22, 22] }) (base n : Nat) (v : Value) (l : List Ty) (r : Ty) (g : Nat)
    (hs : a.eval s = v) (hx : a.eval x = .slice (some ⟨g, 0, none⟩) 1 1) (hown : OwnY w base v l) (hz : ∀ j u, (tyCells r)[j]? = some u → w.cell? ((⟨g, 0, none⟩ : Addr).add j) = some u) (hlen : l.length ≤ 1000000) (hbase : base ≤ w.heap.size) (hn : l.length + 1 = n)
    (h : ∀ A c w', OwnY w' base (.slice A n c) (l ++ [r]) → Grew w w' v (.slice A n c) → wpList Try.prog ops Q rest (a.put o.dst (.slice A n c)) w') : wpList Try.prog ops Q (o :: rest) a w := by
  obtain ⟨i, hi, hz0, hz1, hz2⟩ := info_parts tp_info
  refine wpList_append_own_at w hgd s x 22 ho base 54 i _ 3 32 Try.underlying22 hi hz0 hz1 hz2 rfl (by decide) v l.length (l.flatMap tyCells) hs hown ⟨g, 0, none⟩ 1 1 (tyCells r) hx (by simp [tyCells]) hz (by simp [tyCells, Value.oneCell']) (by unfold maxLen; omega) (by omega) hbase ?_
  intro v' w' hown' hgr _ hat
  have hO : OwnY w' base v' (l ++ [r]) := by
    unfold OwnY
    rw [List.length_append, List.flatMap_append]
    simpa using hown'
  obtain ⟨A, c, e⟩ := hO.form
  rw [List.length_append, List.length_singleton, hn] at e
  subst e
  exact h A c w' hO ⟨hgr, hat.imp id fun e => ⟨_, e, Nat.le_refl _⟩⟩
/-! ### A zone of the call's own -/
structure ZnOwn (w : World) (base : Nat) (z : Zn) (vt vs vi : Value) : Prop where
  types : OwnY w base vt z.types
  times : OwnI w base 2 vs z.times
  index : OwnI w base 3 vi z.index
section
variable {w w' : World} {base : Nat} {z : Zn} {vt vs vi : Value}
theorem ZnOwn.keep (h : ZnOwn w base z vt vs vi) (hb : Below w.heap.size w w') : ZnOwn w' base z vt vs vi := ⟨h.types.keep hb, h.times.keep hb, h.index.keep hb⟩
theorem ZnOwn.other {g : Nat} (h : ZnOwn w base z vt vs vi) (hg : w.grownBy w' (some g)) (hb : g < base) : ZnOwn w' base z vt vs vi := ⟨h.types.other hg hb, h.times.other hg hb, h.index.other hg hb⟩
theorem ZnOwn.set (h : ZnOwn w base z vt vs vi) {g : Nat} (hg : g < base) (i : Nat) (u : Value) : ZnOwn (w.setCell ⟨g, i, none⟩ u) base z vt vs vi := h.other (grown_set w g i u) hg
theorem ZnOwn.at_ (h : ZnOwn w base z vt vs vi) : ZnAt w w.heap.size z vt vs vi := ⟨h.types.sl (Nat.le_refl _), h.times.sl (Nat.le_refl _), h.index.sl (Nat.le_refl _)⟩
theorem ZnOwn.lower {b : Nat} (h : ZnOwn w base z vt vs vi) (hc : b ≤ base) : ZnOwn w b z vt vs vi := ⟨h.types.lower hc, h.times.lower hc, h.index.lower hc⟩
theorem ZnOwn.foot (h : ZnOwn w base z vt vs vi) (f : ByteArray) : ZnOwn w base { z with footer := f } vt vs vi := ⟨h.types, h.times, h.index⟩
/-- In its own blocks, and no others: a block that is not among them may be written. -/
theorem ZnOwn.apart (h : ZnOwn w base z vt vs vi) {g : Nat} (hg : w.grownBy w' (some g)) (hv : vt.ownBlock ≠ some g ∧ vs.ownBlock ≠ some g ∧ vi.ownBlock ≠ some g) : ZnOwn w' base z vt vs vi :=
  ⟨World.ownsRow.kept h.types hg (.inr hv.1), World.ownsRow.kept h.times hg (.inr hv.2.1), World.ownsRow.kept h.index hg (.inr hv.2.2)⟩
end
end Go.Proofs.Ytljkcnoicdhchaa.Tz
