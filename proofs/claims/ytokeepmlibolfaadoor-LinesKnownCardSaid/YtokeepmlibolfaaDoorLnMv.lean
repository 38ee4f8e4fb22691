/-
  Layer 11 (lines): rows of two calls beside each other, the first one being written; texts that come in.
-/
import Derived.Test.YtokeepmlibolfaaDoorLnBytes
import Derived.Test.YtokeepmlibolfaaDoorLnPass
import Derived.Deep.Strs
namespace Go.Proofs.YtokeepmlibolfaaDoor.Ln
open Go.ChangeShapes Go.WideShapes Go.ChangeAt Go.RowKit

/-- A row of texts that came in. -/
def StrRow (W : World) (A : Option Addr) (os : List (List UInt8)) : Prop := ∀ i o, os[i]? = some o → ∃ a, A = some a ∧ a.block < W.heap.size ∧ W.cell? (a.add i) = some (.string (bs o))
theorem block_add (a : Addr) (j : Nat) : (a.add j).block = a.block := by unfold Addr.add; split <;> rfl
theorem StrRow.keep {W W' : World} {A : Option Addr} {os : List (List UInt8)} (h : StrRow W A os) (hb : Below W.heap.size W W') : StrRow W' A os := fun i o hi => by
  obtain ⟨a, h1, h2, h3⟩ := h i o hi
  exact ⟨a, h1, Nat.lt_of_lt_of_le h2 hb.size, (hb.cell (by rw [block_add]; exact h2)).trans h3⟩
section
variable {H : Type} {enc : TypeId × Value → H} {w : World} {base b0 : Nat} {held : Bool} {r : Reach} {v : Value} {d : DataW H} {p : List MemPlace}
theorem str_cells : Tryd.prog.cellsOf 9 = 1 := by kernel_rfl
theorem open_strs_row (hv : Value.okWide Tryd.prog w r b0 41 v) (h : DataW.Trod enc Tryd.prog w base (fun _ => true) held 41 v d p) :
    ∃ (A : Option Addr) (n c : Nat) (os : List (List UInt8)), v = .slice A n c ∧ os.length = n ∧ (∀ o ∈ os, o.length ≤ maxLen) ∧ StrRow w A os := by
  obtain ⟨a0, len, cap, rfl⟩ := okWide_slice Tryd.underlying41 hv
  obtain ⟨fuel, hf⟩ := h
  rcases Go.Deep.open_strs Tryd.underlying41 Tryd.underlying9 str_cells hf with ⟨hcs, _⟩ | ⟨a, len', cap', m, Sx, hcs, _, hl, _, hm, _, hx⟩
  · simp [Value.cells] at hcs
    obtain ⟨rfl, rfl, rfl⟩ := hcs
    exact ⟨none, 0, 0, [], rfl, rfl, (fun o ho => by cases ho), (fun i o hi => by simp at hi)⟩
  · simp [Value.cells] at hcs
    obtain ⟨rfl, rfl, rfl⟩ := hcs
    have hml : len ≤ m := by rw [hm]; simp; exact hl
    refine ⟨some a, len, cap, (List.range len).map fun i => (Sx i).data.toList, rfl, by simp, fun o ho => ?_, fun i o hi => ?_⟩
    · obtain ⟨i, hi, rfl⟩ := List.mem_map.mp ho
      have := (hx i (by have := List.mem_range.mp hi; omega)).2
      simpa using this
    · rw [List.getElem?_map] at hi
      cases hr : (List.range len)[i]? with
      | none => rw [hr] at hi; cases hi
      | some j =>
        rw [hr] at hi
        have hil : i < len := by have := (List.getElem?_eq_some_iff.1 hr).1; simpa using this
        have hj : j = i := by
          rw [List.getElem?_eq_getElem (by simpa using hil)] at hr
          simpa using hr.symm
        subst hj
        cases hi
        have hc := (hx j (by omega)).1
        refine ⟨a, rfl, ?_, ?_⟩
        · have := block_lt_of_cell hc
          rwa [block_add] at this
        · rw [hc, bs_of]
end
/-- A row that is the call's own, with its block. -/
def RowB (W : World) (B : Nat) (t : TypeId) (p : Option Addr) (sz : Nat) (xs : List (List Value)) : Prop := ∀ i cs, xs[i]? = some cs → ∃ g, p = some ⟨g, 0, none⟩ ∧ B ≤ g ∧ g < W.heap.size ∧ (∃ cur, W.heap[g]? = some (.cells cur t (0, 0))) ∧ ∀ j u, cs[j]? = some u → W.cell? ⟨g, i * sz + j, none⟩ = some u
theorem row_b {W : World} {base sz : Nat} {e : TypeId} {v : Value} {xs : List (List Value)} (h : W.ownsRow base e sz v xs.length xs.flatten) (hs : ∀ x ∈ xs, x.length = sz) : ∃ p c, v = .slice p xs.length c ∧ RowB W base e p sz xs := by
  rcases Nat.eq_zero_or_pos xs.length with h0 | h0
  · rw [h0] at h
    obtain ⟨p, c, rfl⟩ := row_none h
    refine ⟨p, c, by rw [h0], fun i cs hi => ?_⟩
    have := lt_of_get hi
    omega
  · have h' := h
    obtain ⟨g, cap, rfl, hb, hg, hc⟩ := row_some h h0
    obtain ⟨_, hk⟩ := own_kind h' (g := g) rfl
    exact ⟨_, cap, rfl, fun i cs hi => ⟨g, rfl, hb, hg, hk, fun j u hj => hc _ _ (flat_get hs hi hj)⟩⟩
theorem lines_b {W : World} {base : Nat} {v : Value} {s : Fs} (h : W.ownsRow base 33 4 v s.found.length (rowL s)) : ∃ p c, v = .slice p s.found.length c ∧ RowB W base 33 p 4 (s.found.map lineC) := by
  have e : rowL s = (s.found.map lineC).flatten := flat_map lineC s.found
  rw [e] at h
  have := row_b (xs := s.found.map lineC) (by rw [List.length_map]; exact h) (fun x hx => by obtain ⟨y, _, rfl⟩ := List.mem_map.1 hx; rfl)
  rw [List.length_map] at this
  exact this
theorem diags_b {W : World} {base : Nat} {v : Value} {s : Fs} (h : W.ownsRow base 39 2 v s.wrong.length (rowD s)) : ∃ p c, v = .slice p s.wrong.length c ∧ RowB W base 39 p 2 (s.wrong.map diagC) := by
  have e : rowD s = (s.wrong.map diagC).flatten := flat_map diagC s.wrong
  rw [e] at h
  have := row_b (xs := s.wrong.map diagC) (by rw [List.length_map]; exact h) (fun x hx => by obtain ⟨y, _, rfl⟩ := List.mem_map.1 hx; rfl)
  rw [List.length_map] at this
  exact this
theorem RowB.keep {W W' : World} {B : Nat} {t : TypeId} {p : Option Addr} {sz : Nat} {xs : List (List Value)} (h : RowB W B t p sz xs) (hb : Below W.heap.size W W') : RowB W' B t p sz xs := fun i cs hi => by
  obtain ⟨g, h1, h2, h3, ⟨cur, h4⟩, h5⟩ := h i cs hi
  exact ⟨g, h1, h2, Nat.lt_of_lt_of_le h3 hb.size, ⟨cur, (hb.block g h3).trans h4⟩, fun j u hj => (hb.cell (p := ⟨g, i * sz + j, none⟩) h3).trans (h5 j u hj)⟩
/-- A row that is written element by element (its first cells): those from k on are as they were, and all other blocks. -/
structure Mv (W : World) (B : Nat) (t : TypeId) (p : Option Addr) (sz : Nat) (xs : List (List Value)) (k : Nat) (V : World) : Prop where
  os : V.os = W.os
  tape : V.tape = W.tape
  output : V.output = W.output
  size : W.heap.size ≤ V.heap.size
  oth : ∀ b, b < W.heap.size → (p ≠ some ⟨b, 0, none⟩ ∨ xs = []) → V.heap[b]? = W.heap[b]?
  row : ∀ j cs, k ≤ j → xs[j]? = some cs → ∃ g, p = some ⟨g, 0, none⟩ ∧ B ≤ g ∧ g < W.heap.size ∧ (∃ cur, V.heap[g]? = some (.cells cur t (0, 0))) ∧ ∀ q u, cs[q]? = some u → V.cell? ⟨g, j * sz + q, none⟩ = some u
theorem Mv.start {W : World} {B : Nat} {t : TypeId} {p : Option Addr} {sz : Nat} {xs : List (List Value)} (h : RowB W B t p sz xs) : Mv W B t p sz xs 0 W := ⟨rfl, rfl, rfl, Nat.le_refl _, fun _ _ _ => rfl, fun j cs _ hj => h j cs hj⟩
theorem Mv.drewN {W V : World} {B : Nat} {t : TypeId} {p : Option Addr} {sz k : Nat} {xs : List (List Value)} (h : Mv W B t p sz xs k V) (n : Nat) : Mv W B t p sz xs k (V.drewN n) := ⟨h.os, h.tape, h.output, h.size, h.oth, h.row⟩
theorem Mv.set {W V : World} {B : Nat} {t : TypeId} {sz k g : Nat} {xs : List (List Value)} (h : Mv W B t (some ⟨g, 0, none⟩) sz xs k V) (hsz : 0 < sz) {ck : List Value} (hk : xs[k]? = some ck) (v : Value) : Mv W B t (some ⟨g, 0, none⟩) sz xs (k + 1) (V.setCell ⟨g, k * sz, none⟩ v) where
  os := h.os
  tape := h.tape
  output := h.output
  size := by have := h.size; simp; exact this
  oth := fun b hb hne => by
    rcases hne with hne | hne
    · exact (Below.heap_setCell V ⟨g, k * sz, none⟩ v b (fun e => hne (by rw [e]))).trans (h.oth b hb (.inl hne))
    · rw [hne] at hk; simp at hk
  row := fun j cs hj hcs => by
    obtain ⟨g', e, h1, h2, ⟨cur, h3⟩, h4⟩ := h.row j cs (by omega) hcs
    have e : g = g' := by injection e with e; injection e
    subst e
    refine ⟨g, rfl, h1, h2, ⟨cur.setIfInBounds (k * sz) v, ?_⟩, fun q u hq => ?_⟩
    · have hs : (V.setCell ⟨g, k * sz, none⟩ v).heap[g]? = some (.cells (cur.setIfInBounds (k * sz) v) t (0, 0)) := by simp [World.setCell, Array.getElem?_modify, h3]
      exact hs
    · have hne : j * sz + q ≠ k * sz := by
        have : (k + 1) * sz ≤ j * sz := Nat.mul_le_mul_right _ hj
        rw [Nat.add_mul] at this
        omega
      refine (World.cell?_setCell_other (w := V) (a := ⟨g, k * sz, none⟩) (b := ⟨g, j * sz + q, none⟩) (v := v) (h := fun e => hne ?_)).trans (h4 q u hq)
      injection e with _ e _
      exact e.symm
theorem Mv.rowB {W V : World} {B B' : Nat} {t t' : TypeId} {p p' : Option Addr} {sz sz' k : Nat} {xs xs' : List (List Value)} (h : Mv W B t p sz xs k V) (r : RowB W B' t' p' sz' xs') (hne : ∀ g, p = some ⟨g, 0, none⟩ → xs ≠ [] → xs' ≠ [] → p' ≠ some ⟨g, 0, none⟩) : RowB V B' t' p' sz' xs' := fun i cs hi => by
  obtain ⟨g, h1, h2, h3, ⟨cur, h4⟩, h5⟩ := r i cs hi
  have hx' : xs' ≠ [] := fun e => by rw [e] at hi; simp at hi
  have hb := h.oth g h3 (by
    by_cases hp : p = some ⟨g, 0, none⟩
    · by_cases hx : xs = []
      · exact .inr hx
      · exact absurd h1 (hne g hp hx hx')
    · exact .inl hp)
  exact ⟨g, h1, h2, Nat.lt_of_lt_of_le h3 h.size, ⟨cur, hb.trans h4⟩, fun j u hj => (World.cell?_of_block (a := ⟨g, i * sz' + j, none⟩) hb).trans (h5 j u hj)⟩
/-- Rows of unlike types lie apart. -/
theorem apart_rows {W : World} {B B' : Nat} {t t' : TypeId} {p p' : Option Addr} {sz sz' : Nat} {xs xs' : List (List Value)} (r : RowB W B t p sz xs) (r' : RowB W B' t' p' sz' xs') (ht : t ≠ t') : ∀ g, p = some ⟨g, 0, none⟩ → xs ≠ [] → xs' ≠ [] → p' ≠ some ⟨g, 0, none⟩ := fun g hp hx hx' hp' => by
  cases xs with
  | nil => exact hx rfl
  | cons a xs =>
    cases xs' with
    | nil => exact hx' rfl
    | cons a' xs' =>
      obtain ⟨g1, e1, _, _, ⟨c1, k1⟩, _⟩ := r 0 a rfl
      obtain ⟨g2, e2, _, _, ⟨c2, k2⟩, _⟩ := r' 0 a' rfl
      rw [hp] at e1
      rw [hp'] at e2
      cases e1
      cases e2
      rw [k1] at k2
      injection k2 with k2
      injection k2 with _ k2 _
      exact ht k2
theorem apart_old {W W' : World} {B B' : Nat} {t t' : TypeId} {p p' : Option Addr} {sz sz' : Nat} {xs xs' : List (List Value)} (r : RowB W B t p sz xs) (r' : RowB W' B' t' p' sz' xs') (hB : W.heap.size ≤ B') : ∀ g, p = some ⟨g, 0, none⟩ → xs ≠ [] → xs' ≠ [] → p' ≠ some ⟨g, 0, none⟩ := fun g hp hx hx' hp' => by
  cases xs with
  | nil => exact hx rfl
  | cons a xs =>
    cases xs' with
    | nil => exact hx' rfl
    | cons a' xs' =>
      obtain ⟨g1, e1, _, h1, _⟩ := r 0 a rfl
      obtain ⟨g2, e2, h2, _⟩ := r' 0 a' rfl
      rw [hp] at e1
      rw [hp'] at e2
      cases e1
      cases e2
      omega
theorem Mv.below {W V : World} {B C : Nat} {t : TypeId} {p : Option Addr} {sz k : Nat} {xs : List (List Value)} (h : Mv W B t p sz xs k V) (r : RowB W B t p sz xs) (hC : C ≤ B) (hW : C ≤ W.heap.size) : Below C W V :=
  ⟨h.os, h.tape, h.output, h.size, fun b hb => h.oth b (by omega) (by
    by_cases hx : xs = []
    · exact .inr hx
    · refine .inl fun e => ?_
      cases xs with
      | nil => exact hx rfl
      | cons a xs =>
        obtain ⟨g, e1, h1, _⟩ := r 0 a rfl
        rw [e] at e1
        cases e1
        omega)⟩
/-- Numbers are no more than the lines are. -/
theorem nums_le : ∀ (ls : List (List UInt8)) (i b : Nat) (w : List UInt8), b ≤ i → ∀ y ∈ wholesL ls i b w, y.1 ≤ i + ls.length
  | [], i, b, w, hb, y, hy => by
    rw [wholesL] at hy
    split at hy
    · cases hy
    · rw [List.mem_singleton.mp hy]; show b ≤ _; omega
  | l :: ls, i, b, w, hb, y, hy => by
    rw [wholesL] at hy
    rw [List.length_cons]
    split at hy
    · have := nums_le ls (i + 1) b w (by omega) y hy; omega
    · split at hy
      · have := nums_le ls (i + 1) _ _ (by split <;> omega) y hy; omega
      · rcases List.mem_cons.mp hy with rfl | hy
        · show (if b = 0 then i + 1 else b) ≤ _
          split <;> omega
        · have := nums_le ls (i + 1) 0 [] (by omega) y hy; omega
theorem fold_nums (M : Nat) : ∀ (p : List (Nat × List UInt8)) (s : Fs), (∀ y ∈ p, y.1 ≤ M) → (∀ e ∈ s.found, e.1 ≤ M) → (∀ e ∈ s.wrong, e.1 ≤ M) → (∀ e ∈ (p.foldl pstep s).found, e.1 ≤ M) ∧ ∀ e ∈ (p.foldl pstep s).wrong, e.1 ≤ M
  | [], _, _, h1, h2 => ⟨h1, h2⟩
  | x :: p, s, hp, h1, h2 => by
    have hx := hp x (by simp)
    refine fold_nums M p (pstep s x) (fun y hy => hp y (List.mem_cons_of_mem x hy)) ?_ ?_
    · intro e he
      unfold pstep at he
      repeat' split at he
      all_goals first
        | exact h1 e he
        | (rcases List.mem_append.1 he with he | he
           · exact h1 e he
           · rw [List.mem_singleton.1 he]; exact hx)
    · intro e he
      unfold pstep at he
      repeat' split at he
      all_goals first
        | exact h2 e he
        | (rcases List.mem_append.1 he with he | he
           · exact h2 e he
           · rw [List.mem_singleton.1 he]; exact hx)
theorem parse_nums (text : List UInt8) (h : text.length ≤ 65536) : (∀ e ∈ (parseL text).found, e.1 ≤ 1000001) ∧ ∀ e ∈ (parseL text).wrong, e.1 ≤ 1000001 := by
  have h4 : ∀ l : List (List UInt8), l.length ≤ tot l := fun l => by
    induction l with
    | nil => exact Nat.le_refl _
    | cons a l ih => show l.length + 1 ≤ a.length + 1 + tot l; omega
  have h5 := h4 (linesL text)
  have h3 := tot_lines text (by omega)
  exact fold_nums 1000001 (wholesL (linesL text) 0 0 []) ⟨[], [], []⟩ (fun y hy => by have := nums_le (linesL text) 0 0 [] (Nat.le_refl _) y hy; omega) (fun e he => by cases he) (fun e he => by cases he)
end Go.Proofs.YtokeepmlibolfaaDoor.Ln
