/-
  Layer 11 (lines): within a round.
-/
import Derived.Test.YtokeepmlibolfaaDoorLnLoop
namespace Go.Proofs.YtokeepmlibolfaaDoor.Ln
open Go.RowKit

theorem tot_split : ∀ (k : Nat) (s : List UInt8), tot (Lib.splitK [10] 0 k s) ≤ s.length + k + 1
  | 0, s => by show s.length + 1 + 0 ≤ _; omega
  | k + 1, s => by
    unfold Lib.splitK
    split
    · show s.length + 1 + 0 ≤ _; omega
    · have ih := tot_split k (s.drop ((Lib.index s [10]).toNat + 1))
      show (s.take ((Lib.index s [10]).toNat + 0)).length + 1 + tot (Lib.splitK [10] 0 k (s.drop ((Lib.index s [10]).toNat + 1))) ≤ _
      rw [List.length_drop] at ih
      rw [List.length_take]
      omega
theorem tot_lines (l : List UInt8) (h : l.length ≤ 100000) : tot (linesL l) ≤ 1000000 := by
  have h1 := tot_split (Lib.count l [10]) l
  have h2 := Lib.countB_le (bs [10]) (by decide) l.length (bs l) (Nat.le_refl _)
  have e : Lib.countB (bs l) (bs [10]) = Lib.count l [10] := by unfold Lib.countB; rw [bs_list, bs_list]
  rw [e, bs_size] at h2
  unfold linesL Lib.split
  omega
/-- Within a round: what the cells hold (c1, c2), the rows (v1, v2). -/
structure Ms (w : World) (B : Nat) (text : List UInt8) (lp : Loop) (W : World) (bl : List Nat) (c1 c2 v1 v2 : Value) (s : Fs) (U : World) : Prop where
  f1 : U.heap[B]? = some (.cells #[c1] 24 (0, 0))
  f2 : U.heap[B + 1]? = some (.cells #[c2] 25 (0, 0))
  sec : U.heap[B + 2]? = some (.cells #[.string (bs s.sec)] 9 (0, 0))
  box : U.heap[B + 3]? = some (.cells #[.string (bs text)] 9 (0, 0))
  D : U.heap[B + 4]? = some (.deferred (some []))
  L : U.heap[B + 5]? = some (.loop lp)
  o1 : U.ownsRow (B + 6) 33 4 v1 s.found.length (rowL s)
  o2 : U.ownsRow (B + 6) 39 2 v2 s.wrong.length (rowD s)
  below : Below B w U
  far : W.heap.size ≤ U.heap.size ∧ ∀ b, B + 6 ≤ b → b < W.heap.size → b ∉ bl → U.heap[b]? = W.heap[b]?
section
variable {w W U U' : World} {B : Nat} {text : List UInt8} {lp : Loop} {bl : List Nat} {c1 c2 v1 v2 : Value} {s : Fs}
theorem Ms.size (h : Ms w B text lp W bl c1 c2 v1 v2 s U) : B + 6 ≤ U.heap.size := (Array.getElem?_eq_some_iff.1 h.L).1
theorem Ms.grow (h : Ms w B text lp W bl c1 c2 v1 v2 s U) (hg : U.grownBy U' none) : Ms w B text lp W bl c1 c2 v1 v2 s U' := by
  have hz := h.size
  have hk : ∀ k, k < B + 6 → U'.heap[k]? = U.heap[k]? := fun k hk => hg.block k (by omega) (by simp)
  have hn : ∀ v : Value, v.ownBlock = none ∨ v.ownBlock ≠ none := fun v => by cases v.ownBlock <;> simp
  exact ⟨(hk _ (by omega)).trans h.f1, (hk _ (by omega)).trans h.f2, (hk _ (by omega)).trans h.sec, (hk _ (by omega)).trans h.box, (hk _ (by omega)).trans h.D, (hk _ (by omega)).trans h.L, h.o1.kept hg (hn _), h.o2.kept hg (hn _), h.below.grown hg (by omega) (fun k e => by cases e), Nat.le_trans h.far.1 hg.size, fun b a1 a2 a3 => (hg.block b (by have := h.far.1; omega) (by simp)).trans (h.far.2 b a1 a2 a3)⟩
theorem Ms.keep (h : Ms w B text lp W bl c1 c2 v1 v2 s U) (hb : Below U.heap.size U U') : Ms w B text lp W bl c1 c2 v1 v2 s U' := h.grow (grown_of hb)
theorem Ms.alloc (h : Ms w B text lp W bl c1 c2 v1 v2 s U) (o : Obj) : Ms w B text lp W bl c1 c2 v1 v2 s (U.alloc o) := h.grow (World.grownBy_alloc U o none)
/-- A store into one of the three. -/
theorem Ms.put1 (h : Ms w B text lp W bl c1 c2 v1 v2 s U) (c : Value) : Ms w B text lp W bl c c2 v1 v2 s (U.setCell ⟨B, 0, none⟩ c) := by
  have hz := h.size
  have hk : ∀ k, k ≠ B → (U.setCell ⟨B, 0, none⟩ c).heap[k]? = U.heap[k]? := fun k hk => Below.heap_setCell U ⟨B, 0, none⟩ c k hk
  have hg : U.grownBy (U.setCell ⟨B, 0, none⟩ c) (some B) := ⟨rfl, rfl, rfl, by simp, fun k _ hk2 => hk k (fun e => hk2 (by rw [e]))⟩
  have hn : ∀ {v : Value} {e : TypeId} {sz n : Nat} {xs : List Value}, U.ownsRow (B + 6) e sz v n xs → v.ownBlock = none ∨ v.ownBlock ≠ some B := fun {v e sz n xs} ho => by
    cases hv : v.ownBlock with
    | none => exact .inl rfl
    | some g => exact .inr fun e => by cases e; have := (own_kind ho hv).1; omega
  exact ⟨box_set h.f1, (hk _ (by omega)).trans h.f2, (hk _ (by omega)).trans h.sec, (hk _ (by omega)).trans h.box, (hk _ (by omega)).trans h.D, (hk _ (by omega)).trans h.L, h.o1.kept hg (hn h.o1), h.o2.kept hg (hn h.o2), h.below.setCell (p := ⟨B, 0, none⟩) (Nat.le_refl _) _, by simpa using h.far.1, fun b a1 a2 a3 => (hk b (by omega)).trans (h.far.2 b a1 a2 a3)⟩
theorem Ms.put2 (h : Ms w B text lp W bl c1 c2 v1 v2 s U) (c : Value) : Ms w B text lp W bl c1 c v1 v2 s (U.setCell ⟨B + 1, 0, none⟩ c) := by
  have hz := h.size
  have hk : ∀ k, k ≠ B + 1 → (U.setCell ⟨B + 1, 0, none⟩ c).heap[k]? = U.heap[k]? := fun k hk => Below.heap_setCell U ⟨B + 1, 0, none⟩ c k hk
  have hg : U.grownBy (U.setCell ⟨B + 1, 0, none⟩ c) (some (B + 1)) := ⟨rfl, rfl, rfl, by simp, fun k _ hk2 => hk k (fun e => hk2 (by rw [e]))⟩
  have hn : ∀ {v : Value} {e : TypeId} {sz n : Nat} {xs : List Value}, U.ownsRow (B + 6) e sz v n xs → v.ownBlock = none ∨ v.ownBlock ≠ some (B + 1) := fun {v e sz n xs} ho => by
    cases hv : v.ownBlock with
    | none => exact .inl rfl
    | some g => exact .inr fun e => by cases e; have := (own_kind ho hv).1; omega
  exact ⟨(hk _ (by omega)).trans h.f1, box_set h.f2, (hk _ (by omega)).trans h.sec, (hk _ (by omega)).trans h.box, (hk _ (by omega)).trans h.D, (hk _ (by omega)).trans h.L, h.o1.kept hg (hn h.o1), h.o2.kept hg (hn h.o2), h.below.setCell (p := ⟨B + 1, 0, none⟩) (Nat.le_succ _) _, by simpa using h.far.1, fun b a1 a2 a3 => (hk b (by omega)).trans (h.far.2 b a1 a2 a3)⟩
theorem Ms.put3 (h : Ms w B text lp W bl c1 c2 v1 v2 s U) (n : List UInt8) : Ms w B text lp W bl c1 c2 v1 v2 ⟨s.found, s.wrong, n⟩ (U.setCell ⟨B + 2, 0, none⟩ (.string (bs n))) := by
  have hz := h.size
  have hk : ∀ k, k ≠ B + 2 → (U.setCell ⟨B + 2, 0, none⟩ (.string (bs n))).heap[k]? = U.heap[k]? := fun k hk => Below.heap_setCell U ⟨B + 2, 0, none⟩ _ k hk
  have hg : U.grownBy (U.setCell ⟨B + 2, 0, none⟩ (.string (bs n))) (some (B + 2)) := ⟨rfl, rfl, rfl, by simp, fun k _ hk2 => hk k (fun e => hk2 (by rw [e]))⟩
  have hn : ∀ {v : Value} {e : TypeId} {sz n : Nat} {xs : List Value}, U.ownsRow (B + 6) e sz v n xs → v.ownBlock = none ∨ v.ownBlock ≠ some (B + 2) := fun {v e sz n xs} ho => by
    cases hv : v.ownBlock with
    | none => exact .inl rfl
    | some g => exact .inr fun e => by cases e; have := (own_kind ho hv).1; omega
  exact ⟨(hk _ (by omega)).trans h.f1, (hk _ (by omega)).trans h.f2, box_set h.sec, (hk _ (by omega)).trans h.box, (hk _ (by omega)).trans h.D, (hk _ (by omega)).trans h.L, h.o1.kept hg (hn h.o1), h.o2.kept hg (hn h.o2), h.below.setCell (p := ⟨B + 2, 0, none⟩) (by show B ≤ B + 2; omega) _, by simpa using h.far.1, fun b a1 a2 a3 => (hk b (by omega)).trans (h.far.2 b a1 a2 a3)⟩
/-- One more is found; one more is wrong. -/
theorem Ms.app1 (h : Ms w B text lp W bl c1 c2 v1 v2 s U) (hv : ∀ b, v1.ownBlock = some b → b ∈ bl) {v : Value} (l : Nat × List UInt8 × List UInt8 × List UInt8) (hg : U.grownBy U' v1.ownBlock) (ho : U'.ownsRow (B + 6) 33 4 v (s.found.length + 1) (rowL s ++ lineC l)) : Ms w B text lp W bl c1 c2 v v2 ⟨s.found ++ [l], s.wrong, s.sec⟩ U' := by
  have hz := h.size
  have hl := fun b e => (own_kind h.o1 (g := b) e).1
  have hk : ∀ k, k < B + 6 → U'.heap[k]? = U.heap[k]? := fun k hk => hg.block k (by omega) (fun e => by have := hl k e.symm; omega)
  have hn : v2.ownBlock = none ∨ v2.ownBlock ≠ v1.ownBlock := by
    cases h2 : v2.ownBlock with
    | none => exact .inl rfl
    | some g =>
      refine .inr fun e => ?_
      obtain ⟨_, cur, x1⟩ := own_kind h.o2 h2
      obtain ⟨_, cur', x2⟩ := own_kind h.o1 e.symm
      rw [x1] at x2
      simp at x2
  exact ⟨(hk _ (by omega)).trans h.f1, (hk _ (by omega)).trans h.f2, (hk _ (by omega)).trans h.sec, (hk _ (by omega)).trans h.box, (hk _ (by omega)).trans h.D, (hk _ (by omega)).trans h.L, by simpa [rowL] using ho, h.o2.kept hg hn, h.below.grown hg (by omega) (fun k e => by have := hl k e; omega), Nat.le_trans h.far.1 hg.size, fun b a1 a2 a3 => (hg.block b (by have := h.far.1; omega) (fun e => a3 (hv b e.symm))).trans (h.far.2 b a1 a2 a3)⟩
theorem Ms.app2 (h : Ms w B text lp W bl c1 c2 v1 v2 s U) (hv : ∀ b, v2.ownBlock = some b → b ∈ bl) {v : Value} (d : Nat × Int) (hg : U.grownBy U' v2.ownBlock) (ho : U'.ownsRow (B + 6) 39 2 v (s.wrong.length + 1) (rowD s ++ diagC d)) : Ms w B text lp W bl c1 c2 v1 v ⟨s.found, s.wrong ++ [d], s.sec⟩ U' := by
  have hz := h.size
  have hl := fun b e => (own_kind h.o2 (g := b) e).1
  have hk : ∀ k, k < B + 6 → U'.heap[k]? = U.heap[k]? := fun k hk => hg.block k (by omega) (fun e => by have := hl k e.symm; omega)
  have hn : v1.ownBlock = none ∨ v1.ownBlock ≠ v2.ownBlock := by
    cases h2 : v1.ownBlock with
    | none => exact .inl rfl
    | some g =>
      refine .inr fun e => ?_
      obtain ⟨_, cur, x1⟩ := own_kind h.o1 h2
      obtain ⟨_, cur', x2⟩ := own_kind h.o2 e.symm
      rw [x1] at x2
      simp at x2
  exact ⟨(hk _ (by omega)).trans h.f1, (hk _ (by omega)).trans h.f2, (hk _ (by omega)).trans h.sec, (hk _ (by omega)).trans h.box, (hk _ (by omega)).trans h.D, (hk _ (by omega)).trans h.L, h.o1.kept hg hn, by simpa [rowD] using ho, h.below.grown hg (by omega) (fun k e => by have := hl k e; omega), Nat.le_trans h.far.1 hg.size, fun b a1 a2 a3 => (hg.block b (by have := h.far.1; omega) (fun e => a3 (hv b e.symm))).trans (h.far.2 b a1 a2 a3)⟩
end
/-- The round's end. -/
theorem ms_end {w W U : World} {B : Nat} {text : List UInt8} {rec : LoopState → Option Code → Loop} {bl : List Nat} {v1 v2 : Value} {s : Fs} {pre : List (Nat × List UInt8)} {x : Nat × List UInt8} (hrec : ∀ st pe, { rec .ready none with state := st, pending := pe } = rec st pe) (h : Ms w B text { rec .ready none with state := .busy } W bl v1 v2 v1 v2 s U) (hs : pfold (pre ++ [x]) = s) :
    ∃ v w', (Instr.endRound (B + 5) none).run Tryd.prog U = .ok v w' ∧ (Ending.returned v = .returned (.bool true) ∧ ∃ bl', Ps w B text rec (pre ++ [x]) bl' w' ∧ ∀ b, B + 6 ≤ b → b < W.heap.size → b ∉ bl → w'.heap[b]? = W.heap[b]?) := by
  have hz := h.size
  refine ⟨_, _, run_endRound none h.L, rfl, v1.ownBlock.toList ++ v2.ownBlock.toList, ?_, ?_⟩
  · have e1 : ({ { rec .ready none with state := .busy } with state := if (none : Option Code).isNone then .ready else .done, pending := none } : Loop) = rec .ready none := hrec .ready none
    rw [e1]
    have hk : ∀ k, k ≠ B + 5 → (U.putObj (B + 5) (.loop (rec .ready none))).heap[k]? = U.heap[k]? := fun k hk => World.putObj_heap_other hk
    have hg := grownBy_putObj' U (B + 5) (.loop (rec .ready none))
    have hn : ∀ {v : Value} {e : TypeId} {sz n : Nat} {xs : List Value}, U.ownsRow (B + 6) e sz v n xs → v.ownBlock = none ∨ v.ownBlock ≠ some (B + 5) := fun {v e sz n xs} ho => by
      cases hv : v.ownBlock with
      | none => exact .inl rfl
      | some g => exact .inr fun e => by cases e; have := (own_kind ho hv).1; omega
    refine ⟨⟨v1, v2, (hk _ (by omega)).trans h.f1, (hk _ (by omega)).trans h.f2, ?_, ?_, fun b => by simp [List.mem_append, Option.mem_toList]⟩, ?_, (hk _ (by omega)).trans h.box, (hk _ (by omega)).trans h.D, World.putObj_heap_same (by omega), h.below.grown hg (by omega) (fun k e => by cases e; omega)⟩
    · rw [hs]; exact h.o1.kept hg (hn h.o1)
    · rw [hs]; exact h.o2.kept hg (hn h.o2)
    · rw [hs]; exact (hk _ (by omega)).trans h.sec
  · intro b a1 a2 a3
    exact (World.putObj_heap_other (by omega)).trans (h.far.2 b a1 a2 a3)
/-- The round's begin. -/
theorem ms_begin {w W : World} {B : Nat} {text : List UInt8} {rec : LoopState → Option Code → Loop} {bl : List Nat} {pre : List (Nat × List UInt8)} (h : Ps w B text rec pre bl W) : ∃ v1 v2, (∀ b, v1.ownBlock = some b → b ∈ bl) ∧ (∀ b, v2.ownBlock = some b → b ∈ bl) ∧ Ms w B text { rec .ready none with state := .busy } W bl v1 v2 v1 v2 (pfold pre) (W.putObj (B + 5) (.loop { rec .ready none with state := .busy })) := by
  obtain ⟨v1, v2, h1, h2, o1, o2, hbl⟩ := h.ex
  have hz : B + 5 < W.heap.size := (Array.getElem?_eq_some_iff.1 h.L).1
  have hk : ∀ k, k ≠ B + 5 → (W.putObj (B + 5) (.loop { rec .ready none with state := .busy })).heap[k]? = W.heap[k]? := fun k hk => World.putObj_heap_other hk
  have hg := grownBy_putObj' W (B + 5) (.loop { rec .ready none with state := .busy })
  have hn : ∀ {v : Value} {e : TypeId} {sz n : Nat} {xs : List Value}, W.ownsRow (B + 6) e sz v n xs → v.ownBlock = none ∨ v.ownBlock ≠ some (B + 5) := fun {v e sz n xs} ho => by
    cases hv : v.ownBlock with
    | none => exact .inl rfl
    | some g => exact .inr fun e => by cases e; have := (own_kind ho hv).1; omega
  exact ⟨v1, v2, fun b e => (hbl b).2 (.inl e), fun b e => (hbl b).2 (.inr e), (hk _ (by omega)).trans h1, (hk _ (by omega)).trans h2, (hk _ (by omega)).trans h.sec, (hk _ (by omega)).trans h.box, (hk _ (by omega)).trans h.D, World.putObj_heap_same hz, o1.kept hg (hn o1), o2.kept hg (hn o2), h.below.grown hg (by omega) (fun k e => by cases e; omega), by simp, fun b a1 _ _ => hk b (by omega)⟩
end Go.Proofs.YtokeepmlibolfaaDoor.Ln
