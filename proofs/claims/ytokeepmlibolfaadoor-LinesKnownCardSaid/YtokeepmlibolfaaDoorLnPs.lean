/-
  Layer 11 (lines): what Parse keeps from whole line to whole line.
-/
import Derived.Test.YtokeepmlibolfaaDoorLnIter
namespace Go.Proofs.YtokeepmlibolfaaDoor.Ln
open Go.RowKit

/-- What is found, what is wrong, which section is in force. -/
structure Fs where
  found : List (Nat × List UInt8 × List UInt8 × List UInt8)
  wrong : List (Nat × Int)
  sec : List UInt8
def pstep (s : Fs) (x : Nat × List UInt8) : Fs :=
  if 4096 < x.2.length then ⟨s.found, s.wrong ++ [(x.1, 3)], s.sec⟩
  else if asgB x.2 && !s.sec.isEmpty then ⟨s.found ++ [(x.1, s.sec, asgK x.2, asgV x.2)], s.wrong, s.sec⟩
  else if Lib.hasPrefix x.2 [91] then (if (nameL x.2).isEmpty then ⟨s.found, s.wrong ++ [(x.1, 110)], nameL x.2⟩ else ⟨s.found, s.wrong, nameL x.2⟩)
  else ⟨s.found, s.wrong ++ [(x.1, 110)], s.sec⟩
def pfold (pre : List (Nat × List UInt8)) : Fs := pre.foldl pstep ⟨[], [], []⟩
theorem pfold_snoc (pre : List (Nat × List UInt8)) (x : Nat × List UInt8) : pfold (pre ++ [x]) = pstep (pfold pre) x := by unfold pfold; rw [List.foldl_append]; rfl
theorem pstep_len (s : Fs) (x : Nat × List UInt8) : (pstep s x).found.length + (pstep s x).wrong.length ≤ s.found.length + s.wrong.length + 1 := by
  unfold pstep
  repeat' split
  all_goals (simp only [List.length_append, List.length_cons, List.length_nil]; omega)
theorem pfold_le : ∀ (pre : List (Nat × List UInt8)) (s : Fs), (pre.foldl pstep s).found.length + (pre.foldl pstep s).wrong.length ≤ s.found.length + s.wrong.length + pre.length
  | [], s => Nat.le_refl _
  | x :: pre, s => by
    have h1 := pfold_le pre (pstep s x)
    have h2 := pstep_len s x
    show (pre.foldl pstep (pstep s x)).found.length + (pre.foldl pstep (pstep s x)).wrong.length ≤ _
    rw [List.length_cons]; omega
theorem pfold_len (pre : List (Nat × List UInt8)) : (pfold pre).found.length + (pfold pre).wrong.length ≤ pre.length := by
  have h : (pfold pre).found.length + (pfold pre).wrong.length ≤ 0 + 0 + pre.length := pfold_le pre ⟨[], [], []⟩
  omega
def lineC (l : Nat × List UInt8 × List UInt8 × List UInt8) : List Value := [.int .i64 l.1, .string (bs l.2.1), .string (bs l.2.2.1), .string (bs l.2.2.2)]
def diagC (d : Nat × Int) : List Value := [.int .i64 d.1, .int .i64 d.2]
abbrev rowL (s : Fs) : List Value := s.found.flatMap lineC
abbrev rowD (s : Fs) : List Value := s.wrong.flatMap diagC
theorem infoL : (Tryd.prog.info? 33).map (fun i => (i.zero, i.size, i.bytes)) = some (some (.agg #[.int .i64 0, .string ⟨#[]⟩, .string ⟨#[]⟩, .string ⟨#[]⟩]), 4, 56) := by kernel_rfl
theorem infoD : (Tryd.prog.info? 39).map (fun i => (i.zero, i.size, i.bytes)) = some (some (.agg #[.int .i64 0, .int .i64 0]), 2, 16) := by kernel_rfl
theorem own_kind {W : World} {base size n : Nat} {e : TypeId} {v : Value} {xs : List Value} (h : W.ownsRow base e size v n xs) {g : Nat} (hg : v.ownBlock = some g) : base ≤ g ∧ ∃ cur, W.heap[g]? = some (.cells cur e (0, 0)) := by
  rcases h.2 with ⟨rfl, _⟩ | ⟨g', cap, cur, rfl, hb, hc, _⟩
  · cases hg
  · cases hg; exact ⟨hb, cur, hc⟩
/-- The loop's record. -/
def recL (fn : FuncId) (tmps : Array Value) (assign body : Code) (D : Nat) (st : LoopState) (pe : Option Code) : Loop := { state := st, pending := pe, fn, tmps, params := #[20, 21], assign, body, defers := D }
/-- Between two whole lines. -/
structure Ps (w : World) (B : Nat) (text : List UInt8) (rec : LoopState → Option Code → Loop) (pre : List (Nat × List UInt8)) (bl : List Nat) (W : World) : Prop where
  ex : ∃ v1 v2, W.heap[B]? = some (.cells #[v1] 24 (0, 0)) ∧ W.heap[B + 1]? = some (.cells #[v2] 25 (0, 0)) ∧ W.ownsRow (B + 6) 33 4 v1 (pfold pre).found.length (rowL (pfold pre)) ∧ W.ownsRow (B + 6) 39 2 v2 (pfold pre).wrong.length (rowD (pfold pre)) ∧ ∀ b, b ∈ bl ↔ (v1.ownBlock = some b ∨ v2.ownBlock = some b)
  sec : W.heap[B + 2]? = some (.cells #[.string (bs (pfold pre).sec)] 9 (0, 0))
  box : W.heap[B + 3]? = some (.cells #[.string (bs text)] 9 (0, 0))
  D : W.heap[B + 4]? = some (.deferred (some []))
  L : W.heap[B + 5]? = some (.loop (rec .ready none))
  below : Below B w W
theorem box_cell {W : World} {g : Nat} {v : Value} {t : TypeId} (h : W.heap[g]? = some (.cells #[v] t (0, 0))) : W.cell? ⟨g, 0, none⟩ = some v ∧ W.frozen? ⟨g, 0, none⟩ = false := by
  constructor
  · simp [World.cell?, h]
  · simp [World.frozen?, h]
theorem box_set {W : World} {g : Nat} {v u : Value} {t : TypeId} (h : W.heap[g]? = some (.cells #[v] t (0, 0))) : (W.setCell ⟨g, 0, none⟩ u).heap[g]? = some (.cells #[u] t (0, 0)) := by
  simp [World.setCell, Array.getElem?_modify, h]
theorem ps_bd {w : World} {B : Nat} {text : List UInt8} {rec : LoopState → Option Code → Loop} {m : Int} (hm : w.cell? ⟨0, 0, none⟩ = some (.int .i64 m)) (hB : 0 < B) : Bd (B + 6) (B + 3) text m (Ps w B text rec) where
  abide := by
    intro pre bl W W' row h hg hr
    have hs : B + 5 < W.heap.size := (Array.getElem?_eq_some_iff.1 h.L).1
    have hk : ∀ k, k < B + 6 → W'.heap[k]? = W.heap[k]? := fun k hk => hg.block k (by omega) (fun e => by have := (hr k e.symm).1; omega)
    obtain ⟨v1, v2, h1, h2, o1, o2, hbl⟩ := h.ex
    have hk1 : v1.ownBlock = none ∨ v1.ownBlock ≠ row := by
      cases hv : v1.ownBlock with
      | none => exact .inl rfl
      | some g => exact .inr fun e => (hr g e.symm).2 ((hbl g).2 (.inl hv))
    have hk2 : v2.ownBlock = none ∨ v2.ownBlock ≠ row := by
      cases hv : v2.ownBlock with
      | none => exact .inl rfl
      | some g => exact .inr fun e => (hr g e.symm).2 ((hbl g).2 (.inr hv))
    exact ⟨⟨v1, v2, (hk B (by omega)).trans h1, (hk _ (by omega)).trans h2, o1.kept hg hk1, o2.kept hg hk2, hbl⟩, (hk _ (by omega)).trans h.sec, (hk _ (by omega)).trans h.box, (hk _ (by omega)).trans h.D, (hk _ (by omega)).trans h.L, h.below.grown hg (by omega) fun k e => by have := (hr k e).1; omega⟩
  kind := by
    intro pre bl W h b hb
    obtain ⟨v1, v2, h1, h2, o1, o2, hbl⟩ := h.ex
    rcases (hbl b).1 hb with e | e
    · obtain ⟨_, cur, hc⟩ := own_kind o1 e
      exact ⟨cur, _, _, hc, by decide, by decide⟩
    · obtain ⟨_, cur, hc⟩ := own_kind o2 e
      exact ⟨cur, _, _, hc, by decide, by decide⟩
  cell := fun h => (box_cell h.box).1
  lim := fun h => (h.below.cell (p := ⟨0, 0, none⟩) hB).trans hm
  size := fun h => (Array.getElem?_eq_some_iff.1 h.L).1
/-- Behind the loop. -/
structure Pe (w : World) (B : Nat) (s : Fs) (W : World) : Prop where
  ex : ∃ v1 v2, W.heap[B]? = some (.cells #[v1] 24 (0, 0)) ∧ W.heap[B + 1]? = some (.cells #[v2] 25 (0, 0)) ∧ W.ownsRow (B + 6) 33 4 v1 s.found.length (rowL s) ∧ W.ownsRow (B + 6) 39 2 v2 s.wrong.length (rowD s)
  D : W.heap[B + 4]? = some (.deferred (some []))
  below : Below B w W
theorem pe_put {w W : World} {B : Nat} {text : List UInt8} {rec : LoopState → Option Code → Loop} {pre : List (Nat × List UInt8)} {bl : List Nat} (h : Ps w B text rec pre bl W) (o : Obj) : Pe w B (pfold pre) (W.putObj (B + 5) o) := by
  have hs : B + 5 < W.heap.size := (Array.getElem?_eq_some_iff.1 h.L).1
  have hk : ∀ k, k ≠ B + 5 → (W.putObj (B + 5) o).heap[k]? = W.heap[k]? := fun k hk => World.putObj_heap_other hk
  obtain ⟨v1, v2, h1, h2, o1, o2, _⟩ := h.ex
  have hg := grownBy_putObj' W (B + 5) o
  have hn : ∀ {v : Value} {e : TypeId} {sz n : Nat} {xs : List Value}, W.ownsRow (B + 6) e sz v n xs → v.ownBlock = none ∨ v.ownBlock ≠ some (B + 5) := fun {v e sz n xs} ho => by
    cases hv : v.ownBlock with
    | none => exact .inl rfl
    | some g => exact .inr fun e => by cases e; have := (own_kind ho hv).1; omega
  exact ⟨⟨v1, v2, (hk B (by omega)).trans h1, (hk _ (by omega)).trans h2, o1.kept hg (hn o1), o2.kept hg (hn o2)⟩, (hk _ (by omega)).trans h.D, h.below.grown hg (by omega) fun k e => by cases e; omega⟩
end Go.Proofs.YtokeepmlibolfaaDoor.Ln
