/-
  Layer 5: the program's file system and the document's, side by side.
-/
import Derived.Test.YtdbcjiapbehacaaGreatDoorVpI
import Derived.Test.YtdbcjiapbehacaaGreatDoorVpJ
import Derived.Test.YtdbcjiapbehacaaGreatDoorVpRow
import Derived.Test.YtdbcjiapbehacaaGreatDoorVfO
namespace Go.Proofs.YtdbcjiapbehacaaGreatDoor.Vp
open Go.RowKit Go.Maps
open Go.Proofs.YtdbcjiapbehacaaGreatDoor.Vf (Hold OwnR Owns Fs Dr Dv Moves Same own_ty hold_ty ret_int Moves.refl Moves.trans wp_region_mix wpMix_free wpMix_turn wpMix_end)

/-- The kinds of blocks that the document's side has. -/
def docT (t : TypeId) : Bool := t == 66 || t == 109 || t == 62 || t == 111 || t == 114
def Doc (W : World) (g : Nat) : Prop := ∃ cur t, W.heap[g]? = some (.cells cur t (0, 0)) ∧ docT t = true
theorem not_doc {W : World} {g : Nat} {cur : Array Value} {t : TypeId} {fr : Nat × Nat} (h : W.heap[g]? = some (.cells cur t fr)) (ht : docT t = false) : ¬ Doc W g := fun ⟨c, u, h2, hu⟩ => by
  rw [h] at h2
  injection h2 with h2
  injection h2 with _ h3 _
  rw [h3, hu] at ht
  cases ht
section
variable {w W W' : World} {p P pr gd cd : Nat} {s : Pf} {l : Loc} {fs : Fs} {vf : Value} {dv : List Dv}
theorem not_doc_map {b : Nat} {es : _} {c : _} (h : W.heap[b]? = some (.map es c)) : ¬ Doc W b := fun ⟨_, _, h2, _⟩ => by
  rw [h] at h2; cases h2
theorem foot_not_doc (h : At W p s l) {g : Nat} (hg : Foot p s l g) : ¬ Doc W g := by
  rcases hg with rfl | rfl | rfl | rfl | ⟨i, hi, rfl⟩ | ⟨x, hx, hb⟩
  · exact not_doc h.top (by decide)
  · obtain ⟨_, _, e⟩ := h.waits.kind; exact not_doc_map e
  · obtain ⟨_, _, e⟩ := h.names.kind; exact not_doc_map e
  · obtain ⟨_, _, e⟩ := h.dur.kind; exact not_doc_map e
  · exact not_doc (h.files i hi).2.2 (by decide)
  · obtain ⟨_, e⟩ := (h.rows x hx).kind hb; exact not_doc e (by decide)
theorem same_doc {t : TypeId} (ht : docT t = true) (hk : ∀ g, Doc W g → W'.heap[g]? = W.heap[g]?) : Same t W W' := fun g cur hg => hk g ⟨cur, t, hg, ht⟩
theorem owns_doc (h : Owns W pr fs vf gd cd dv) (hk : ∀ g, Doc W g → W'.heap[g]? = W.heap[g]?) : Owns W' pr fs vf gd cd dv := by
  have hN := same_doc (t := 111) (by decide) hk
  have hS := same_doc (t := 114) (by decide) hk
  have hD := same_doc (t := 62) (by decide) hk
  have hF := same_doc (t := 109) (by decide) hk
  refine ⟨⟨hold_ty h.sees.top (same_doc (by decide) hk), h.sees.files.keep hF, h.sees.many, ?_, fun i d v hd hv => ?_, h.sees.ticks, h.sees.small⟩, own_ty h.files hF, own_ty h.dirs hD, fun i d v hd hv => own_ty (h.waits i d v hd hv) hS, h.apart⟩
  · obtain ⟨cur, hc⟩ := h.sees.dirs.kind
    exact h.sees.dirs.keep (hD gd cur hc)
  · obtain ⟨a, b, c⟩ := h.sees.each i d v hd hv
    exact ⟨a.keep hN, b.keep hN, c.keep hS⟩
theorem foot_doc (h : Owns W pr fs vf gd cd dv) {g : Nat} (hg : Vf.Foot pr gd vf dv g) : Doc W g := by
  rcases hg with rfl | rfl | hb | ⟨v, hv, hb⟩
  · exact ⟨_, _, h.sees.top, by decide⟩
  · obtain ⟨cur, hc⟩ := h.sees.dirs.kind
    exact ⟨cur, _, hc, by decide⟩
  · obtain ⟨cur, hc⟩ := h.files.kind hb
    exact ⟨cur, _, hc, by decide⟩
  · obtain ⟨i, hi⟩ := List.mem_iff_getElem?.1 hv
    have hil := Go.Proofs.YtdbcjiapbehacaaGreatDoor.Vf.lt_of_get hi
    rw [h.sees.many] at hil
    obtain ⟨cur, hc⟩ := (h.waits i _ v (List.getElem?_eq_getElem hil) hi).kind hb
    exact ⟨cur, _, hc, by decide⟩
theorem doc_lt {g : Nat} (h : Doc W g) : g < W.heap.size := by
  obtain ⟨_, _, h, _⟩ := h
  exact (Array.getElem?_eq_some_iff.1 h).1

/-- Both, and the pair that names them, in blocks from w's end on. -/
structure Duo (w : World) (P p : Nat) (s : Pf) (l : Loc) (pr : Nat) (fs : Fs) (W : World) : Prop where
  box : Hold W P 30 [.pointer (some ⟨p, 0, none⟩), .pointer (some ⟨pr, 0, none⟩)]
  one : One w p s l W
  doc : ∃ vf gd cd dv, Owns W pr fs vf gd cd dv ∧ ∀ b, Vf.Foot pr gd vf dv b → w.heap.size ≤ b
  pn : w.heap.size ≤ P
theorem box_off (h : At W p s l) {v : List Value} (hP : Hold W P 30 v) {g : Nat} (hg : Foot p s l g) : P ≠ g := by
  rintro rfl
  have key : ∀ {cs : List Value} {t : TypeId}, W.heap[P]? = some (.cells cs.toArray t (0, 0)) → t ≠ 30 → False := fun e ht => Go.Proofs.YtdbcjiapbehacaaGreatDoor.Vf.kind_ne e hP ht rfl
  rcases hg with rfl | rfl | rfl | rfl | ⟨i, hi, rfl⟩ | ⟨x, hx, hb⟩
  · exact key h.top (by decide)
  · obtain ⟨_, _, e⟩ := h.waits.kind; unfold Hold at hP; rw [e] at hP; cases hP
  · obtain ⟨_, _, e⟩ := h.names.kind; unfold Hold at hP; rw [e] at hP; cases hP
  · obtain ⟨_, _, e⟩ := h.dur.kind; unfold Hold at hP; rw [e] at hP; cases hP
  · exact key (h.files i hi).2.2 (by decide)
  · obtain ⟨_, e⟩ := (h.rows x hx).kind hb; exact Go.Proofs.YtdbcjiapbehacaaGreatDoor.Vf.kind_ne e hP (by decide) rfl
theorem box_not_doc {v : List Value} (hP : Hold W P 30 v) : ¬ Doc W P := not_doc hP (by decide)
/-- The program's side has turned. -/
theorem Duo.onF {s' : Pf} (h : Duo w P p s l pr fs W) (ha : After W p s s' l W') : ∃ l', Duo w P p s' l' pr fs W' := by
  obtain ⟨l', h1⟩ := h.one.on ha
  obtain ⟨l2, hA, hm⟩ := ha
  obtain ⟨vf, gd, cd, dv, hO, hn⟩ := h.doc
  refine ⟨l', h.box.keep (hm.stay P h.box.lt fun hg => box_off h.one.f h.box hg rfl), h1, ⟨vf, gd, cd, dv, owns_doc hO fun g hg => hm.stay g (doc_lt hg) fun hf => foot_not_doc h.one.f hf hg, hn⟩, h.pn⟩
/-- The document's side has turned. -/
theorem Duo.onG {fs' : Fs} (h : Duo w P p s l pr fs W) (ha : ∀ vf gd cd dv, Owns W pr fs vf gd cd dv → (∀ b, Vf.Foot pr gd vf dv b → w.heap.size ≤ b) → ∃ vf' gd' cd' dv', Owns W' pr fs' vf' gd' cd' dv' ∧ Moves W W' (Vf.Foot pr gd vf dv) (Vf.Foot pr gd' vf' dv')) : Duo w P p s l pr fs' W' := by
  obtain ⟨vf, gd, cd, dv, hO, hn⟩ := h.doc
  obtain ⟨vf', gd', cd', dv', hO', hm⟩ := ha vf gd cd dv hO hn
  refine ⟨h.box.keep (hm.stay P h.box.lt fun hg => box_not_doc h.box (foot_doc hO hg)), ⟨h.one.f.keep fun g hg => hm.stay g (h.one.f.lt hg) fun hf => foot_not_doc h.one.f hg (foot_doc hO hf), h.one.fn, below_moves h.one.below hm hn⟩, ⟨vf', gd', cd', dv', hO', fun b hb => ?_⟩, h.pn⟩
  rcases hm.new b hb with e | e
  · exact hn b e
  · exact Nat.le_trans h.one.below.size e
theorem Duo.keep (h : Duo w P p s l pr fs W) (hb : Below W.heap.size W W') : Duo w P p s l pr fs W' := by
  obtain ⟨vf, gd, cd, dv, hO, hn⟩ := h.doc
  exact ⟨h.box.keep (hb.block P h.box.lt), h.one.keep hb, ⟨vf, gd, cd, dv, hO.below hb, hn⟩, h.pn⟩
theorem Duo.boxF (h : Duo w P p s l pr fs W) : W.cell? ⟨P, 0, none⟩ = some (.pointer (some ⟨p, 0, none⟩)) := by rw [h.box.cell]; rfl
theorem Duo.boxG (h : Duo w P p s l pr fs W) : W.cell? ⟨P, 1, none⟩ = some (.pointer (some ⟨pr, 0, none⟩)) := by rw [h.box.cell]; rfl
/-! Blocks of other kinds stay. -/
/-- Kinds of blocks that neither side has. -/
def alien (t : TypeId) : Bool := !(docT t) && t != 58 && t != 83 && t != 86 && t != 30
def Stay (W W' : World) : Prop := ∀ (g : Nat) (cur : Array Value) (t : TypeId) (fr : Nat × Nat), W.heap[g]? = some (.cells cur t fr) → alien t = true → W'.heap[g]? = W.heap[g]?
theorem lt_cells {g : Nat} {o : Obj} (h : W.heap[g]? = some o) : g < W.heap.size := (Array.getElem?_eq_some_iff.1 h).1
theorem Stay.refl (W : World) : Stay W W := fun _ _ _ _ _ _ => rfl
theorem Stay.trans {V : World} (h : Stay W V) (k : Stay V W') : Stay W W' := fun g cur t fr hg ht => (k g cur t fr ((h g cur t fr hg ht).trans hg) ht).trans (h g cur t fr hg ht)
theorem Stay.below (hb : Below W.heap.size W W') : Stay W W' := fun g _ _ _ hg _ => hb.block g (lt_cells hg)
theorem kind_alien {g : Nat} {c cur : Array Value} {u t : TypeId} {fr : Nat × Nat} (e : W.heap[g]? = some (.cells c u (0, 0))) (hu : alien u = false) (hc : W.heap[g]? = some (.cells cur t fr)) : alien t = false := by
  rw [e] at hc
  injection hc with hc
  injection hc with _ h _
  rw [← h]; exact hu
theorem foot_alien (h : At W p s l) {g : Nat} (hg : Foot p s l g) {cur : Array Value} {t : TypeId} {fr : Nat × Nat} (hc : W.heap[g]? = some (.cells cur t fr)) : alien t = false := by
  have no_map : ∀ {es : _} {c : _}, W.heap[g]? = some (.map es c) → alien t = false := fun e => by rw [e] at hc; cases hc
  rcases hg with rfl | rfl | rfl | rfl | ⟨i, hi, rfl⟩ | ⟨x, hx, hb⟩
  · exact kind_alien h.top (by decide) hc
  · obtain ⟨_, _, e⟩ := h.waits.kind; exact no_map e
  · obtain ⟨_, _, e⟩ := h.names.kind; exact no_map e
  · obtain ⟨_, _, e⟩ := h.dur.kind; exact no_map e
  · exact kind_alien (h.files i hi).2.2 (by decide) hc
  · obtain ⟨_, e⟩ := (h.rows x hx).kind hb; exact kind_alien e (by decide) hc
theorem doc_alien {g : Nat} (h : Doc W g) {cur : Array Value} {t : TypeId} {fr : Nat × Nat} (hc : W.heap[g]? = some (.cells cur t fr)) : alien t = false := by
  obtain ⟨c, u, e, hu⟩ := h
  exact kind_alien e (by unfold alien; rw [hu]; rfl) hc
theorem stayF {s' : Pf} (h : At W p s l) (ha : After W p s s' l W') : Stay W W' := fun g cur t fr hg ht => by
  obtain ⟨_, _, hm⟩ := ha
  exact hm.stay g (lt_cells hg) fun hf => by rw [foot_alien h hf hg] at ht; cases ht
theorem stayG {F' : Nat → Prop} (h : Owns W pr fs vf gd cd dv) (hm : Moves W W' (Vf.Foot pr gd vf dv) F') : Stay W W' := fun g cur t fr hg ht => hm.stay g (lt_cells hg) fun hf => by rw [doc_alien (foot_doc h hf) hg] at ht; cases ht
/-- A block of another kind turns. -/
theorem Duo.put (h : Duo w P p s l pr fs W) {g : Nat} {cur : Array Value} {t : TypeId} {fr : Nat × Nat} (hc : W.heap[g]? = some (.cells cur t fr)) (ht : alien t = true) (hn : w.heap.size ≤ g) (hG : W.grownBy W' (some g)) : Duo w P p s l pr fs W' := by
  obtain ⟨vf, gd, cd, dv, hO, hd⟩ := h.doc
  have hP : P ≠ g := fun e => by
    subst e
    rw [kind_alien h.box (by decide) hc] at ht; cases ht
  refine ⟨h.box.keep (hG.block P h.box.lt (by simpa using hP)), ⟨h.one.f.keep fun b hb => hG.block b (h.one.f.lt hb) ?_, h.one.fn, h.one.below.grown hG h.one.below.size (fun k e => by injection e with e; omega)⟩, ⟨vf, gd, cd, dv, owns_doc hO fun b hb => hG.block b (doc_lt hb) ?_, hd⟩, h.pn⟩
  · intro e
    injection e with e
    subst e
    rw [foot_alien h.one.f hb hc] at ht; cases ht
  · intro e
    injection e with e
    subst e
    rw [doc_alien hb hc] at ht; cases ht
/-- The pair, and an older one of the program's. -/
structure Trio (w : World) (P p : Nat) (s : Pf) (l : Loc) (pr : Nat) (fs : Fs) (po : Nat) (so : Pf) (lo : Loc) (W : World) : Prop where
  duo : Duo w P p s l pr fs W
  old : At W po so lo
  oldn : ∀ b, Foot po so lo b → w.heap.size ≤ b
  off : ∀ b, Foot p s l b → ¬ Foot po so lo b
theorem Trio.onOld {po : Nat} {so s' : Pf} {lo : Loc} (h : Trio w P p s l pr fs po so lo W) (ha : After W po so s' lo W') : ∃ lo', Trio w P p s l pr fs po s' lo' W' := by
  have hSt := stayF h.old ha
  obtain ⟨lo', hA, hm⟩ := ha
  obtain ⟨vf, gd, cd, dv, hO, hd⟩ := h.duo.doc
  refine ⟨lo', ⟨h.duo.box.keep (hm.stay P h.duo.box.lt fun hg => box_off h.old h.duo.box hg rfl), ⟨h.duo.one.f.keep fun b hb => hm.stay b (h.duo.one.f.lt hb) (h.off b hb), h.duo.one.fn, below_moves h.duo.one.below hm h.oldn⟩, ⟨vf, gd, cd, dv, owns_doc hO fun g hg => hm.stay g (doc_lt hg) fun hf => foot_not_doc h.old hf hg, hd⟩, h.duo.pn⟩, hA, fun b hb => ?_, fun b hb hg => ?_⟩
  · rcases hm.new b hb with e | e
    · exact h.oldn b e
    · exact Nat.le_trans h.duo.one.below.size e
  · rcases hm.new b hg with e | e
    · exact h.off b hb e
    · have := h.duo.one.f.lt hb; omega
end
end Go.Proofs.YtdbcjiapbehacaaGreatDoor.Vp
