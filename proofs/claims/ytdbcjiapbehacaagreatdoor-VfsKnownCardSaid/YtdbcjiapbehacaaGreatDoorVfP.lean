/-
  The document's Reboot: a row of names that grows beside the directories' names.
-/
import Derived.Test.YtdbcjiapbehacaaGreatDoorVfL
namespace Go.Proofs.YtdbcjiapbehacaaGreatDoor.Vf
open Go.RowKit

/-- What is appended to vA turns none of these names. -/
def Beside (vA v : Value) (l : List Nm) : Prop := l = [] ∨ ∀ b, vA.ownBlock = some b → v.ownBlock ≠ some b
def Besides (vA : Value) (dirs : List Dr) (dv : List Dv) : Prop := ∀ (i : Nat) (d : Dr) (v : Dv), dirs[i]? = some d → dv[i]? = some v → Beside vA v.n d.names ∧ Beside vA v.d d.dur
theorem besides_nil (dirs : List Dr) (dv : List Dv) : Besides (.slice none 0 0) dirs dv := fun _ _ _ _ _ => ⟨.inr (fun b h => by cases h), .inr (fun b h => by cases h)⟩
section
variable {w w' : World} {p gd cd lb : Nat} {fs : Fs} {vf vA vA' : Value} {dv : List Dv} {xs : List (List Value)}
theorem reads_beside {t : TypeId} {s : Nat} {v : Value} {l : List Nm} (h : Reads w t s v (l.map Nm.cells)) (hg : w.grownBy w' vA.ownBlock) (hb : Beside vA v l) : Reads w' t s v (l.map Nm.cells) := by
  rcases h with ⟨h0, hA⟩ | ⟨g, cap, hv, he⟩
  · exact .inl ⟨h0, hA⟩
  · rcases hb with rfl | hb
    · exact .inl ⟨rfl, some ⟨g, 0, none⟩, cap, hv⟩
    · refine .inr ⟨g, cap, hv, he.keep (hg.block g he.lt fun e => hb g e.symm ?_)⟩
      rw [hv]; rfl
theorem owns_beside (h : Owns w p fs vf gd cd dv) (hA : OwnR w lb 111 2 vA xs) (hg : w.grownBy w' vA.ownBlock) (hb : Besides vA fs.dirs dv) : Owns w' p fs vf gd cd dv := by
  have hS : ∀ t, t ≠ 111 → Same t w w' := fun t ht g cur hg' => hg.block g (Array.getElem?_eq_some_iff.1 hg').1 (fun e => by
    obtain ⟨cur', hc⟩ := hA.kind e.symm
    exact kind_ne hg' hc ht rfl)
  have hw : ∀ (i : Nat) (d : Dr) (v : Dv), fs.dirs[i]? = some d → dv[i]? = some v → OwnR w' 0 114 3 v.s (d.waits.map St.cells) := fun i d v hd hv => own_ty (h.waits i d v hd hv) (hS _ (by decide))
  refine ⟨⟨hold_ty h.sees.top (hS _ (by decide)), h.sees.files.keep (hS _ (by decide)), h.sees.many, ?_, fun i d v hd hv => ?_, h.sees.ticks, h.sees.small⟩, own_ty h.files (hS _ (by decide)), own_ty h.dirs (hS _ (by decide)), hw, h.apart⟩
  · obtain ⟨cur, hc⟩ := h.sees.dirs.kind
    exact h.sees.dirs.keep (hS _ (by decide) gd cur hc)
  · obtain ⟨a, b, _⟩ := h.sees.each i d v hd hv
    exact ⟨reads_beside a hg (hb i d v hd hv).1, reads_beside b hg (hb i d v hd hv).2, (hw i d v hd hv).reads⟩
theorem beside_grown {t : TypeId} {s : Nat} {v : Value} {l : List Nm} (h : Reads w t s v (l.map Nm.cells)) (hb : Beside vA v l) (hat : vA'.ownBlock = vA.ownBlock ∨ vA'.ownBlock = some w.heap.size) : Beside vA' v l := by
  rcases hb with hb | hb
  · exact .inl hb
  · rcases h with ⟨h0, _⟩ | ⟨g, cap, hv, he⟩
    · exact .inl (List.map_eq_nil_iff.1 h0)
    · refine .inr fun b hb' => ?_
      rcases hat with hat | hat
      · exact hb b (hat ▸ hb')
      · rw [hat] at hb'
        injection hb' with hb'
        subst hb'
        rw [hv]
        intro e
        have e' : g = w.heap.size := by injection e
        have := he.lt
        omega
theorem besides_grown (h : Owns w p fs vf gd cd dv) (hb : Besides vA fs.dirs dv) (hat : vA'.ownBlock = vA.ownBlock ∨ vA'.ownBlock = some w.heap.size) : Besides vA' fs.dirs dv := fun i d v hd hv => by
  obtain ⟨a, b, _⟩ := h.sees.each i d v hd hv
  exact ⟨beside_grown a (hb i d v hd hv).1 hat, beside_grown b (hb i d v hd hv).2 hat⟩
theorem besides_set {dirs : List Dr} {i B : Nat} {e : Dr} {v1 v2 v3 : Value} (hb : Besides vA dirs dv) (hA : ∀ b, vA.ownBlock = some b → b < B) (h1 : ∀ b, v1.ownBlock = some b → B ≤ b) (h2 : ∀ b, v2.ownBlock = some b → B ≤ b) : Besides vA (dirs.set i e) (dv.set i ⟨v1, v2, v3⟩) := fun j d v hd hv => by
  rcases get_set_cases hd with ⟨rfl, rfl⟩ | ⟨hne, hd1⟩
  · rcases get_set_cases hv with ⟨_, rfl⟩ | ⟨hne, _⟩
    · refine ⟨.inr fun b hb' e => ?_, .inr fun b hb' e => ?_⟩
      · have := hA b hb'; have := h1 b e; omega
      · have := hA b hb'; have := h2 b e; omega
    · exact absurd rfl hne
  · rcases get_set_cases hv with ⟨e, _⟩ | ⟨_, hv1⟩
    · exact absurd e hne
    · exact hb j d v hd1 hv1
/-- The directories' round, where it stands: s: the plain state; l: the directories' order; vA: the names that are collected. -/
structure RbAt (w1 w2 wr : World) (p gd cd : Nat) (fs : Fs) (vf : Value) (dv0 : List Dv) (vL : Value) (L : List Nm) (s : Rst) (dvm : List Dv) (vA : Value) : Prop where
  owns : Owns wr p { fs with dirs := s.dirs, down := false, crash := 0 } vf gd cd dvm
  moves : Moves w1 wr (Foot p gd vf dv0) (Foot p gd vf dvm)
  list : OwnR wr w1.heap.size 111 2 vL (L.map Nm.cells)
  old : ∀ b, vL.ownBlock = some b → b < w2.heap.size
  all : OwnR wr w2.heap.size 111 2 vA (s.all.map Nm.cells)
  beside : Besides vA s.dirs dvm
  more : w2.heap.size ≤ wr.heap.size
theorem taken_lens : ∀ (l : List St) (o : List Nm), (l.foldl takenOf o).length ≤ o.length + l.length := by
  intro l
  induction l with
  | nil => intro o; simp
  | cons x l ih =>
    intro o
    rw [List.foldl_cons]
    have h1 := ih (takenOf o x)
    have h2 : (takenOf o x).length ≤ o.length + 1 := by
      unfold takenOf
      rw [List.length_append]
      have := List.length_filter_le (stays x) o
      split <;> simp <;> omega
    simp only [List.length_cons]
    omega
theorem back_len (d : Dr) (k : Nat) : (backNames d k).length ≤ d.dur.length + d.waits.length := by
  have := taken_lens (d.waits.take k) d.dur
  unfold backNames
  rw [List.length_take] at this
  omega
theorem Moves.grown {V : World} {F F' : Nat → Prop} {row : Option Nat} (h : Moves w w' F F') (hg : w'.grownBy V row) (hr : ∀ k, row = some k → w.heap.size ≤ k) : Moves w V F F' :=
  ⟨hg.os.trans h.os, hg.tape.trans h.tape, hg.output.trans h.output, Nat.le_trans h.size hg.size, fun g hl hn => (hg.block g (Nat.lt_of_lt_of_le hl h.size) (fun e => by have := hr g e.symm; omega)).trans (h.stay g hl hn), h.new⟩
/-- One directory more. -/
theorem rb_next {w1 w2 wO w4 WP V : World} {dv0 dvm : List Dv} {vL v1 v2 : Value} {L nm : List Nm} {s : Rst} {x : Nm} {d : Dr} {C : Nat} (hw : w1.heap.size ≤ w2.heap.size) (hR : RbAt w1 w2 wO p gd cd fs vf dv0 vL L s dvm vA) (hb : Below wO.heap.size wO w4) (hG : w4.grownBy WP (some gd))
    (hoP : Owns WP p { fs with dirs := s.dirs.set x.f ⟨d.p, nm, nm, []⟩, down := false, crash := 0 } vf gd cd (dvm.set x.f ⟨v1, v2, .slice none 0 0⟩)) (hmP : Moves wO WP (Foot p gd vf dvm) (Foot p gd vf (dvm.set x.f ⟨v1, v2, .slice none 0 0⟩)))
    (hgr : WP.grownBy V vA.ownBlock) (hat : vA'.ownBlock = vA.ownBlock ∨ vA'.ownBlock = some WP.heap.size) (hown : OwnR V w2.heap.size 111 2 vA' (s.all.map Nm.cells ++ nm.map Nm.cells))
    (h1 : ∀ b, v1.ownBlock = some b → wO.heap.size ≤ b) (h2 : ∀ b, v2.ownBlock = some b → wO.heap.size ≤ b) (hrb : rbDir s x = ⟨s.dirs.set x.f ⟨d.p, nm, nm, []⟩, C, s.all ++ nm⟩) :
    RbAt w1 w2 V p gd cd fs vf dv0 vL L (rbDir s x) (dvm.set x.f ⟨v1, v2, .slice none 0 0⟩) vA' := by
  rw [hrb]
  obtain ⟨curD, hkD⟩ := hR.owns.sees.dirs.kind
  have hgl : gd < wO.heap.size := hR.owns.sees.dirs.lt
  have hkD4 := (hb.block gd hgl).trans hkD
  have hSN : Same 111 w4 WP := fun g cur hg => hG.block g (Array.getElem?_eq_some_iff.1 hg).1 (fun e => by
    injection e with e
    exact kind_ne hg hkD4 (by decide) e)
  have hA := own_ty (hR.all.keep hb) hSN
  have hL := own_ty (hR.list.keep hb) hSN
  have hB := besides_set (i := x.f) (e := ⟨d.p, nm, nm, []⟩) (v3 := .slice none 0 0) hR.beside (fun b hb => (hR.all.lt b hb).2) h1 h2
  refine ⟨owns_beside hoP hA hgr hB, (hR.moves.trans hmP).grown hgr (fun k hk => Nat.le_trans hw (hR.all.lt k hk).1), hL.kept hgr ?_, hR.old, by rw [List.map_append]; exact hown, besides_grown hoP hB hat, Nat.le_trans hR.more (Nat.le_trans hmP.size hgr.size)⟩
  cases hv : vL.ownBlock with
  | none => exact .inl rfl
  | some b =>
    refine .inr fun e => ?_
    have e1 := hR.old b hv
    have e2 := (hR.all.lt b e.symm).1
    omega
/-- A whole file has turned. -/
theorem file_put {n c g : Nat} {x : Fl} {a b : ByteArray} (h : Owns w p fs vf gd cd dv) (hv : vf = .slice (some ⟨g, 0, none⟩) fs.files.length c) (hx : fs.files[n]? = some x) :
    Owns ((w.setCell ⟨g, n * 2, none⟩ (.string a)).setCell ⟨g, n * 2 + 1, none⟩ (.string b)) p { fs with files := fs.files.set n ⟨a, b⟩ } vf gd cd dv ∧ Moves w ((w.setCell ⟨g, n * 2, none⟩ (.string a)).setCell ⟨g, n * 2 + 1, none⟩ (.string b)) (Foot p gd vf dv) (Foot p gd vf dv) ∧ Same 111 w ((w.setCell ⟨g, n * 2, none⟩ (.string a)).setCell ⟨g, n * 2 + 1, none⟩ (.string b)) := by
  obtain ⟨curF, hkF⟩ := h.files.kind (show vf.ownBlock = some g by rw [hv]; rfl)
  obtain ⟨h1, m1⟩ := file_set h hv hx (j := 0) (x' := ⟨a, x.d⟩) (v := .string a) (by decide) rfl
  have hl : n < fs.files.length := lt_of_get hx
  obtain ⟨h2, m2⟩ := file_set h1 (c := c) (g := g) (n := n) (j := 1) (x := ⟨a, x.d⟩) (x' := ⟨a, b⟩) (v := .string b) (by rw [List.length_set]; exact hv) (by rw [List.getElem?_set_self hl]) (by decide) rfl
  rw [List.set_set] at h2
  refine ⟨h2, m1.trans m2, fun k _ hk => ?_⟩
  have hne := kind_ne hk hkF (by decide)
  exact (Below.heap_setCell _ ⟨g, n * 2 + 1, none⟩ _ k hne).trans (Below.heap_setCell _ ⟨g, n * 2, none⟩ _ k hne)
/-- The files' round, where it stands. -/
structure FlAt (w1 wr : World) (p gd cd : Nat) (fs : Fs) (dirs : List Dr) (vf : Value) (dv0 dvm : List Dv) (vL : Value) (L : List Nm) (y : List Fl × Nat) : Prop where
  owns : Owns wr p { fs with dirs := dirs, files := y.1, down := false, crash := 0 } vf gd cd dvm
  moves : Moves w1 wr (Foot p gd vf dv0) (Foot p gd vf dvm)
  list : Reads wr 111 2 vL (L.map Nm.cells)
theorem FlAt.below {w1 wr V : World} {dirs : List Dr} {dv0 dvm : List Dv} {vL : Value} {L : List Nm} {y : List Fl × Nat} (h : FlAt w1 wr p gd cd fs dirs vf dv0 dvm vL L y) (hb : Below wr.heap.size wr V) : FlAt w1 V p gd cd fs dirs vf dv0 dvm vL L y :=
  ⟨h.owns.below hb, h.moves.below hb, h.list.keep fun g _ hg => hb.block g (Array.getElem?_eq_some_iff.1 hg).1⟩
theorem FlAt.put {w1 wr : World} {dirs : List Dr} {dv0 dvm : List Dv} {vL : Value} {L : List Nm} {y y' : List Fl × Nat} {n c g : Nat} {x : Fl} {a b : ByteArray} (h : FlAt w1 wr p gd cd fs dirs vf dv0 dvm vL L y) (hv : vf = .slice (some ⟨g, 0, none⟩) y.1.length c) (hx : y.1[n]? = some x) (hy : y'.1 = y.1.set n ⟨a, b⟩) :
    FlAt w1 ((wr.setCell ⟨g, n * 2, none⟩ (.string a)).setCell ⟨g, n * 2 + 1, none⟩ (.string b)) p gd cd fs dirs vf dv0 dvm vL L y' := by
  obtain ⟨h1, h2, h3⟩ := file_put (a := a) (b := b) h.owns hv hx
  refine ⟨?_, h.moves.trans h2, h.list.keep h3⟩
  rw [hy]; exact h1
end

/-! The picks, in the walk's own spelling. -/
theorem w64 (n : Int) (h : -9223372036854775808 ≤ n ∧ n ≤ 9223372036854775807) : wrap64 n = n := by unfold wrap64; omega
theorem u64_in (n : Int) (h : 0 ≤ n ∧ n < 18446744073709551616) : IntKind.u64.wrap n = n := Int.emod_eq_of_lt h.1 h.2
theorem pick_N (n j : Nat) (h : n ≤ 4294967296) (hj : j ≤ 2) : IntKind.u64.wrap (wrap64 ((n : Int) + (j : Int))) = ((n + j : Nat) : Int) := by
  rw [w64 _ (by omega), u64_in _ (by omega)]; omega
theorem pick_N1 (n : Nat) (h : n ≤ 4294967296) : IntKind.u64.wrap (wrap64 ((n : Int) + 1)) = ((n + 1 : Nat) : Int) := by
  rw [w64 _ (by omega), u64_in _ (by omega)]; omega
theorem pick_N2 (n : Nat) (h : n ≤ 4294967296) : IntKind.u64.wrap (wrap64 ((n : Int) + 2)) = ((n + 2 : Nat) : Int) := by
  rw [w64 _ (by omega), u64_in _ (by omega)]; omega
theorem pick_K (c N : Nat) (hN : 0 < N) (h : N ≤ 4294967299) : wrap64 ((c : Int) % (N : Int)) = ((c % N : Nat) : Int) := by
  have h1 : c % N < N := Nat.mod_lt _ hN
  rw [← Int.natCast_emod]
  generalize c % N = q at h1 ⊢
  exact w64 _ (by omega)
theorem pick_C (c N : Nat) (h : c < 18446744073709551616) : IntKind.u64.wrap ((c : Int) / (N : Int)) = ((c / N : Nat) : Int) := by
  have h1 : c / N ≤ c := Nat.div_le_self _ _
  rw [← Int.natCast_ediv]
  generalize c / N = q at h1 ⊢
  exact u64_in _ (by omega)
end Go.Proofs.YtdbcjiapbehacaaGreatDoor.Vf
