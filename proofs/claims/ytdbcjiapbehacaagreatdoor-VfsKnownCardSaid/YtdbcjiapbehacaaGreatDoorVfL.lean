/-
  The document's file system: Reboot: what it answers, told plainly; what turns of a directory.
-/
import Derived.Test.YtdbcjiapbehacaaGreatDoorVfK
import Derived.Test.YtdbcjiapbehacaaGreatDoorVfI
namespace Go.Proofs.YtdbcjiapbehacaaGreatDoor.Vf
open Go.RowKit

/-- A choice, as a number of 64 bits. -/
def u64 (c : Int) : Nat := (c % 18446744073709551616).toNat
/-- The directories' round. -/
structure Rst where
  dirs : List Dr
  c : Nat
  all : List Nm
def backNames (d : Dr) (k : Nat) : List Nm := (d.waits.take k).foldl takenOf d.dur
def rbDir (s : Rst) (x : Nm) : Rst := match s.dirs[x.f]? with
  | none => s
  | some d => ⟨s.dirs.set x.f ⟨d.p, backNames d (s.c % (d.waits.length + 1)), backNames d (s.c % (d.waits.length + 1)), []⟩, s.c / (d.waits.length + 1), s.all ++ backNames d (s.c % (d.waits.length + 1))⟩
/-- The files' round. -/
def backText (x : Fl) (k : Nat) : ByteArray := if 0 < k then x.b.extract 0 (k - 1) else x.d
def rbFile (s : List Fl × Nat) (x : Nm) : List Fl × Nat := match s.1[x.f]? with
  | none => s
  | some f => if f.b.toList == f.d.toList then s else (s.1.set x.f ⟨backText f (s.2 % (f.b.size + 2)), backText f (s.2 % (f.b.size + 2))⟩, s.2 / (f.b.size + 2))
def idxN (l : List Dr) : List Nm := l.zipIdx.map fun x => ⟨x.1.p, x.2⟩
def dirsIn (fs : Fs) : List Nm := sortN (idxN fs.dirs)
def rbDirs (fs : Fs) (choice : Int) : Rst := (dirsIn fs).foldl rbDir ⟨fs.dirs, u64 choice, []⟩
def rbFiles (fs : Fs) (choice : Int) : List Fl × Nat := (sortN (rbDirs fs choice).all).foldl rbFile (fs.files, (rbDirs fs choice).c)
def rebootFs (fs : Fs) (choice : Int) : Fs := { fs with dirs := (rbDirs fs choice).dirs, files := (rbFiles fs choice).1, down := false, crash := 0 }
theorem rbDir_many (s : Rst) (x : Nm) : (rbDir s x).dirs.length = s.dirs.length := by
  unfold rbDir; split
  · rfl
  · exact List.length_set
theorem rbFile_many (s : List Fl × Nat) (x : Nm) : (rbFile s x).1.length = s.1.length := by
  unfold rbFile; split
  · rfl
  · split
    · rfl
    · exact List.length_set

/-- A directory has turned: its names are new in both places, nothing waits. -/
theorem dir_put {w V : World} {p gd cd i : Nat} {fs : Fs} {vf : Value} {dv : List Dv} {d : Dr} {u : Dv} {v1 v2 : Value} {names : List Nm} (h : Owns w p fs vf gd cd dv) (hd : fs.dirs[i]? = some d) (hu : dv[i]? = some u) (hV : Below w.heap.size w V) (hl : names.length ≤ 4294967296)
    (h1 : OwnR V w.heap.size 111 2 v1 (names.map Nm.cells)) (h2 : OwnR V w.heap.size 111 2 v2 (names.map Nm.cells)) :
    Owns ((((V.setCell ⟨gd, i * 4, none⟩ (.string d.p)).setCell ⟨gd, i * 4 + 1, none⟩ v1).setCell ⟨gd, i * 4 + 2, none⟩ v2).setCell ⟨gd, i * 4 + 3, none⟩ (.slice none 0 0)) p { fs with dirs := fs.dirs.set i ⟨d.p, names, names, []⟩ } vf gd cd (dv.set i ⟨v1, v2, .slice none 0 0⟩) ∧
    Moves w ((((V.setCell ⟨gd, i * 4, none⟩ (.string d.p)).setCell ⟨gd, i * 4 + 1, none⟩ v1).setCell ⟨gd, i * 4 + 2, none⟩ v2).setCell ⟨gd, i * 4 + 3, none⟩ (.slice none 0 0)) (Foot p gd vf dv) (Foot p gd vf (dv.set i ⟨v1, v2, .slice none 0 0⟩)) := by
  obtain ⟨curD, hkD⟩ := h.sees.dirs.kind
  have hgl : gd < w.heap.size := h.sees.dirs.lt
  have hil := lt_of_get hd
  have hui : i < dv.length := lt_of_get hu
  have hVold : ∀ g, g < w.heap.size → V.heap[g]? = w.heap[g]? := fun g hl => hV.block g hl
  have hfar : ∀ g, g ≠ gd → ((((V.setCell ⟨gd, i * 4, none⟩ (.string d.p)).setCell ⟨gd, i * 4 + 1, none⟩ v1).setCell ⟨gd, i * 4 + 2, none⟩ v2).setCell ⟨gd, i * 4 + 3, none⟩ (.slice none 0 0)).heap[g]? = V.heap[g]? := fun g hne => (Below.heap_setCell _ ⟨gd, i * 4 + 3, none⟩ _ g hne).trans ((Below.heap_setCell _ ⟨gd, i * 4 + 2, none⟩ _ g hne).trans ((Below.heap_setCell _ ⟨gd, i * 4 + 1, none⟩ _ g hne).trans (Below.heap_setCell _ ⟨gd, i * 4, none⟩ _ g hne)))
  have hlt : ∀ {g : Nat} {o : Obj}, w.heap[g]? = some o → g < w.heap.size := fun hg => (Array.getElem?_eq_some_iff.1 hg).1
  have hlenZ : (List.zipWith drCells fs.dirs dv).length = fs.dirs.length := h.sees.dirs.len
  have hzi : (List.zipWith drCells fs.dirs dv)[i]? = some (drCells d u) := by rw [List.getElem?_zipWith, hd, hu]
  have hdV : OwnR V 0 62 4 (.slice (some ⟨gd, 0, none⟩) fs.dirs.length cd) (List.zipWith drCells fs.dirs dv) := h.dirs.blk fun k hk => by
    injection hk with hk; subst hk; exact hVold _ hgl
  have hd0 := own_set hdV hlenZ hzi (k := 0) (by decide) (.string d.p)
  have hd1 := own_set hd0 (by rw [List.length_set]; exact hlenZ) (i := i) (cs := (drCells d u).set 0 (.string d.p)) (by rw [List.getElem?_set_self (by rw [hlenZ]; exact hil)]) (k := 1) (by decide) v1
  rw [List.set_set] at hd1
  have hd2 := own_set hd1 (by rw [List.length_set]; exact hlenZ) (i := i) (cs := ((drCells d u).set 0 (.string d.p)).set 1 v1) (by rw [List.getElem?_set_self (by rw [hlenZ]; exact hil)]) (k := 2) (by decide) v2
  rw [List.set_set] at hd2
  have hd3 := own_set hd2 (by rw [List.length_set]; exact hlenZ) (i := i) (cs := (((drCells d u).set 0 (.string d.p)).set 1 v1).set 2 v2) (by rw [List.getElem?_set_self (by rw [hlenZ]; exact hil)]) (k := 3) (by decide) (.slice none 0 0)
  rw [List.set_set] at hd3
  have hsize : ((((V.setCell ⟨gd, i * 4, none⟩ (.string d.p)).setCell ⟨gd, i * 4 + 1, none⟩ v1).setCell ⟨gd, i * 4 + 2, none⟩ v2).setCell ⟨gd, i * 4 + 3, none⟩ (.slice none 0 0)).heap.size = V.heap.size := by simp
  have hstr : ∀ (W' : World), W' = (((V.setCell ⟨gd, i * 4, none⟩ (.string d.p)).setCell ⟨gd, i * 4 + 1, none⟩ v1).setCell ⟨gd, i * 4 + 2, none⟩ v2).setCell ⟨gd, i * 4 + 3, none⟩ (.slice none 0 0) → W'.os = V.os ∧ W'.tape = V.tape ∧ W'.output = V.output := fun W' e => by subst e; exact ⟨rfl, rfl, rfl⟩
  generalize hW : (((V.setCell ⟨gd, i * 4, none⟩ (.string d.p)).setCell ⟨gd, i * 4 + 1, none⟩ v1).setCell ⟨gd, i * 4 + 2, none⟩ v2).setCell ⟨gd, i * 4 + 3, none⟩ (.slice none 0 0) = W' at hfar hsize ⊢
  have hd4 : OwnR W' 0 62 4 (.slice (some ⟨gd, 0, none⟩) fs.dirs.length cd) ((List.zipWith drCells fs.dirs dv).set i (drCells ⟨d.p, names, names, []⟩ ⟨v1, v2, .slice none 0 0⟩)) := by rw [← hW]; exact hd3
  obtain ⟨e1, e2, e3⟩ := hstr W' hW.symm
  have hS : ∀ t, t ≠ 62 → Same t w W' := fun t ht g cur hg' => (hfar g (kind_ne hg' hkD ht)).trans (hVold g (hlt hg'))
  have hsl : (fs.dirs.set i ⟨d.p, names, names, []⟩).length = fs.dirs.length := List.length_set
  refine ⟨owns_dirs h (hS _ (by decide)) ?_ (by rw [List.length_set, hsl]; exact h.sees.many) (by rw [hsl]; omega) ?_ (fun j e v he hv => ?_) (fun j m v z hv hz hne => ?_) ⟨by rw [hsl]; exact h.sees.small.1, fun e he => ?_⟩, ?_⟩
  · have := hold_ty h.sees.top (hS _ (by decide))
    unfold topCells
    simp only [hsl]
    exact this
  · rw [hsl, zip_set]
    exact hd4
  · rcases get_set_cases he with ⟨rfl, rfl⟩ | ⟨hne, he⟩
    · rcases get_set_cases hv with ⟨_, rfl⟩ | ⟨hne, _⟩
      · refine ⟨?_, ?_, OwnR.nil _ _ _ _⟩
        · refine OwnR.reads (base := w.heap.size) (h1.blk fun k hk => hfar k ?_)
          have := (h1.lt k hk).1
          omega
        · refine OwnR.reads (base := w.heap.size) (h2.blk fun k hk => hfar k ?_)
          have := (h2.lt k hk).1
          omega
      · exact absurd rfl hne
    · rcases get_set_cases hv with ⟨e, _⟩ | ⟨_, hv⟩
      · exact absurd e hne
      · have hj := h.sees.each j e v he hv
        exact ⟨hj.1.keep (hS _ (by decide)), hj.2.1.keep (hS _ (by decide)), own_ty (h.waits j e v he hv) (hS _ (by decide))⟩
  · rcases get_set_cases hv with ⟨rfl, rfl⟩ | ⟨hne1, hv⟩
    · exact .inl rfl
    · rcases get_set_cases hz with ⟨rfl, rfl⟩ | ⟨hne2, hz⟩
      · cases hvb : v.s.ownBlock with
        | none => exact .inl rfl
        | some k => exact .inr (by simp [Value.ownBlock])
      · exact h.apart j m v z hv hz hne
  · rcases List.mem_or_eq_of_mem_set he with he | rfl
    · exact h.sees.small.2 e he
    · exact hl
  · refine ⟨e1.trans hV.os, e2.trans hV.tape, e3.trans hV.output, by rw [hsize]; exact hV.size, fun g hl hn => ?_, fun g hg' => ?_⟩
    · exact (hfar g (fun e => hn (.inr (.inl e)))).trans (hVold g hl)
    · rcases hg' with e | e | e | ⟨v, hv, e⟩
      · exact .inl (.inl e)
      · exact .inl (.inr (.inl e))
      · exact .inl (.inr (.inr (.inl e)))
      · rcases List.mem_or_eq_of_mem_set hv with hv | rfl
        · exact .inl (.inr (.inr (.inr ⟨v, hv, e⟩)))
        · cases e

theorem idxN_len (l : List Dr) : (idxN l).length = l.length := by unfold idxN; rw [List.length_map, List.length_zipIdx]
theorem idxN_at {l : List Dr} {k : Nat} {d : Dr} (h : l[k]? = some d) : (idxN l)[k]? = some ⟨d.p, k⟩ := by
  unfold idxN
  rw [List.getElem?_map, List.getElem?_zipIdx, h]
  simp
theorem wrap_u64 (c : Int) : IntKind.u64.wrap c = ((u64 c : Nat) : Int) := by
  unfold u64
  rw [Int.toNat_of_nonneg (Int.emod_nonneg _ (by decide))]
  rfl
theorem u64_lt (c : Int) : u64 c < 18446744073709551616 := by
  unfold u64
  have h1 := Int.emod_nonneg c (b := 18446744073709551616) (by decide)
  have h2 := Int.emod_lt_of_pos c (b := 18446744073709551616) (by decide)
  omega
/-- It is up again. -/
theorem reboot_up {w : World} {p gd cd : Nat} {fs : Fs} {vf : Value} {dv : List Dv} (h : Owns w p fs vf gd cd dv) :
    Owns ((w.setCell ⟨p, 3, none⟩ (.bool false)).setCell ⟨p, 4, none⟩ (.int .i64 0)) p { fs with down := false, crash := 0 } vf gd cd dv ∧ w.grownBy ((w.setCell ⟨p, 3, none⟩ (.bool false)).setCell ⟨p, 4, none⟩ (.int .i64 0)) (some p) := by
  have hg : w.grownBy ((w.setCell ⟨p, 3, none⟩ (.bool false)).setCell ⟨p, 4, none⟩ (.int .i64 0)) (some p) := gb_set (gb_set (World.grownBy.refl w _) 3 _) 4 _
  have hs := h.sees.turn false 0 (by omega) hg ((h.sees.top.set 3 (.bool false)).set 4 (.int .i64 0))
  exact ⟨h.turn hs hg rfl rfl, hg⟩
end Go.Proofs.YtdbcjiapbehacaaGreatDoor.Vf
