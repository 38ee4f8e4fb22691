/-
  Layer 5: how long names are; what both the laws of two file systems and those of the document need.
-/
import Derived.Test.YtdbcjiapbehacaaGreatDoorVpU
namespace Go.Proofs.YtdbcjiapbehacaaGreatDoor.Vp
open Go.RowKit Go.Maps
open Go.Proofs.YtdbcjiapbehacaaGreatDoor.Vf (Hold OwnR Owns Fs FineD Moves Reads)
theorem pieces_one : ∀ {t : List UInt8}, (47 : UInt8) ∉ t → pieces t = [t]
  | [], _ => rfl
  | c :: t, h => by
    have hc : c ≠ 47 := fun e => h (by rw [e]; exact List.mem_cons_self ..)
    rw [pieces, if_neg hc, pieces_one (fun e => h (List.mem_cons_of_mem _ e))]
theorem pieces_last {t : List UInt8} (h : (47 : UInt8) ∉ t) : ∀ u : List UInt8, t ∈ (pieces (u ++ 47 :: t)).tail
  | [] => by
    show t ∈ (pieces (47 :: t)).tail
    rw [pieces, if_pos rfl, pieces_one h]; simp
  | c :: u => by
    have ih := pieces_last h u
    show t ∈ (pieces (c :: (u ++ 47 :: t))).tail
    obtain ⟨x, xs, hx⟩ := pieces_ne (u ++ 47 :: t)
    rw [hx] at ih
    unfold pieces
    by_cases hc : c = 47
    · rw [if_pos hc, hx]; exact List.mem_cons_of_mem _ ih
    · rw [if_neg hc, hx]; exact ih
theorem good_small {t : List UInt8} (h : goodName t = true) : t.length ≤ 64 := by
  unfold goodName at h
  rw [Bool.and_eq_true, Bool.and_eq_true, decide_eq_true_eq, decide_eq_true_eq] at h
  exact h.1.2
theorem good_last {t : List UInt8} (h : (47 : UInt8) ∉ t) : ∀ {u : List UInt8}, hasName (u ++ 47 :: t) = true → t.length ≤ 64
  | [], hn => by
    have h1 : (decide ((47 : UInt8) = 47) && (pieces t).all goodName) = true := hn
    rw [Bool.and_eq_true, pieces_one h] at h1
    exact good_small (List.all_eq_true.1 h1.2 t (List.mem_cons_self ..))
  | c :: u, hn => by
    have h1 : (decide (c = 47) && (pieces (u ++ 47 :: t)).all goodName) = true := hn
    rw [Bool.and_eq_true] at h1
    exact good_small (List.all_eq_true.1 h1.2 t (List.mem_of_mem_tail (pieces_last h u)))
theorem name_small {path : ByteArray} (h : hasName path.data.toList = true) : (plcOf path).n.size ≤ 64 := by
  have hcut := (good_slashed h).cut
  obtain ⟨L, hL⟩ : ∃ L, path.data.toList = L := ⟨_, rfl⟩
  have hsz : path.size = L.length := by rw [Lib.size_eq, hL]
  rcases Lib.lastIndexByte_spec path 47 with ⟨he, _⟩ | ⟨i, hi, he, hc, hrest⟩
  · rw [hcut.1] at he; omega
  · have hic : cutOf path = i := by have := hcut.1; omega
    have hat : ∀ (j : Nat) (hj : j < path.data.size), L[j]? = some path.data[j] := fun j hj => by rw [← hL, Array.getElem?_toList, Array.getElem?_eq_getElem hj]
    have h47 : L[i]? = some 47 := by
      rw [hat i hi]
      rw [getElem!_pos path.data i hi] at hc
      congr 1
      exact UInt8.toNat_inj.1 (by have h9 : ((path.data[i].toNat : Nat) : Int) = 47 := hc; show path.data[i].toNat = 47; omega)
    have hno : (47 : UInt8) ∉ L.drop (i + 1) := by
      intro hm
      obtain ⟨k, hk, hk2⟩ := List.getElem_of_mem hm
      have hk3 : L[i + 1 + k]? = some 47 := by rw [← List.getElem?_drop, List.getElem?_eq_getElem hk, hk2]
      have hk4 : i + 1 + k < path.data.size := by
        rw [List.length_drop, ← hsz] at hk
        show i + 1 + k < path.size
        omega
      have h3 := hrest (i + 1 + k) (by omega) hk4
      rw [getElem!_pos path.data _ hk4] at h3
      have e := hat (i + 1 + k) hk4
      rw [hk3] at e
      injection e with e
      rw [← e] at h3
      exact h3 rfl
    have hlt : i < L.length := by rw [← hsz]; exact hi
    have e : L = L.take i ++ 47 :: L.drop (i + 1) := by
      have e1 : L = L.take i ++ L.drop i := (List.take_append_drop _ _).symm
      have e2 : L.drop i = 47 :: L.drop (i + 1) := by
        rw [List.drop_eq_getElem_cons hlt]
        rw [List.getElem?_eq_getElem hlt] at h47
        injection h47 with h47; rw [h47]
      rw [e2] at e1; exact e1
    have hg : hasName L = true := by rw [← hL]; exact h
    rw [e] at hg
    have h64 := good_last hno hg
    have hn : (plcOf path).n.data.toList = L.drop (i + 1) := by
      show (path.extract (cutOf path + 1) path.size).data.toList = _
      rw [Lib.extract_data, hL, hic, List.take_of_length_le]
      rw [List.length_drop]; omega
    rw [Lib.size_eq, hn]; exact h64
theorem Canon.small {x : Plc} (h : Canon x) : x.n.size ≤ 64 := by
  obtain ⟨_, path, hp, rfl⟩ := h
  exact name_small hp
/-- The path of a name in a directory, as the laws put it. -/
def joinP (d n : ByteArray) : ByteArray := if (d.toList == [47]) = true then rootB ++ n else (d ++ rootB) ++ n
theorem sortB_mem {l : List (List UInt8)} {x : List UInt8} : x ∈ sortB l ↔ x ∈ l := (List.mergeSort_perm _ _).mem_iff
theorem mem_nms {dir : ByteArray} {l : List (Plc × Nat)} {x : List UInt8} (h : x ∈ nmsOf dir l) : ∃ i, ((⟨dir, ⟨x.toArray⟩⟩ : Plc), i) ∈ l := by
  unfold nmsOf at h
  obtain ⟨⟨⟨qd, qn⟩, i⟩, hq, rfl⟩ := List.mem_map.1 h
  obtain ⟨h1, h2⟩ := List.mem_filter.1 hq
  unfold inDir at h2
  have e : qd = dir := by simpa using h2
  subst e
  exact ⟨i, h1⟩
theorem mem_listX {s : Pf} {d n : ByteArray} (h : n ∈ listX s d) : ∃ i, ((⟨d, n⟩ : Plc), i) ∈ s.names := by
  unfold listX at h
  split at h
  · obtain ⟨x, hx, rfl⟩ := List.mem_map.1 h
    exact mem_nms (sortB_mem.1 hx)
  · cases h
/-- Two file systems tell the same of a directory. -/
structure Like (s t : Pf) (d : ByteArray) : Prop where
  res : findDirRes s d = findDirRes t d
  row : listX s d = listX t d
  each : ∀ n ∈ listX s d, (findRes s (joinP d n)).2 = (findRes t (joinP d n)).2 ∧ readX s (joinP d n) = readX t (joinP d n) ∧ n.size ≤ 64
theorem Like.refl {s : Pf} {d : ByteArray} (h : CanonS s) : Like s s d := ⟨rfl, rfl, fun n hn => ⟨rfl, rfl, by
  obtain ⟨i, hi⟩ := mem_listX hn
  exact (h.names _ hi).small⟩⟩
structure Dead (s : Pf) : Prop where
  left : s.left = 0
  down : s.down = true
section
variable {s : Pf}
theorem still_tick (h : s.left = 0) : tickS s = s := by unfold tickS; rw [if_neg (by rw [h]; decide)]
theorem Dead.tick (h : Dead s) : tickS s = s := still_tick h.left
theorem Dead.begin (h : Dead s) (r : Bool) : beginRes s r = 52 := by unfold beginRes; rw [h.tick, h.down]; rfl
theorem Dead.find (h : Dead s) (a : ByteArray) : findRes s a = (none, 52) := by unfold findRes; rw [h.begin, if_pos (by decide)]
theorem Dead.findDir (h : Dead s) (a : ByteArray) : findDirRes s a = 52 := by unfold findDirRes; rw [h.begin, if_pos (by decide)]
theorem Dead.mkdir (h : Dead s) (a : ByteArray) : mkdirRes s a = 52 ∧ mkdirS s a = s := by
  have e : mkdirRes s a = 52 := by unfold mkdirRes; rw [h.begin, if_pos (by decide)]
  exact ⟨e, by unfold mkdirS; rw [e, if_neg (by decide), h.tick]⟩
theorem Dead.write (h : Dead s) (a b : ByteArray) : writeRes s a b = 52 ∧ writeS s a b = s := by
  have e : writeRes s a b = 52 := by unfold writeRes; rw [h.begin, if_pos (by decide)]
  exact ⟨e, by unfold writeS; rw [e, if_pos (by decide), h.tick]⟩
theorem Dead.rename (h : Dead s) (a b : ByteArray) : renameRes s a b = 52 ∧ renameS s a b = s := by
  have e : renameRes s a b = 52 := by unfold renameRes; rw [h.begin, if_pos (by decide)]
  exact ⟨e, by unfold renameS; rw [e, if_pos (.inl (by decide)), h.tick]⟩
theorem Dead.remove (h : Dead s) (a : ByteArray) : removeS s a = s := by unfold removeS; rw [h.find, if_pos (by decide), h.tick]
theorem Dead.syncDir (h : Dead s) (a : ByteArray) : syncDirS s a = s := by unfold syncDirS; rw [h.findDir, if_pos (by decide), h.tick]
end
section
variable {w W W' : World} {P p pr po : Nat} {s so : Pf} {l lo : Loc} {fs : Fs}
theorem Trio.onF {s' : Pf} (h : Trio w P p s l pr fs po so lo W) (ha : After W p s s' l W') : ∃ l', Trio w P p s' l' pr fs po so lo W' := by
  obtain ⟨l', hA, hm⟩ := ha
  obtain ⟨vf, gd, cd, dv, hO, hd⟩ := h.duo.doc
  refine ⟨l', ⟨h.duo.box.keep (hm.stay P h.duo.box.lt fun hg => box_off h.duo.one.f h.duo.box hg rfl), ⟨hA, fun b hb => ?_, below_moves h.duo.one.below hm h.duo.one.fn⟩, ⟨vf, gd, cd, dv, owns_doc hO fun g hg => hm.stay g (doc_lt hg) fun hf => foot_not_doc h.duo.one.f hf hg, hd⟩, h.duo.pn⟩, h.old.keep fun b hb => hm.stay b (h.old.lt hb) (fun hf => h.off b hf hb), h.oldn, fun b hb hg => ?_⟩
  · rcases hm.new b hb with e | e
    · exact h.duo.one.fn b e
    · exact Nat.le_trans h.duo.one.below.size e
  · rcases hm.new b hb with e | e
    · exact h.off b e hg
    · have := h.old.lt hg; omega
end
end Go.Proofs.YtdbcjiapbehacaaGreatDoor.Vp
namespace Go.Proofs.YtdbcjiapbehacaaGreatDoor.Vp
open Go.RowKit Go.Maps
/-- It is up, and no crash is set. -/
structure Up (s : Pf) : Prop where
  left : s.left = 0
  down : s.down = false
section
variable {s t u : Pf} {d e n path : ByteArray}
theorem Up.tick (h : Up s) : tickS s = s := still_tick h.left
theorem Up.begin (h : Up s) (r : Bool) : beginRes s r = if r then 0 else 2 := by
  unfold beginRes
  rw [h.tick, h.down]
  rfl
theorem Up.find (h : Up s) (hn : hasName path.data.toList = true) : findRes s path = if isDirS s path then ((none : Option Nat), (53 : Int)) else match fileOf s path with
    | none => (none, 50)
    | some i => (some i, 0) := by
  unfold findRes
  rw [h.begin, hn]
  rfl
theorem Up.findDir (h : Up s) (hn : isPath path.data.toList = true) : findDirRes s path = if path ≠ rootB ∧ (fileOf s path).isSome then 53 else if isDirS s path then 0 else 50 := by
  unfold findDirRes
  rw [h.begin, hn]
  rfl
/-- Nothing but files' durable contents has changed. -/
structure Calm (s t : Pf) : Prop where
  names : t.names = s.names
  waits : t.waits = s.waits
  same : ∀ i, (s.files i).c = (s.files i).d → (t.files i).c = (t.files i).d
theorem Calm.refl (s : Pf) : Calm s s := ⟨rfl, rfl, fun _ h => h⟩
theorem Calm.trans (h : Calm s t) (k : Calm t u) : Calm s u := ⟨k.names.trans h.names, k.waits.trans h.waits, fun i hi => k.same i (h.same i hi)⟩
theorem Calm.dir (h : Calm s t) (e : ByteArray) : isDirS t e = isDirS s e := by unfold isDirS; rw [h.waits]
theorem Calm.file (h : Calm s t) (e : ByteArray) : fileOf t e = fileOf s e := by unfold fileOf; rw [h.names]
theorem Up.sync (h : Up s) (path : ByteArray) : Calm s (syncS s path) ∧ Up (syncS s path) := by
  unfold syncS
  split
  · rw [h.tick]; exact ⟨Calm.refl s, h⟩
  · rename_i i _
    rw [h.tick]
    refine ⟨⟨rfl, rfl, fun j hj => ?_⟩, h.left, h.down⟩
    show (putFile s.files i _ j).c = (putFile s.files i _ j).d
    unfold putFile
    split
    · rfl
    · exact hj
/-- All that a directory has is durable. -/
def Done (s : Pf) (d : ByteArray) : Prop := findDirRes s d = 0 → waitsOf s d = [] ∧ ∀ n i, look s.names ⟨d, n⟩ = some i → (s.files i).c = (s.files i).d ∨ isDirS s (joinP d n) = true
theorem Up.findDir_calm (hs : Up s) (ht : Up t) (hn : isPath path.data.toList = true) (h1 : fileOf t path = fileOf s path) (h2 : isDirS t path = isDirS s path) : findDirRes t path = findDirRes s path := by
  rw [hs.findDir hn, ht.findDir hn, h1, h2]
/-- SyncDir, where it is answered OK. -/
theorem Up.keeps (h : Up s) (h0 : findDirRes s d = 0) : syncDirS s d = keepS s d (waitsOf s d).length := by
  unfold syncDirS
  rw [if_neg (by rw [h0]; simp), h.tick]
theorem keep_wait (s : Pf) (d : ByteArray) (k : Nat) (e : ByteArray) : waitsOf (keepS s d k) e = if e = d then [] else waitsOf s e := waits_store _ _ _ _
theorem keep_dir {k : Nat} (hd : isDirS s d = true) (e : ByteArray) : isDirS (keepS s d k) e = isDirS s e := by
  have h : isDirS (keepS s d k) e = (decide (e = d) || isDirS s e) := dir_store _ _ _ _
  rw [h]
  by_cases he : e = d
  · subst he; rw [hd]; simp
  · simp [he]
theorem Up.syncDir (h : Up s) (d : ByteArray) : Up (syncDirS s d) := by
  unfold syncDirS
  split
  · rw [h.tick]; exact h
  · rw [h.tick]; exact ⟨h.left, h.down⟩
theorem Done.syncDir (h : Up s) (hp : isPath d.data.toList = true) (e : ByteArray) (hd : Done s d) : Done (syncDirS s e) d := by
  by_cases h0 : findDirRes s e = 0
  · rw [h.keeps h0]
    have hdir := findDir_is h0
    have hu : Up (keepS s e (waitsOf s e).length) := ⟨h.left, h.down⟩
    intro h1
    rw [h.findDir_calm hu hp rfl (keep_dir hdir d)] at h1
    obtain ⟨h2, h3⟩ := hd h1
    refine ⟨?_, fun n i hi => ?_⟩
    · rw [keep_wait]; split
      · rfl
      · exact h2
    · rw [keep_dir hdir]; exact h3 n i hi
  · have e1 : syncDirS s e = s := by unfold syncDirS; rw [if_pos h0, h.tick]
    rw [e1]; exact hd
theorem mid_dir : ∀ (ds : List ByteArray) (x : Pf × Nat), (∀ d ∈ ds, isDirS x.1 d = true) → ∀ e, isDirS (ds.foldl stepD x).1 e = isDirS x.1 e
  | [], _, _, _ => rfl
  | d :: ds, x, h, e => by
    have hd : isDirS x.1 d = true := h d (List.mem_cons_self ..)
    have h1 : ∀ e, isDirS (stepD x d).1 e = isDirS x.1 e := fun e => keep_dir hd e
    rw [List.foldl_cons, mid_dir ds (stepD x d) (fun d' hd' => by rw [h1]; exact h d' (List.mem_cons_of_mem _ hd')) e, h1]
theorem mid_files : ∀ (ds : List ByteArray) (x : Pf × Nat), (ds.foldl stepD x).1.files = x.1.files
  | [], _ => rfl
  | d :: ds, x => by rw [List.foldl_cons, mid_files ds (stepD x d)]; rfl
end
end Go.Proofs.YtdbcjiapbehacaaGreatDoor.Vp
namespace Go.Proofs.YtdbcjiapbehacaaGreatDoor.Vp
open Go.RowKit Go.Maps
open Go.Proofs.YtdbcjiapbehacaaGreatDoor.Vf (Hold OwnR Owns Fs FineD Moves Reads Reads.at_ Reads.len Reads.keep bl_drewN)
section
variable {w W : World} {P p pr po : Nat} {s so : Pf} {l lo : Loc} {fs : Fs}
theorem sameL_self (X : List ByteArray) : sameL X X = true := by unfold sameL; simp
end
end Go.Proofs.YtdbcjiapbehacaaGreatDoor.Vp
