/-
  Layer 5: VpV VpX VpW, one behind the other.
-/
import Derived.Test.YtdbcjiapbehacaaGreatDoorVpU
/-! Layer 5: how long names are; a file system that is down; two that look alike. -/
namespace Go.Proofs.YtdbcjiapbehacaaGreatDoor.Vp
open Go.RowKit Go.Maps
open Go.Proofs.YtdbcjiapbehacaaGreatDoor.Vf (Hold OwnR Owns Fs FineD Moves Reads)

/-! ### Names have at most 64 bytes -/
theorem pieces_one : ∀ {t : List UInt8}, (47 : UInt8) ∉ t → pieces t = [t]
  | [], _ => rfl
  | c :: t, h => by
    have hc : c ≠ 47 := fun e => h (by rw [e]; exact List.mem_cons_self ..)
    rw [pieces, if_neg hc, pieces_one (fun e => h (List.mem_cons_of_mem _ e))]
theorem pieces_last {t : List UInt8} (h : (47 : UInt8) ∉ t) : ∀ u : List UInt8, t ∈ (pieces (u ++ 47 :: t)).tail
  | [] => by
    show t ∈ (pieces (47 :: t)).tail
    rw [pieces, if_pos rfl, pieces_one h]; simp
  | c :: u => by
    have ih := pieces_last h u
    show t ∈ (pieces (c :: (u ++ 47 :: t))).tail
    obtain ⟨x, xs, hx⟩ := pieces_ne (u ++ 47 :: t)
    rw [hx] at ih
    unfold pieces
    by_cases hc : c = 47
    · rw [if_pos hc, hx]; exact List.mem_cons_of_mem _ ih
    · rw [if_neg hc, hx]; exact ih
theorem good_small {t : List UInt8} (h : goodName t = true) : t.length ≤ 64 := by
  unfold goodName at h
  rw [Bool.and_eq_true, Bool.and_eq_true, decide_eq_true_eq, decide_eq_true_eq] at h
  exact h.1.2
theorem good_last {t : List UInt8} (h : (47 : UInt8) ∉ t) : ∀ {u : List UInt8}, hasName (u ++ 47 :: t) = true → t.length ≤ 64
  | [], hn => by
    have h1 : (decide ((47 : UInt8) = 47) && (pieces t).all goodName) = true := hn
    rw [Bool.and_eq_true, pieces_one h] at h1
    exact good_small (List.all_eq_true.1 h1.2 t (List.mem_cons_self ..))
  | c :: u, hn => by
    have h1 : (decide (c = 47) && (pieces (u ++ 47 :: t)).all goodName) = true := hn
    rw [Bool.and_eq_true] at h1
    exact good_small (List.all_eq_true.1 h1.2 t (List.mem_of_mem_tail (pieces_last h u)))
theorem name_small {path : ByteArray} (h : hasName path.data.toList = true) : (plcOf path).n.size ≤ 64 := by
  have hcut := (good_slashed h).cut
  obtain ⟨L, hL⟩ : ∃ L, path.data.toList = L := ⟨_, rfl⟩
  have hsz : path.size = L.length := by rw [Lib.size_eq, hL]
  rcases Lib.lastIndexByte_spec path 47 with ⟨he, _⟩ | ⟨i, hi, he, hc, hrest⟩
  · rw [hcut.1] at he; omega
  · have hic : cutOf path = i := by have := hcut.1; omega
    have hat : ∀ (j : Nat) (hj : j < path.data.size), L[j]? = some path.data[j] := fun j hj => by rw [← hL, Array.getElem?_toList, Array.getElem?_eq_getElem hj]
    have h47 : L[i]? = some 47 := by
      rw [hat i hi]
      rw [getElem!_pos path.data i hi] at hc
      congr 1
      exact UInt8.toNat_inj.1 (by have h9 : ((path.data[i].toNat : Nat) : Int) = 47 := hc; show path.data[i].toNat = 47; omega)
    have hno : (47 : UInt8) ∉ L.drop (i + 1) := by
      intro hm
      obtain ⟨k, hk, hk2⟩ := List.getElem_of_mem hm
      have hk3 : L[i + 1 + k]? = some 47 := by rw [← List.getElem?_drop, List.getElem?_eq_getElem hk, hk2]
      have hk4 : i + 1 + k < path.data.size := by
        rw [List.length_drop, ← hsz] at hk
        show i + 1 + k < path.size
        omega
      have h3 := hrest (i + 1 + k) (by omega) hk4
      rw [getElem!_pos path.data _ hk4] at h3
      have e := hat (i + 1 + k) hk4
      rw [hk3] at e
      injection e with e
      rw [← e] at h3
      exact h3 rfl
    have hlt : i < L.length := by rw [← hsz]; exact hi
    have e : L = L.take i ++ 47 :: L.drop (i + 1) := by
      have e1 : L = L.take i ++ L.drop i := (List.take_append_drop _ _).symm
      have e2 : L.drop i = 47 :: L.drop (i + 1) := by
        rw [List.drop_eq_getElem_cons hlt]
        rw [List.getElem?_eq_getElem hlt] at h47
        injection h47 with h47; rw [h47]
      rw [e2] at e1; exact e1
    have hg : hasName L = true := by rw [← hL]; exact h
    rw [e] at hg
    have h64 := good_last hno hg
    have hn : (plcOf path).n.data.toList = L.drop (i + 1) := by
      show (path.extract (cutOf path + 1) path.size).data.toList = _
      rw [Lib.extract_data, hL, hic, List.take_of_length_le]
      rw [List.length_drop]; omega
    rw [Lib.size_eq, hn]; exact h64
theorem Canon.small {x : Plc} (h : Canon x) : x.n.size ≤ 64 := by
  obtain ⟨_, path, hp, rfl⟩ := h
  exact name_small hp

/-! ### Paths in three directories -/
def pD : ByteArray := ⟨#[47, 100]⟩
def pE : ByteArray := ⟨#[47, 101]⟩
def dirs3 : List ByteArray := [rootB, pD, pE]
/-- The path of a name in a directory, as the laws put it. -/
def joinP (d n : ByteArray) : ByteArray := if (d.toList == [47]) = true then rootB ++ n else (d ++ rootB) ++ n
theorem join_path {d : ByteArray} (hd : d ∈ dirs3) (n : ByteArray) : pathOfP ⟨d, n⟩ = joinP d n := by
  have key : ∀ {d : ByteArray} {p : ByteArray}, (⟨(Lib.trimSuffix d.data.toList [47]).toArray⟩ ++ rootB : ByteArray) = p → pathOfP ⟨d, n⟩ = p ++ n := fun e => by unfold pathOfP; dsimp only; rw [e]
  rcases List.mem_cons.1 hd with rfl | hd
  · rw [key (p := rootB) (by kernel_rfl)]; unfold joinP; rw [if_pos (by kernel_rfl)]
  rcases List.mem_cons.1 hd with rfl | hd
  · rw [key (p := pD ++ rootB) (by kernel_rfl)]; unfold joinP; rw [if_neg (by decide +kernel)]
  obtain rfl := List.mem_singleton.1 hd
  rw [key (p := pE ++ rootB) (by kernel_rfl)]; unfold joinP; rw [if_neg (by decide +kernel)]
theorem dirs_small {d : ByteArray} (hd : d ∈ dirs3) : d.size ≤ 2 ∧ isPath d.data.toList = true := by
  have : ∀ d ∈ dirs3, d.size ≤ 2 ∧ isPath d.data.toList = true := by decide +kernel
  exact this d hd
theorem join_size {d n : ByteArray} (hd : d.size ≤ 2) (hn : n.size ≤ 64) : (joinP d n).size ≤ 100 := by
  unfold joinP
  split
  · rw [ByteArray.size_append]; show 1 + n.size ≤ _; omega
  · rw [ByteArray.size_append, ByteArray.size_append]; show d.size + 1 + n.size ≤ _; omega
theorem canon_join {d n : ByteArray} (hd : d ∈ dirs3) (h : Canon ⟨d, n⟩) : hasName (joinP d n).data.toList = true ∧ plcOf (joinP d n) = ⟨d, n⟩ := by
  obtain ⟨_, path, hp, he⟩ := h
  have e := path_back hp
  rw [he, join_path hd] at e
  rw [e]; exact ⟨hp, he⟩

/-! ### What is listed is there -/
theorem sortB_mem {l : List (List UInt8)} {x : List UInt8} : x ∈ sortB l ↔ x ∈ l := (List.mergeSort_perm _ _).mem_iff
theorem mem_nms {dir : ByteArray} {l : List (Plc × Nat)} {x : List UInt8} (h : x ∈ nmsOf dir l) : ∃ i, ((⟨dir, ⟨x.toArray⟩⟩ : Plc), i) ∈ l := by
  unfold nmsOf at h
  obtain ⟨⟨⟨qd, qn⟩, i⟩, hq, rfl⟩ := List.mem_map.1 h
  obtain ⟨h1, h2⟩ := List.mem_filter.1 hq
  unfold inDir at h2
  have e : qd = dir := by simpa using h2
  subst e
  exact ⟨i, h1⟩
theorem mem_listX {s : Pf} {d n : ByteArray} (h : n ∈ listX s d) : ∃ i, ((⟨d, n⟩ : Plc), i) ∈ s.names := by
  unfold listX at h
  split at h
  · obtain ⟨x, hx, rfl⟩ := List.mem_map.1 h
    exact mem_nms (sortB_mem.1 hx)
  · cases h
theorem listX_len (s : Pf) (d : ByteArray) : (listX s d).length ≤ s.names.length := by
  unfold listX
  split
  · rw [List.length_map]
    unfold listP sortB
    rw [List.length_mergeSort]
    exact nms_len d s.names
  · exact Nat.zero_le _
/-- Two file systems tell the same of a directory. -/
structure Like (s t : Pf) (d : ByteArray) : Prop where
  res : findDirRes s d = findDirRes t d
  row : listX s d = listX t d
  each : ∀ n ∈ listX s d, (findRes s (joinP d n)).2 = (findRes t (joinP d n)).2 ∧ readX s (joinP d n) = readX t (joinP d n) ∧ n.size ≤ 64
theorem Like.refl {s : Pf} {d : ByteArray} (h : CanonS s) : Like s s d := ⟨rfl, rfl, fun n hn => ⟨rfl, rfl, by
  obtain ⟨i, hi⟩ := mem_listX hn
  exact (h.names _ hi).small⟩⟩

/-! ### Down -/
structure Dead (s : Pf) : Prop where
  left : s.left = 0
  down : s.down = true
section
variable {s : Pf}
theorem still_tick (h : s.left = 0) : tickS s = s := by unfold tickS; rw [if_neg (by rw [h]; decide)]
theorem Dead.tick (h : Dead s) : tickS s = s := still_tick h.left
theorem Dead.begin (h : Dead s) (r : Bool) : beginRes s r = 52 := by unfold beginRes; rw [h.tick, h.down]; rfl
theorem Dead.find (h : Dead s) (a : ByteArray) : findRes s a = (none, 52) := by unfold findRes; rw [h.begin, if_pos (by decide)]
theorem Dead.readX (h : Dead s) (a : ByteArray) : readX s a = ⟨#[]⟩ := by unfold Vp.readX; rw [h.find, if_neg (by decide)]
theorem Dead.findDir (h : Dead s) (a : ByteArray) : findDirRes s a = 52 := by unfold findDirRes; rw [h.begin, if_pos (by decide)]
theorem Dead.mkdir (h : Dead s) (a : ByteArray) : mkdirRes s a = 52 ∧ mkdirS s a = s := by
  have e : mkdirRes s a = 52 := by unfold mkdirRes; rw [h.begin, if_pos (by decide)]
  exact ⟨e, by unfold mkdirS; rw [e, if_neg (by decide), h.tick]⟩
theorem Dead.write (h : Dead s) (a b : ByteArray) : writeRes s a b = 52 ∧ writeS s a b = s := by
  have e : writeRes s a b = 52 := by unfold writeRes; rw [h.begin, if_pos (by decide)]
  exact ⟨e, by unfold writeS; rw [e, if_pos (by decide), h.tick]⟩
theorem Dead.rename (h : Dead s) (a b : ByteArray) : renameRes s a b = 52 ∧ renameS s a b = s := by
  have e : renameRes s a b = 52 := by unfold renameRes; rw [h.begin, if_pos (by decide)]
  exact ⟨e, by unfold renameS; rw [e, if_pos (.inl (by decide)), h.tick]⟩
theorem Dead.remove (h : Dead s) (a : ByteArray) : removeS s a = s := by unfold removeS; rw [h.find, if_pos (by decide), h.tick]
theorem Dead.syncDir (h : Dead s) (a : ByteArray) : syncDirS s a = s := by unfold syncDirS; rw [h.findDir, if_pos (by decide), h.tick]
/-- The next operation is the last one. -/
theorem last_tick (h : s.left = 1) : tickS s = { s with left := 0, down := true } := by
  unfold tickS
  rw [if_pos (by rw [h]; decide), h]
  simp
theorem dead_last (s : Pf) : Dead { s with left := 0, down := true } := ⟨rfl, rfl⟩
theorem last_begin (h : s.left = 1) (r : Bool) : beginRes s r = 52 := by unfold beginRes; rw [last_tick h]; rfl
end

/-! ### In memory -/
section
variable {w W W' : World} {P p pr po : Nat} {s so : Pf} {l lo : Loc} {fs : Fs}
theorem Trio.onF {s' : Pf} (h : Trio w P p s l pr fs po so lo W) (ha : After W p s s' l W') : ∃ l', Trio w P p s' l' pr fs po so lo W' := by
  obtain ⟨l', hA, hm⟩ := ha
  obtain ⟨vf, gd, cd, dv, hO, hd⟩ := h.duo.doc
  refine ⟨l', ⟨h.duo.box.keep (hm.stay P h.duo.box.lt fun hg => box_off h.duo.one.f h.duo.box hg rfl), ⟨hA, fun b hb => ?_, below_moves h.duo.one.below hm h.duo.one.fn⟩, ⟨vf, gd, cd, dv, owns_doc hO fun g hg => hm.stay g (doc_lt hg) fun hf => foot_not_doc h.duo.one.f hf hg, hd⟩, h.duo.pn⟩, h.old.keep fun b hb => hm.stay b (h.old.lt hb) (fun hf => h.off b hf hb), h.oldn, fun b hb hg => ?_⟩
  · rcases hm.new b hb with e | e
    · exact h.duo.one.fn b e
    · exact Nat.le_trans h.duo.one.below.size e
  · rcases hm.new b hb with e | e
    · exact h.off b e hg
    · have := h.old.lt hg; omega
theorem copyT {T : Nat} (h : Duo w P p s l pr fs W) (hf : Fine s T) (hT : T ≤ 100000) (hr : 0 ≤ s.room) :
    Calls Tryz.prog 25 #[.pointer (some ⟨p, 0, none⟩)] W fun e W' => ∃ po lo, e = .returned (.pointer (some ⟨po, 0, none⟩)) ∧ Trio w P p s l pr fs po s lo W' := by
  refine (copy_any p s l T W h.one.f hf.fits hT hr).mono ?_
  rintro e W' ⟨p', l', he, hA, hb, hn⟩
  exact ⟨p', l', he, h.keep hb, hA, fun b hb' => Nat.le_trans h.one.below.size (hn b hb'), fun b hb' ho => by
    have h1 := h.one.f.lt hb'
    have h2 := hn b ho
    omega⟩
theorem read_x {T : Nat} (h : At W p s l) (hf : Fine s T) (path : ByteArray) (ho : okS path) :
    Calls Tryz.prog 20 #[.pointer (some ⟨p, 0, none⟩), .string path] W fun e W' => (∃ A c, e = .returned (.tuple #[.slice A (readX s path).size c, .int .i64 (findRes s path).2]) ∧ BytesAt W' (.slice A (readX s path).size c) (readX s path)) ∧ After W p s (tickS s) l W' := by
  refine (read_any p s l path W h hf.fits.left ho).mono ?_
  rintro e W' ⟨⟨v, he, hv⟩, hA, hg⟩
  refine ⟨?_, read_after hA hg⟩
  unfold readX
  rcases hv with ⟨h0, rfl⟩ | ⟨h0, hb⟩
  · rw [if_neg h0]
    exact ⟨none, 0, he, ⟨none, 0, rfl, .inl rfl⟩⟩
  · rw [if_pos h0]
    have hb2 := hb.bytes
    obtain ⟨g, c, m, rfl, hg, hh⟩ := hb
    exact ⟨_, c, he, hb2⟩
theorem list_x {T : Nat} (h : At W p s l) (hf : Fine s T) (hT : T ≤ 100000) (path : ByteArray) (ho : okS path) :
    Calls Tryz.prog 26 #[.pointer (some ⟨p, 0, none⟩), .string path] W fun e W' => (∃ A c, e = .returned (.tuple #[.slice A (listX s path).length c, .int .i64 (findDirRes s path)]) ∧ Reads W' 9 1 (.slice A (listX s path).length c) (strs (listX s path))) ∧ After W p s (tickS s) l W' := by
  refine (list_any p s l path W h hf.fits.left ho (by have := hf.fits.names; omega)).mono ?_
  rintro e W' ⟨⟨v, he, hv⟩, hA, hg⟩
  refine ⟨?_, read_after hA hg⟩
  unfold listX
  rcases hv with ⟨h0, rfl⟩ | ⟨h0, hb⟩
  · rw [if_neg h0]
    exact ⟨none, 0, he, .inl ⟨rfl, none, 0, rfl⟩⟩
  · rw [if_pos h0]
    have e1 : (listP s path).map (fun x => [encStr x]) = strs ((listP s path).map fun l => ⟨l.toArray⟩) := by unfold strs; rw [List.map_map]; rfl
    rw [e1] at hb
    obtain ⟨A, c, rfl⟩ := hb.reads.len
    have el : (strs ((listP s path).map fun l => (⟨l.toArray⟩ : ByteArray))).length = ((listP s path).map fun l => (⟨l.toArray⟩ : ByteArray)).length := List.length_map _
    rw [el] at hb he
    exact ⟨A, c, he, hb.reads⟩
end
end Go.Proofs.YtdbcjiapbehacaaGreatDoor.Vp

/-! Layer 5: where all files and directories are synced, a crash changes nothing: told plainly. -/
namespace Go.Proofs.YtdbcjiapbehacaaGreatDoor.Vp
open Go.RowKit Go.Maps

/-- It is up, and no crash is set. -/
structure Up (s : Pf) : Prop where
  left : s.left = 0
  down : s.down = false
section
variable {s t u : Pf} {d e n path : ByteArray}
theorem Up.tick (h : Up s) : tickS s = s := still_tick h.left
theorem Up.begin (h : Up s) (r : Bool) : beginRes s r = if r then 0 else 2 := by
  unfold beginRes
  rw [h.tick, h.down]
  rfl
theorem Up.find (h : Up s) (hn : hasName path.data.toList = true) : findRes s path = if isDirS s path then ((none : Option Nat), (53 : Int)) else match fileOf s path with
    | none => (none, 50)
    | some i => (some i, 0) := by
  unfold findRes
  rw [h.begin, hn]
  rfl
theorem Up.findDir (h : Up s) (hn : isPath path.data.toList = true) : findDirRes s path = if path ≠ rootB ∧ (fileOf s path).isSome then 53 else if isDirS s path then 0 else 50 := by
  unfold findDirRes
  rw [h.begin, hn]
  rfl
theorem up_reboot (s : Pf) (c : Int) : Up (rebootS s c) := ⟨rfl, rfl⟩

/-! ### Sync, and SyncDir -/
/-- Nothing but files' durable contents has changed. -/
structure Calm (s t : Pf) : Prop where
  names : t.names = s.names
  waits : t.waits = s.waits
  same : ∀ i, (s.files i).c = (s.files i).d → (t.files i).c = (t.files i).d
theorem Calm.refl (s : Pf) : Calm s s := ⟨rfl, rfl, fun _ h => h⟩
theorem Calm.trans (h : Calm s t) (k : Calm t u) : Calm s u := ⟨k.names.trans h.names, k.waits.trans h.waits, fun i hi => k.same i (h.same i hi)⟩
theorem Calm.dir (h : Calm s t) (e : ByteArray) : isDirS t e = isDirS s e := by unfold isDirS; rw [h.waits]
theorem Calm.file (h : Calm s t) (e : ByteArray) : fileOf t e = fileOf s e := by unfold fileOf; rw [h.names]
theorem Calm.wait (h : Calm s t) (e : ByteArray) : waitsOf t e = waitsOf s e := by unfold waitsOf; rw [h.waits]
theorem Up.sync (h : Up s) (path : ByteArray) : Calm s (syncS s path) ∧ Up (syncS s path) := by
  unfold syncS
  split
  · rw [h.tick]; exact ⟨Calm.refl s, h⟩
  · rename_i i _
    rw [h.tick]
    refine ⟨⟨rfl, rfl, fun j hj => ?_⟩, h.left, h.down⟩
    show (putFile s.files i _ j).c = (putFile s.files i _ j).d
    unfold putFile
    split
    · rfl
    · exact hj
/-- Behind Sync of a name its file is durable, or the name is a directory's. -/
theorem Up.synced (h : Up s) (hd : d ∈ dirs3) (hc : Canon ⟨d, n⟩) {i : Nat} (hi : look s.names ⟨d, n⟩ = some i) : ((syncS s (joinP d n)).files i).c = ((syncS s (joinP d n)).files i).d ∨ isDirS s (joinP d n) = true := by
  obtain ⟨hn, hp⟩ := canon_join hd hc
  cases hdir : isDirS s (joinP d n) with
  | true => exact .inr rfl
  | false =>
    left
    have e : findRes s (joinP d n) = (some i, 0) := by
      rw [h.find hn, hdir]
      have : fileOf s (joinP d n) = some i := by unfold fileOf; rw [hp]; exact hi
      rw [this]; rfl
    unfold syncS
    rw [e]
    show (putFile s.files i _ i).c = (putFile s.files i _ i).d
    unfold putFile
    rw [if_pos rfl]
/-- All that a directory has is durable. -/
def Done (s : Pf) (d : ByteArray) : Prop := findDirRes s d = 0 → waitsOf s d = [] ∧ ∀ n i, look s.names ⟨d, n⟩ = some i → (s.files i).c = (s.files i).d ∨ isDirS s (joinP d n) = true
theorem Up.findDir_calm (hs : Up s) (ht : Up t) (hn : isPath path.data.toList = true) (h1 : fileOf t path = fileOf s path) (h2 : isDirS t path = isDirS s path) : findDirRes t path = findDirRes s path := by
  rw [hs.findDir hn, ht.findDir hn, h1, h2]
theorem Done.calm (hs : Up s) (ht : Up t) (hn : isPath d.data.toList = true) (h : Calm s t) (hd : Done s d) : Done t d := fun h0 => by
  rw [hs.findDir_calm ht hn (h.file d) (h.dir d)] at h0
  obtain ⟨h1, h2⟩ := hd h0
  refine ⟨(h.wait d).trans h1, fun n i hi => ?_⟩
  rw [h.names] at hi
  rw [h.dir]
  exact (h2 n i hi).imp (h.same i) id
/-- SyncDir, where it is answered OK. -/
theorem Up.keeps (h : Up s) (h0 : findDirRes s d = 0) : syncDirS s d = keepS s d (waitsOf s d).length := by
  unfold syncDirS
  rw [if_neg (by rw [h0]; simp), h.tick]
theorem keep_wait (s : Pf) (d : ByteArray) (k : Nat) (e : ByteArray) : waitsOf (keepS s d k) e = if e = d then [] else waitsOf s e := waits_store _ _ _ _
theorem keep_dir {k : Nat} (hd : isDirS s d = true) (e : ByteArray) : isDirS (keepS s d k) e = isDirS s e := by
  have h : isDirS (keepS s d k) e = (decide (e = d) || isDirS s e) := dir_store _ _ _ _
  rw [h]
  by_cases he : e = d
  · subst he; rw [hd]; simp
  · simp [he]
theorem Up.syncDir (h : Up s) (d : ByteArray) : Up (syncDirS s d) := by
  unfold syncDirS
  split
  · rw [h.tick]; exact h
  · rw [h.tick]; exact ⟨h.left, h.down⟩
theorem syncDir_names (s : Pf) (d : ByteArray) : (syncDirS s d).names = s.names := by
  unfold syncDirS
  split
  · exact tick_names s
  · exact tick_names s
theorem Done.syncDir (h : Up s) (hp : isPath d.data.toList = true) (e : ByteArray) (hd : Done s d) : Done (syncDirS s e) d := by
  by_cases h0 : findDirRes s e = 0
  · rw [h.keeps h0]
    have hdir := findDir_is h0
    have hu : Up (keepS s e (waitsOf s e).length) := ⟨h.left, h.down⟩
    intro h1
    rw [h.findDir_calm hu hp rfl (keep_dir hdir d)] at h1
    obtain ⟨h2, h3⟩ := hd h1
    refine ⟨?_, fun n i hi => ?_⟩
    · rw [keep_wait]; split
      · rfl
      · exact h2
    · rw [keep_dir hdir]; exact h3 n i hi
  · have e1 : syncDirS s e = s := by unfold syncDirS; rw [if_pos h0, h.tick]
    rw [e1]; exact hd
/-- One directory has been synced. -/
theorem done_dir (hs : Up s) (ht : Up t) (hc : Calm s t) (hp : isPath d.data.toList = true) (hl : ∀ n ∈ listX s d, ∀ i, look s.names ⟨d, n⟩ = some i → (t.files i).c = (t.files i).d ∨ isDirS s (joinP d n) = true) : Done (syncDirS t d) d := by
  by_cases h0 : findDirRes t d = 0
  · rw [ht.keeps h0]
    have hdir := findDir_is h0
    have h0s : findDirRes s d = 0 := by rw [hs.findDir_calm ht hp (hc.file d) (hc.dir d)] at h0; exact h0
    intro _
    refine ⟨by rw [keep_wait, if_pos rfl], fun n i hi => ?_⟩
    have hi2 : look s.names ⟨d, n⟩ = some i := by
      have : look t.names ⟨d, n⟩ = some i := hi
      rw [hc.names] at this; exact this
    rw [keep_dir hdir, hc.dir]
    refine hl n ?_ i hi2
    unfold listX
    rw [if_pos h0s]
    refine List.mem_map.2 ⟨n.data.toList, ?_, by simp⟩
    unfold listP
    rw [sortB_mem]
    unfold nmsOf
    exact List.mem_map.2 ⟨(⟨d, n⟩, i), List.mem_filter.2 ⟨look_mem hi2, by unfold inDir; simp⟩, rfl⟩
  · have e1 : syncDirS t d = t := by unfold syncDirS; rw [if_pos h0, ht.tick]
    rw [e1]
    exact fun h => absurd h h0

/-! ### Reboot -/
theorem mid_dir : ∀ (ds : List ByteArray) (x : Pf × Nat), (∀ d ∈ ds, isDirS x.1 d = true) → ∀ e, isDirS (ds.foldl stepD x).1 e = isDirS x.1 e
  | [], _, _, _ => rfl
  | d :: ds, x, h, e => by
    have hd : isDirS x.1 d = true := h d (List.mem_cons_self ..)
    have h1 : ∀ e, isDirS (stepD x d).1 e = isDirS x.1 e := fun e => keep_dir hd e
    rw [List.foldl_cons, mid_dir ds (stepD x d) (fun d' hd' => by rw [h1]; exact h d' (List.mem_cons_of_mem _ hd')) e, h1]
theorem reboot_dir (s : Pf) (c : Int) (e : ByteArray) : isDirS (rebootS s c) e = isDirS s e := by
  have h1 : isDirS (rebootS s c) e = isDirS (midS s c).1 e := by
    show (look ((lateS s c).1).waits e).isSome = _
    unfold lateS
    rw [(late_frame _ _).2.2.1]
    rfl
  rw [h1]
  exact mid_dir (dirB s) (s, cntOf c) (fun d hd => dirB_dirs hd) e
theorem mid_look {d : ByteArray} : ∀ (ds : List ByteArray) (x : Pf × Nat), waitsOf x.1 d = [] → ∀ n, look (ds.foldl stepD x).1.dur ⟨d, n⟩ = look x.1.dur ⟨d, n⟩
  | [], _, _, _ => rfl
  | e :: ds, x, h, n => by
    have hw : waitsOf (stepD x e).1 d = [] := by
      show waitsOf (keepS x.1 e _) d = []
      rw [keep_wait]; split
      · rfl
      · exact h
    rw [List.foldl_cons, mid_look ds (stepD x e) hw n]
    show look (takeAll x.1.dur e ((waitsOf x.1 e).take _)) ⟨d, n⟩ = _
    by_cases he : d = e
    · subst he; rw [h, List.take_nil]; rfl
    · exact look_takeAll_far he _ _
theorem reboot_look (h : Inv s) (c : Int) (hw : waitsOf s d = []) (n : ByteArray) : look (rebootS s c).names ⟨d, n⟩ = look s.names ⟨d, n⟩ := by
  have h1 : (rebootS s c).names = (midS s c).1.dur := by
    show (lateS s c).1.names = _
    unfold lateS
    rw [(late_frame _ _).1]
    rfl
  rw [h1, h.full, hw]
  exact mid_look (dirB s) (s, cntOf c) hw n
theorem late_file {i : Nat} : ∀ (qs : List Plc) (x : Pf × Nat), (x.1.files i).c = (x.1.files i).d → (qs.foldl stepF x).1.files i = x.1.files i
  | [], _, _ => rfl
  | q :: qs, x, h => by
    have h1 : (stepF x q).1.files i = x.1.files i := by
      unfold stepF
      split
      · rfl
      · rename_i j _
        show putFile x.1.files j (comeS (x.1.files j) x.2).1 i = _
        unfold putFile
        split
        · rename_i e; subst e; rw [comeS_same h]
        · rfl
    rw [List.foldl_cons, late_file qs (stepF x q) (by rw [h1]; exact h), h1]
theorem mid_files : ∀ (ds : List ByteArray) (x : Pf × Nat), (ds.foldl stepD x).1.files = x.1.files
  | [], _ => rfl
  | d :: ds, x => by rw [List.foldl_cons, mid_files ds (stepD x d)]; rfl
theorem reboot_file (s : Pf) (c : Int) {i : Nat} (h : (s.files i).c = (s.files i).d) : (rebootS s c).files i = s.files i := by
  have e : (midS s c).1.files = s.files := mid_files (dirB s) (s, cntOf c)
  show (lateS s c).1.files i = _
  unfold lateS
  have h2 : ((cloneS (midS s c).1).files i).c = ((cloneS (midS s c).1).files i).d := by
    show ((midS s c).1.files i).c = ((midS s c).1.files i).d
    rw [e]; exact h
  rw [late_file _ (cloneS (midS s c).1, (midS s c).2) h2]
  show (midS s c).1.files i = _
  rw [e]
theorem nms_nodup {dir : ByteArray} {l : List (Plc × Nat)} (h : l.Pairwise fun p q => p.1 ≠ q.1) : (nmsOf dir l).Nodup := by
  unfold nmsOf
  unfold List.Nodup
  rw [List.pairwise_map]
  refine (h.filter _).imp_of_mem fun {p q} hp hq hne e => hne ?_
  have h1 := (List.mem_filter.1 hp).2
  have h2 := (List.mem_filter.1 hq).2
  unfold inDir at h1 h2
  rw [decide_eq_true_eq] at h1 h2
  obtain ⟨⟨pd, pn⟩, i⟩ := p
  obtain ⟨⟨qd, qn⟩, j⟩ := q
  dsimp only at h1 h2 e ⊢
  rw [h1, h2]
  congr 1
  exact ByteArray.ext (Array.ext' e)
theorem nms_look {dir : ByteArray} {l : List (Plc × Nat)} (h : l.Pairwise fun p q => p.1 ≠ q.1) (x : List UInt8) : x ∈ nmsOf dir l ↔ ∃ i, look l ⟨dir, ⟨x.toArray⟩⟩ = some i := by
  constructor
  · intro hx
    obtain ⟨i, hi⟩ := mem_nms hx
    exact ⟨i, look_of_mem h hi⟩
  · rintro ⟨i, hi⟩
    unfold nmsOf
    exact List.mem_map.2 ⟨(⟨dir, ⟨x.toArray⟩⟩, i), List.mem_filter.2 ⟨look_mem hi, by unfold inDir; simp⟩, by simp⟩
theorem listP_same {dir : ByteArray} (hs : s.names.Pairwise fun p q => p.1 ≠ q.1) (ht : t.names.Pairwise fun p q => p.1 ≠ q.1) (h : ∀ n, look s.names ⟨dir, n⟩ = look t.names ⟨dir, n⟩) : listP s dir = listP t dir := by
  unfold listP
  refine sortB_perm_eq ((List.perm_ext_iff_of_nodup (nms_nodup hs) (nms_nodup ht)).2 fun x => ?_)
  rw [nms_look hs, nms_look ht]
  simp only [h]
theorem root_path : plcOf pD = ⟨rootB, ⟨#[100]⟩⟩ ∧ plcOf pE = ⟨rootB, ⟨#[101]⟩⟩ := ⟨by kernel_rfl, by kernel_rfl⟩
/-- Where all is synced, a crash changes nothing. -/
theorem reboot_like (ht : Up t) (hi : Inv t) (hc : CanonS t) (hr : (look t.waits rootB).isSome) (ha : t.names.Pairwise fun p q => p.1 ≠ q.1) (hD : ∀ d ∈ dirs3, Done t d) (c : Int)
    (hu : (rebootS { t with left := 0, down := true } c).names.Pairwise fun p q => p.1 ≠ q.1) : ∀ d ∈ dirs3, Like (rebootS { t with left := 0, down := true } c) t d := by
  obtain ⟨v, hv⟩ : ∃ v : Pf, ({ t with left := 0, down := true } : Pf) = v := ⟨_, rfl⟩
  have v1 : v.names = t.names := by rw [← hv]
  have v2 : ∀ e, waitsOf v e = waitsOf t e := fun e => by rw [← hv]; rfl
  have v3 : v.files = t.files := by rw [← hv]
  have v4 : ∀ e, isDirS v e = isDirS t e := fun e => by rw [← hv]; rfl
  have hiv : Inv v := hi.set v1 (by rw [← hv]) v2 (fun e he => by rw [v4]; exact he) (by rw [← hv]; exact Nat.le_refl _)
  rw [hv] at hu ⊢
  clear hv
  obtain ⟨u, hue⟩ : ∃ u, rebootS v c = u := ⟨_, rfl⟩
  have uu : Up u := by rw [← hue]; exact up_reboot v c
  have u1 : ∀ e, isDirS u e = isDirS t e := fun e => by rw [← hue, reboot_dir, v4]
  have u2 : ∀ d, waitsOf t d = [] → ∀ n, look u.names ⟨d, n⟩ = look t.names ⟨d, n⟩ := fun d hw n => by rw [← hue, reboot_look hiv c (by rw [v2]; exact hw) n, v1]
  have u3 : ∀ i, (t.files i).c = (t.files i).d → u.files i = t.files i := fun i h => by rw [← hue, reboot_file v c (by rw [v3]; exact h), v3]
  rw [hue] at hu ⊢
  clear hue
  have hroot : findDirRes t rootB = 0 := by
    rw [ht.findDir (by decide), if_neg (by simp)]
    have : isDirS t rootB = true := hr
    rw [this]; rfl
  have hrw := (hD rootB (by simp [dirs3]) hroot).1
  have hrf : ∀ d ∈ dirs3, d ≠ rootB → fileOf u d = fileOf t d := fun d hd hne => by
    unfold fileOf
    rcases List.mem_cons.1 hd with rfl | hd
    · exact absurd rfl hne
    rcases List.mem_cons.1 hd with rfl | hd
    · rw [root_path.1]; exact u2 rootB hrw _
    obtain rfl := List.mem_singleton.1 hd
    rw [root_path.2]; exact u2 rootB hrw _
  intro d hd
  have hp := (dirs_small hd).2
  have hres : findDirRes u d = findDirRes t d := by
    rw [uu.findDir hp, ht.findDir hp, u1]
    by_cases hne : d = rootB
    · rw [if_neg (c := d ≠ rootB ∧ (fileOf u d).isSome = true) (fun h => h.1 hne), if_neg (c := d ≠ rootB ∧ (fileOf t d).isSome = true) (fun h => h.1 hne)]
    · rw [hrf d hd hne]
  by_cases h0 : findDirRes t d = 0
  · obtain ⟨hw, hf⟩ := hD d hd h0
    have hlook := u2 d hw
    have hrow : listX u d = listX t d := by unfold listX; rw [hres, if_pos h0, if_pos h0, listP_same hu ha hlook]
    refine ⟨hres, hrow, fun n hn => ?_⟩
    rw [hrow] at hn
    obtain ⟨i, him⟩ := mem_listX hn
    have hi2 : look t.names ⟨d, n⟩ = some i := look_of_mem ha him
    have hcn := hc.names _ him
    obtain ⟨hn2, hpl⟩ := canon_join hd hcn
    have f1 : fileOf t (joinP d n) = some i := by unfold fileOf; rw [hpl]; exact hi2
    have f2 : fileOf u (joinP d n) = some i := by unfold fileOf; rw [hpl, hlook]; exact hi2
    have e1 := ht.find hn2
    have e2 := uu.find hn2
    rw [u1] at e2
    rw [f1] at e1
    rw [f2] at e2
    refine ⟨by rw [e1, e2], ?_, hcn.small⟩
    cases hdr : isDirS t (joinP d n) with
    | true =>
      rw [hdr] at e1 e2
      unfold readX
      rw [e1, e2]; rfl
    | false =>
      rw [hdr] at e1 e2
      have hfi : u.files i = t.files i := u3 i ((hf n i hi2).resolve_right (by rw [hdr]; simp))
      unfold readX readB
      rw [e1, e2]
      show (u.files i).c = (t.files i).c
      rw [hfi]
  · have hl1 : listX u d = [] := by unfold listX; rw [hres, if_neg h0]
    have hl2 : listX t d = [] := by unfold listX; rw [if_neg h0]
    exact ⟨hres, by rw [hl1, hl2], fun n hn => by rw [hl1] at hn; cases hn⟩
end
end Go.Proofs.YtdbcjiapbehacaaGreatDoor.Vp

/-! Layer 5: alike: two file systems that tell the same of a directory. -/
namespace Go.Proofs.YtdbcjiapbehacaaGreatDoor.Vp
open Go.RowKit Go.Maps
open Go.Proofs.YtdbcjiapbehacaaGreatDoor.Vf (Hold OwnR Owns Fs FineD Moves Reads Reads.at_ Reads.len Reads.keep bl_drewN)

section
variable {w W : World} {P p pr po : Nat} {s so : Pf} {l lo : Loc} {fs : Fs}
theorem listT1 {T : Nat} (h : Trio w P p s l pr fs po so lo W) (hf : Fine s T) (hT : T ≤ 100000) (hs : tickS s = s) (path : ByteArray) (ho : okS path) :
    Calls Tryz.prog 26 #[.pointer (some ⟨p, 0, none⟩), .string path] W fun e W' => (∃ A c, e = .returned (.tuple #[.slice A (listX s path).length c, .int .i64 (findDirRes s path)]) ∧ Reads W' 9 1 (.slice A (listX s path).length c) (strs (listX s path))) ∧ (∃ l', Trio w P p s l' pr fs po so lo W') ∧ Stay W W' :=
  (list_x h.duo.one.f hf hT path ho).mono fun _ _ ⟨he, ha⟩ => by rw [hs] at ha; exact ⟨he, h.onF ha, stayF h.duo.one.f ha⟩
theorem listT2 {T : Nat} (h : Trio w P p s l pr fs po so lo W) (hf : Fine so T) (hT : T ≤ 100000) (hs : tickS so = so) (path : ByteArray) (ho : okS path) :
    Calls Tryz.prog 26 #[.pointer (some ⟨po, 0, none⟩), .string path] W fun e W' => (∃ A c, e = .returned (.tuple #[.slice A (listX so path).length c, .int .i64 (findDirRes so path)]) ∧ Reads W' 9 1 (.slice A (listX so path).length c) (strs (listX so path))) ∧ (∃ lo', Trio w P p s l pr fs po so lo' W') ∧ Stay W W' :=
  (list_x h.old hf hT path ho).mono fun _ _ ⟨he, ha⟩ => by rw [hs] at ha; exact ⟨he, h.onOld ha, stayF h.old ha⟩
theorem readT1 {T : Nat} (h : Trio w P p s l pr fs po so lo W) (hf : Fine s T) (hs : tickS s = s) (path : ByteArray) (ho : okS path) :
    Calls Tryz.prog 20 #[.pointer (some ⟨p, 0, none⟩), .string path] W fun e W' => (∃ A c, e = .returned (.tuple #[.slice A (readX s path).size c, .int .i64 (findRes s path).2]) ∧ BytesAt W' (.slice A (readX s path).size c) (readX s path)) ∧ (∃ l', Trio w P p s l' pr fs po so lo W') ∧ Stay W W' :=
  (read_x h.duo.one.f hf path ho).mono fun _ _ ⟨he, ha⟩ => by rw [hs] at ha; exact ⟨he, h.onF ha, stayF h.duo.one.f ha⟩
theorem readT2 {T : Nat} (h : Trio w P p s l pr fs po so lo W) (hf : Fine so T) (hs : tickS so = so) (path : ByteArray) (ho : okS path) :
    Calls Tryz.prog 20 #[.pointer (some ⟨po, 0, none⟩), .string path] W fun e W' => (∃ A c, e = .returned (.tuple #[.slice A (readX so path).size c, .int .i64 (findRes so path).2]) ∧ BytesAt W' (.slice A (readX so path).size c) (readX so path)) ∧ (∃ lo', Trio w P p s l pr fs po so lo' W') ∧ Stay W W' :=
  (read_x h.old hf path ho).mono fun _ _ ⟨he, ha⟩ => by rw [hs] at ha; exact ⟨he, h.onOld ha, stayF h.old ha⟩
theorem sameL_self (X : List ByteArray) : sameL X X = true := by unfold sameL; simp
set_option maxRecDepth 100000 in
set_option maxHeartbeats 4000000 in
theorem alike_any {T : Nat} {d : ByteArray} (h : Trio w P p s l pr fs po so lo W) (hf : Fine s T) (hg : Fine so T) (hT : T ≤ 100000) (hs : tickS s = s) (hso : tickS so = so) (hd : d.size ≤ 2) (hL : Like s so d) :
    Calls Tryz.prog 28 #[.pointer (some ⟨p, 0, none⟩), .pointer (some ⟨po, 0, none⟩), .string d] W fun e W' => e = .returned (.bool true) ∧ ∃ l' lo', Trio w P p s l' pr fs po so lo' W' := by
  have hod : okS d := by unfold okS; omega
  have hX : (listX s d).length ≤ 1000000 := by have := listX_len s d; have := hf.fits.names; omega
  obtain ⟨R, hR⟩ : ∃ R, findDirRes s d = R := ⟨_, rfl⟩
  obtain ⟨X, hXe⟩ : ∃ X, listX s d = X := ⟨_, rfl⟩
  have hR2 := hL.res
  have hX2 := hL.row
  have hE := hL.each
  have HL1 : Hid (∀ V l lo, Trio w P p s l pr fs po so lo V → Calls Tryz.prog 26 #[.pointer (some ⟨p, 0, none⟩), .string d] V fun e V' => (∃ A c, e = .returned (.tuple #[.slice A X.length c, .int .i64 R]) ∧ Reads V' 9 1 (.slice A X.length c) (strs X)) ∧ (∃ l', Trio w P p s l' pr fs po so lo V') ∧ Stay V V') := Lib.hid fun V l lo h => by have := listT1 h hf hT hs d hod; rwa [hR, hXe] at this
  rw [hR] at hR2
  rw [hXe] at hX2 hE hX
  have HL2 : Hid (∀ V l lo, Trio w P p s l pr fs po so lo V → Calls Tryz.prog 26 #[.pointer (some ⟨po, 0, none⟩), .string d] V fun e V' => (∃ A c, e = .returned (.tuple #[.slice A X.length c, .int .i64 R]) ∧ Reads V' 9 1 (.slice A X.length c) (strs X)) ∧ (∃ lo', Trio w P p s l pr fs po so lo' V') ∧ Stay V V') := Lib.hid fun V l lo h => by have := listT2 h hg hT hso d hod; rwa [← hR2, ← hX2] at this
  have HE := Lib.hid hE
  have HF := Lib.hid hf; have HG := Lib.hid hg; have HS := Lib.hid hs; have HSO := Lib.hid hso
  have T0 := Lib.hid h
  have eR : (R != R) = false := by simp
  have HX := Lib.hid hX
  clear h hf hg hs hso hL hR hXe hR2 hX2 hE hod
  go_enter Tryz.func28, Tryz.ntmps28
  go_wp2_with (first
    | (go_at_call 26; refine (HL1.out _ _ _ T0.out).mono ?_; clear HL1; rintro e v1 ⟨⟨A1, c1, rfl, hr1⟩, ⟨l1, t1⟩, st1⟩; have T1 := Lib.hid t1; have R1 := Lib.hid hr1; clear t1 hr1 st1)
    | (go_at_call 26; refine (HL2.out _ _ _ T1.out).mono ?_; clear HL2; rintro e v2 ⟨⟨A2, c2, rfl, hr2⟩, ⟨lo2, t2⟩, st2⟩; have T2 := Lib.hid t2; have R2 := Lib.hid hr2; have R3 := Lib.hid (R1.out.keep (st2.same (by decide))); clear t2 hr2 st2)
    | (go_at_call 38; refine (same_any _ _ X X _ R3.out R2.out HX.out).mono ?_; rintro e w4 ⟨rfl, m, rfl⟩; rw [sameL_self])
    | fail)
  go_loopw [11] (fun i wr => ∃ (k : Nat) (l' lo' : Loc), k ≤ X.length ∧ i = .int .i64 k ∧ Trio w P p s l' pr fs po so lo' wr ∧ Reads wr 9 1 (.slice A1 X.length c1) (strs X)) (fun i _ => X.length - (intOf i).toNat)
  case atStart => exact ⟨0, _, _, Nat.zero_le _, rfl, T2.out.keep (bl_drewN (Below.refl _ _) _), R3.out.keep ((Stay.below (bl_drewN (Below.refl _ _) _)).same (by decide))⟩
  case round =>
    obtain ⟨k, l', lo', hkn, rfl, ht, hrd⟩ := hrel
    have TT := Lib.hid ht; have RD := Lib.hid hrd
    clear ht hrd T0 T1 T2 R1 R2 R3
    by_cases hlt : k < X.length
    · obtain ⟨n, hn⟩ : ∃ n, X[k]? = some n := ⟨_, List.getElem?_eq_getElem hlt⟩
      obtain ⟨he1, he2, hn64⟩ := HE.out n (List.mem_of_getElem? hn)
      obtain ⟨ga, cc, hA, hc1, hcA⟩ := RD.out.at_ (k := k) (cs := [.string n]) (by unfold strs; rw [List.getElem?_map, hn]; rfl)
      rw [show (strs X).length = X.length from List.length_map _] at hA
      injection hA with e1 _ e3
      subst e1; subst e3
      have c0 : wr.cell? ⟨ga, k, none⟩ = some (.string n) := by have := hcA 0 _ rfl; simpa using this
      have hk0 : (0 : Int) ≤ (k : Int) := by omega
      have hk1 : (k : Int) < (X.length : Int) := by omega
      have hqs := join_size hd hn64
      have hoq : okS (joinP d n) := by unfold okS; omega
      obtain ⟨E, hE2⟩ : ∃ E, (findRes s (joinP d n)).2 = E := ⟨_, rfl⟩
      obtain ⟨Y, hY⟩ : ∃ Y, readX s (joinP d n) = Y := ⟨_, rfl⟩
      rw [hE2] at he1
      rw [hY] at he2
      have HRa : Hid (∀ V l lo, Trio w P p s l pr fs po so lo V → Calls Tryz.prog 20 #[.pointer (some ⟨p, 0, none⟩), .string (joinP d n)] V fun e V' => (∃ A c, e = .returned (.tuple #[.slice A Y.size c, .int .i64 E]) ∧ BytesAt V' (.slice A Y.size c) Y) ∧ (∃ l', Trio w P p s l' pr fs po so lo V') ∧ Stay V V') := Lib.hid fun V l lo h => by have := readT1 h HF.out HS.out (joinP d n) hoq; rwa [hE2, hY] at this
      have HRb : Hid (∀ V l lo, Trio w P p s l pr fs po so lo V → Calls Tryz.prog 20 #[.pointer (some ⟨po, 0, none⟩), .string (joinP d n)] V fun e V' => (∃ A c, e = .returned (.tuple #[.slice A Y.size c, .int .i64 E]) ∧ BytesAt V' (.slice A Y.size c) Y) ∧ (∃ lo', Trio w P p s l pr fs po so lo' V') ∧ Stay V V') := Lib.hid fun V l lo h => by have := readT2 h HG.out HSO.out (joinP d n) hoq; rwa [← he1, ← he2] at this
      have eE : (E != E) = false := by simp
      have eY : (Y.toList == Y.toList) = true := by simp
      have z1 : d.size + 1 ≤ 9223372036854775807 := by omega
      have z2 : d.size + (⟨#[47]⟩ : ByteArray).size ≤ 9223372036854775807 := by show d.size + 1 ≤ _; omega
      have z3 : (d ++ ⟨#[47]⟩).size + n.size ≤ 9223372036854775807 := by rw [ByteArray.size_append]; show d.size + 1 + n.size ≤ _; omega
      have z4 : d.size + 1 + n.size ≤ 9223372036854775807 := by omega
      have z5 : 1 + n.size ≤ 9223372036854775807 := by omega
      have z6 : (⟨#[47]⟩ : ByteArray).size + n.size ≤ 9223372036854775807 := by show 1 + n.size ≤ _; omega
      clear hE2 hY hqs hoq hcA hc1 he1 he2 hn
      cases hroot : (d.toList == [47])
      · have hq : joinP d n = (d ++ ⟨#[47]⟩) ++ n := by unfold joinP; rw [if_neg (by rw [hroot]; simp)]; rfl
        rw [hq] at HRa HRb
        clear hq
        go_wp2_with (first
          | (go_at_call 20; refine (HRa.out _ _ _ TT.out).mono ?_; clear HRa; rintro e v1 ⟨⟨B1, d1, rfl, hb1⟩, ⟨l1, t1⟩, st1⟩; have T1 := Lib.hid t1; have RD1 := Lib.hid (RD.out.keep (st1.same (by decide))); have Y1 := Lib.hid hb1; clear t1 hb1 st1)
          | (go_at_call 20; refine (HRb.out _ _ _ T1.out).mono ?_; clear HRb; rintro e v2 ⟨⟨B2, d2, rfl, hb2⟩, ⟨lo2, t2⟩, st2⟩; have T2 := Lib.hid t2; have RD2 := Lib.hid (RD1.out.keep (st2.same (by decide))); have q2 := hb2.text; have q1 := (Y1.out.stay st2).text; clear t2 hb2 st2)
          | fail)
        exact ⟨⟨k + 1, l1, lo2, hlt, by go_num, T2.out, RD2.out⟩, by simp [intOf]; omega⟩
      · have hq : joinP d n = ⟨#[47]⟩ ++ n := by unfold joinP; rw [if_pos hroot]; rfl
        rw [hq] at HRa HRb
        clear hq
        go_wp2_with (first
          | (go_at_call 20; refine (HRa.out _ _ _ TT.out).mono ?_; clear HRa; rintro e v1 ⟨⟨B1, d1, rfl, hb1⟩, ⟨l1, t1⟩, st1⟩; have T1 := Lib.hid t1; have RD1 := Lib.hid (RD.out.keep (st1.same (by decide))); have Y1 := Lib.hid hb1; clear t1 hb1 st1)
          | (go_at_call 20; refine (HRb.out _ _ _ T1.out).mono ?_; clear HRb; rintro e v2 ⟨⟨B2, d2, rfl, hb2⟩, ⟨lo2, t2⟩, st2⟩; have T2 := Lib.hid t2; have RD2 := Lib.hid (RD1.out.keep (st2.same (by decide))); have q2 := hb2.text; have q1 := (Y1.out.stay st2).text; clear t2 hb2 st2)
          | fail)
        exact ⟨⟨k + 1, l1, lo2, hlt, by go_num, T2.out, RD2.out⟩, by simp [intOf]; omega⟩
    · go_wp2_with fail
      go_ret
      exact ⟨rfl, _, _, TT.out⟩
end
end Go.Proofs.YtdbcjiapbehacaaGreatDoor.Vp
