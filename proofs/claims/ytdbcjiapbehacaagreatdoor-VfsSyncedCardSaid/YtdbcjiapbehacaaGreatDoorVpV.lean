/-
  Layer 5: how long names are; a file system that is down; two that look alike.
-/
import Derived.Test.YtdbcjiapbehacaaGreatDoorVpU
namespace Go.Proofs.YtdbcjiapbehacaaGreatDoor.Vp
open Go.RowKit Go.Maps
open Go.Proofs.YtdbcjiapbehacaaGreatDoor.Vf (Hold OwnR Owns Fs FineD Moves Reads)

/-! ### Names have at most 64 bytes -/
theorem pieces_one : ∀ {t : List UInt8}, (47 : UInt8) ∉ t → pieces t = [t]
  | [], _ => rfl
  | c :: t, h => by
    have hc : c ≠ 47 := fun e => h (by rw [e]; exact List.mem_cons_self ..)
    rw [pieces, if_neg hc, pieces_one (fun e => h (List.mem_cons_of_mem _ e))]
theorem pieces_last {t : List UInt8} (h : (47 : UInt8) ∉ t) : ∀ u : List UInt8, t ∈ (pieces (u ++ 47 :: t)).tail
  | [] => by
    show t ∈ (pieces (47 :: t)).tail
    rw [pieces, if_pos rfl, pieces_one h]; simp
  | c :: u => by
    have ih := pieces_last h u
    show t ∈ (pieces (c :: (u ++ 47 :: t))).tail
    obtain ⟨x, xs, hx⟩ := pieces_ne (u ++ 47 :: t)
    rw [hx] at ih
    unfold pieces
    by_cases hc : c = 47
    · rw [if_pos hc, hx]; exact List.mem_cons_of_mem _ ih
    · rw [if_neg hc, hx]; exact ih
theorem good_small {t : List UInt8} (h : goodName t = true) : t.length ≤ 64 := by
  unfold goodName at h
  rw [Bool.and_eq_true, Bool.and_eq_true, decide_eq_true_eq, decide_eq_true_eq] at h
  exact h.1.2
theorem good_last {t : List UInt8} (h : (47 : UInt8) ∉ t) : ∀ {u : List UInt8}, hasName (u ++ 47 :: t) = true → t.length ≤ 64
  | [], hn => by
    have h1 : (decide ((47 : UInt8) = 47) && (pieces t).all goodName) = true := hn
    rw [Bool.and_eq_true, pieces_one h] at h1
    exact good_small (List.all_eq_true.1 h1.2 t (List.mem_cons_self ..))
  | c :: u, hn => by
    have h1 : (decide (c = 47) && (pieces (u ++ 47 :: t)).all goodName) = true := hn
    rw [Bool.and_eq_true] at h1
    exact good_small (List.all_eq_true.1 h1.2 t (List.mem_of_mem_tail (pieces_last h u)))
theorem name_small {path : ByteArray} (h : hasName path.data.toList = true) : (plcOf path).n.size ≤ 64 := by
  have hcut := (good_slashed h).cut
  obtain ⟨L, hL⟩ : ∃ L, path.data.toList = L := ⟨_, rfl⟩
  have hsz : path.size = L.length := by rw [Lib.size_eq, hL]
  rcases Lib.lastIndexByte_spec path 47 with ⟨he, _⟩ | ⟨i, hi, he, hc, hrest⟩
  · rw [hcut.1] at he; omega
  · have hic : cutOf path = i := by have := hcut.1; omega
    have hat : ∀ (j : Nat) (hj : j < path.data.size), L[j]? = some path.data[j] := fun j hj => by rw [← hL, Array.getElem?_toList, Array.getElem?_eq_getElem hj]
    have h47 : L[i]? = some 47 := by
      rw [hat i hi]
      rw [getElem!_pos path.data i hi] at hc
      congr 1
      exact UInt8.toNat_inj.1 (by have h9 : ((path.data[i].toNat : Nat) : Int) = 47 := hc; show path.data[i].toNat = 47; omega)
    have hno : (47 : UInt8) ∉ L.drop (i + 1) := by
      intro hm
      obtain ⟨k, hk, hk2⟩ := List.getElem_of_mem hm
      have hk3 : L[i + 1 + k]? = some 47 := by rw [← List.getElem?_drop, List.getElem?_eq_getElem hk, hk2]
      have hk4 : i + 1 + k < path.data.size := by
        rw [List.length_drop, ← hsz] at hk
        show i + 1 + k < path.size
        omega
      have h3 := hrest (i + 1 + k) (by omega) hk4
      rw [getElem!_pos path.data _ hk4] at h3
      have e := hat (i + 1 + k) hk4
      rw [hk3] at e
      injection e with e
      rw [← e] at h3
      exact h3 rfl
    have hlt : i < L.length := by rw [← hsz]; exact hi
    have e : L = L.take i ++ 47 :: L.drop (i + 1) := by
      have e1 : L = L.take i ++ L.drop i := (List.take_append_drop _ _).symm
      have e2 : L.drop i = 47 :: L.drop (i + 1) := by
        rw [List.drop_eq_getElem_cons hlt]
        rw [List.getElem?_eq_getElem hlt] at h47
        injection h47 with h47; rw [h47]
      rw [e2] at e1; exact e1
    have hg : hasName L = true := by rw [← hL]; exact h
    rw [e] at hg
    have h64 := good_last hno hg
    have hn : (plcOf path).n.data.toList = L.drop (i + 1) := by
      show (path.extract (cutOf path + 1) path.size).data.toList = _
      rw [Lib.extract_data, hL, hic, List.take_of_length_le]
      rw [List.length_drop]; omega
    rw [Lib.size_eq, hn]; exact h64
theorem Canon.small {x : Plc} (h : Canon x) : x.n.size ≤ 64 := by
  obtain ⟨_, path, hp, rfl⟩ := h
  exact name_small hp

/-! ### Paths in three directories -/
def pD : ByteArray := ⟨#[47, 100]⟩
def pE : ByteArray := ⟨#[47, 101]⟩
def dirs3 : List ByteArray := [rootB, pD, pE]
/-- The path of a name in a directory, as the laws put it. -/
def joinP (d n : ByteArray) : ByteArray := if (d.toList == [47]) = true then rootB ++ n else (d ++ rootB) ++ n
theorem join_path {d : ByteArray} (hd : d ∈ dirs3) (n : ByteArray) : pathOfP ⟨d, n⟩ = joinP d n := by
  have key : ∀ {d : ByteArray} {p : ByteArray}, (⟨(Lib.trimSuffix d.data.toList [47]).toArray⟩ ++ rootB : ByteArray) = p → pathOfP ⟨d, n⟩ = p ++ n := fun e => by unfold pathOfP; dsimp only; rw [e]
  rcases List.mem_cons.1 hd with rfl | hd
  · rw [key (p := rootB) (by kernel_rfl)]; unfold joinP; rw [if_pos (by kernel_rfl)]
  rcases List.mem_cons.1 hd with rfl | hd
  · rw [key (p := pD ++ rootB) (by kernel_rfl)]; unfold joinP; rw [if_neg (by decide +kernel)]
  obtain rfl := List.mem_singleton.1 hd
  rw [key (p := pE ++ rootB) (by kernel_rfl)]; unfold joinP; rw [if_neg (by decide +kernel)]
theorem dirs_small {d : ByteArray} (hd : d ∈ dirs3) : d.size ≤ 2 ∧ isPath d.data.toList = true := by
  have : ∀ d ∈ dirs3, d.size ≤ 2 ∧ isPath d.data.toList = true := by decide +kernel
  exact this d hd
theorem join_size {d n : ByteArray} (hd : d.size ≤ 2) (hn : n.size ≤ 64) : (joinP d n).size ≤ 100 := by
  unfold joinP
  split
  · rw [ByteArray.size_append]; show 1 + n.size ≤ _; omega
  · rw [ByteArray.size_append, ByteArray.size_append]; show d.size + 1 + n.size ≤ _; omega
theorem canon_join {d n : ByteArray} (hd : d ∈ dirs3) (h : Canon ⟨d, n⟩) : hasName (joinP d n).data.toList = true ∧ plcOf (joinP d n) = ⟨d, n⟩ := by
  obtain ⟨_, path, hp, he⟩ := h
  have e := path_back hp
  rw [he, join_path hd] at e
  rw [e]; exact ⟨hp, he⟩

/-! ### What is listed is there -/
theorem sortB_mem {l : List (List UInt8)} {x : List UInt8} : x ∈ sortB l ↔ x ∈ l := (List.mergeSort_perm _ _).mem_iff
theorem mem_nms {dir : ByteArray} {l : List (Plc × Nat)} {x : List UInt8} (h : x ∈ nmsOf dir l) : ∃ i, ((⟨dir, ⟨x.toArray⟩⟩ : Plc), i) ∈ l := by
  unfold nmsOf at h
  obtain ⟨⟨⟨qd, qn⟩, i⟩, hq, rfl⟩ := List.mem_map.1 h
  obtain ⟨h1, h2⟩ := List.mem_filter.1 hq
  unfold inDir at h2
  have e : qd = dir := by simpa using h2
  subst e
  exact ⟨i, h1⟩
theorem mem_listX {s : Pf} {d n : ByteArray} (h : n ∈ listX s d) : ∃ i, ((⟨d, n⟩ : Plc), i) ∈ s.names := by
  unfold listX at h
  split at h
  · obtain ⟨x, hx, rfl⟩ := List.mem_map.1 h
    exact mem_nms (sortB_mem.1 hx)
  · cases h
theorem listX_len (s : Pf) (d : ByteArray) : (listX s d).length ≤ s.names.length := by
  unfold listX
  split
  · rw [List.length_map]
    unfold listP sortB
    rw [List.length_mergeSort]
    exact nms_len d s.names
  · exact Nat.zero_le _
/-- Two file systems tell the same of a directory. -/
structure Like (s t : Pf) (d : ByteArray) : Prop where
  res : findDirRes s d = findDirRes t d
  row : listX s d = listX t d
  each : ∀ n ∈ listX s d, (findRes s (joinP d n)).2 = (findRes t (joinP d n)).2 ∧ readX s (joinP d n) = readX t (joinP d n) ∧ n.size ≤ 64
theorem Like.refl {s : Pf} {d : ByteArray} (h : CanonS s) : Like s s d := ⟨rfl, rfl, fun n hn => ⟨rfl, rfl, by
  obtain ⟨i, hi⟩ := mem_listX hn
  exact (h.names _ hi).small⟩⟩

/-! ### Down -/
structure Dead (s : Pf) : Prop where
  left : s.left = 0
  down : s.down = true
section
variable {s : Pf}
theorem still_tick (h : s.left = 0) : tickS s = s := by unfold tickS; rw [if_neg (by rw [h]; decide)]
theorem Dead.tick (h : Dead s) : tickS s = s := still_tick h.left
theorem Dead.begin (h : Dead s) (r : Bool) : beginRes s r = 52 := by unfold beginRes; rw [h.tick, h.down]; rfl
theorem Dead.find (h : Dead s) (a : ByteArray) : findRes s a = (none, 52) := by unfold findRes; rw [h.begin, if_pos (by decide)]
theorem Dead.readX (h : Dead s) (a : ByteArray) : readX s a = ⟨#[]⟩ := by unfold Vp.readX; rw [h.find, if_neg (by decide)]
theorem Dead.findDir (h : Dead s) (a : ByteArray) : findDirRes s a = 52 := by unfold findDirRes; rw [h.begin, if_pos (by decide)]
theorem Dead.mkdir (h : Dead s) (a : ByteArray) : mkdirRes s a = 52 ∧ mkdirS s a = s := by
  have e : mkdirRes s a = 52 := by unfold mkdirRes; rw [h.begin, if_pos (by decide)]
  exact ⟨e, by unfold mkdirS; rw [e, if_neg (by decide), h.tick]⟩
theorem Dead.write (h : Dead s) (a b : ByteArray) : writeRes s a b = 52 ∧ writeS s a b = s := by
  have e : writeRes s a b = 52 := by unfold writeRes; rw [h.begin, if_pos (by decide)]
  exact ⟨e, by unfold writeS; rw [e, if_pos (by decide), h.tick]⟩
theorem Dead.rename (h : Dead s) (a b : ByteArray) : renameRes s a b = 52 ∧ renameS s a b = s := by
  have e : renameRes s a b = 52 := by unfold renameRes; rw [h.begin, if_pos (by decide)]
  exact ⟨e, by unfold renameS; rw [e, if_pos (.inl (by decide)), h.tick]⟩
theorem Dead.remove (h : Dead s) (a : ByteArray) : removeS s a = s := by unfold removeS; rw [h.find, if_pos (by decide), h.tick]
theorem Dead.syncDir (h : Dead s) (a : ByteArray) : syncDirS s a = s := by unfold syncDirS; rw [h.findDir, if_pos (by decide), h.tick]
/-- The next operation is the last one. -/
theorem last_tick (h : s.left = 1) : tickS s = { s with left := 0, down := true } := by
  unfold tickS
  rw [if_pos (by rw [h]; decide), h]
  simp
theorem dead_last (s : Pf) : Dead { s with left := 0, down := true } := ⟨rfl, rfl⟩
theorem last_begin (h : s.left = 1) (r : Bool) : beginRes s r = 52 := by unfold beginRes; rw [last_tick h]; rfl
end

/-! ### In memory -/
section
variable {w W W' : World} {P p pr po : Nat} {s so : Pf} {l lo : Loc} {fs : Fs}
theorem Trio.onF {s' : Pf} (h : Trio w P p s l pr fs po so lo W) (ha : After W p s s' l W') : ∃ l', Trio w P p s' l' pr fs po so lo W' := by
  obtain ⟨l', hA, hm⟩ := ha
  obtain ⟨vf, gd, cd, dv, hO, hd⟩ := h.duo.doc
  refine ⟨l', ⟨h.duo.box.keep (hm.stay P h.duo.box.lt fun hg => box_off h.duo.one.f h.duo.box hg rfl), ⟨hA, fun b hb => ?_, below_moves h.duo.one.below hm h.duo.one.fn⟩, ⟨vf, gd, cd, dv, owns_doc hO fun g hg => hm.stay g (doc_lt hg) fun hf => foot_not_doc h.duo.one.f hf hg, hd⟩, h.duo.pn⟩, h.old.keep fun b hb => hm.stay b (h.old.lt hb) (fun hf => h.off b hf hb), h.oldn, fun b hb hg => ?_⟩
  · rcases hm.new b hb with e | e
    · exact h.duo.one.fn b e
    · exact Nat.le_trans h.duo.one.below.size e
  · rcases hm.new b hb with e | e
    · exact h.off b e hg
    · have := h.old.lt hg; omega
theorem copyT {T : Nat} (h : Duo w P p s l pr fs W) (hf : Fine s T) (hT : T ≤ 100000) (hr : 0 ≤ s.room) :
    Calls Tryz.prog 25 #[.pointer (some ⟨p, 0, none⟩)] W fun e W' => ∃ po lo, e = .returned (.pointer (some ⟨po, 0, none⟩)) ∧ Trio w P p s l pr fs po s lo W' := by
  refine (copy_any p s l T W h.one.f hf.fits hT hr).mono ?_
  rintro e W' ⟨p', l', he, hA, hb, hn⟩
  exact ⟨p', l', he, h.keep hb, hA, fun b hb' => Nat.le_trans h.one.below.size (hn b hb'), fun b hb' ho => by
    have h1 := h.one.f.lt hb'
    have h2 := hn b ho
    omega⟩
theorem read_x {T : Nat} (h : At W p s l) (hf : Fine s T) (path : ByteArray) (ho : okS path) :
    Calls Tryz.prog 20 #[.pointer (some ⟨p, 0, none⟩), .string path] W fun e W' => (∃ A c, e = .returned (.tuple #[.slice A (readX s path).size c, .int .i64 (findRes s path).2]) ∧ BytesAt W' (.slice A (readX s path).size c) (readX s path)) ∧ After W p s (tickS s) l W' := by
  refine (read_any p s l path W h hf.fits.left ho).mono ?_
  rintro e W' ⟨⟨v, he, hv⟩, hA, hg⟩
  refine ⟨?_, read_after hA hg⟩
  unfold readX
  rcases hv with ⟨h0, rfl⟩ | ⟨h0, hb⟩
  · rw [if_neg h0]
    exact ⟨none, 0, he, ⟨none, 0, rfl, .inl rfl⟩⟩
  · rw [if_pos h0]
    have hb2 := hb.bytes
    obtain ⟨g, c, m, rfl, hg, hh⟩ := hb
    exact ⟨_, c, he, hb2⟩
theorem list_x {T : Nat} (h : At W p s l) (hf : Fine s T) (hT : T ≤ 100000) (path : ByteArray) (ho : okS path) :
    Calls Tryz.prog 26 #[.pointer (some ⟨p, 0, none⟩), .string path] W fun e W' => (∃ A c, e = .returned (.tuple #[.slice A (listX s path).length c, .int .i64 (findDirRes s path)]) ∧ Reads W' 9 1 (.slice A (listX s path).length c) (strs (listX s path))) ∧ After W p s (tickS s) l W' := by
  refine (list_any p s l path W h hf.fits.left ho (by have := hf.fits.names; omega)).mono ?_
  rintro e W' ⟨⟨v, he, hv⟩, hA, hg⟩
  refine ⟨?_, read_after hA hg⟩
  unfold listX
  rcases hv with ⟨h0, rfl⟩ | ⟨h0, hb⟩
  · rw [if_neg h0]
    exact ⟨none, 0, he, .inl ⟨rfl, none, 0, rfl⟩⟩
  · rw [if_pos h0]
    have e1 : (listP s path).map (fun x => [encStr x]) = strs ((listP s path).map fun l => ⟨l.toArray⟩) := by unfold strs; rw [List.map_map]; rfl
    rw [e1] at hb
    obtain ⟨A, c, rfl⟩ := hb.reads.len
    have el : (strs ((listP s path).map fun l => (⟨l.toArray⟩ : ByteArray))).length = ((listP s path).map fun l => (⟨l.toArray⟩ : ByteArray)).length := List.length_map _
    rw [el] at hb he
    exact ⟨A, c, he, hb.reads⟩
end
end Go.Proofs.YtdbcjiapbehacaaGreatDoor.Vp
