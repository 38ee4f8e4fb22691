/-
  The document's file system: what holds of it after each call: lengths, names, places.
-/
import Derived.Test.YtdbcjiapbehacaaGreatDoorVfP
import Derived.Test.YtdbcjiapbehacaaGreatDoorVfJ
namespace Go.Proofs.YtdbcjiapbehacaaGreatDoor.Vf
open Go.RowKit

/-- A path's place is the directory ahead of it. -/
def In (up p : ByteArray) : Prop := pathOf p.data.toList = some up.data.toList ∧ p.size ≤ 4294967296
theorem pathFrom_lt (s : List UInt8) : ∀ (n a k r : Nat), a < k → pathFrom s n a k = some r → r + 2 ≤ k + n
  | 0, a, k, r, _, h => by
    unfold pathFrom at h
    split at h
    · cases h
    · injection h with h; omega
  | n + 1, a, k, r, ha, h => by
    unfold pathFrom at h
    dsimp only at h
    split at h
    · split at h
      · cases h
      · have := pathFrom_lt s n k (k + 1) r (by omega) h; omega
    · split at h
      · cases h
      · have := pathFrom_lt s n a (k + 1) r (by omega) h; omega
theorem in_from {up p : ByteArray} (h : In up p) : fromOf up ≤ p.size := by
  obtain ⟨h, _⟩ := h
  have hsz : p.data.toList.length = p.size := by rw [Array.length_toList]; rfl
  have hup : up.data.toList.length = up.size := by rw [Array.length_toList]; rfl
  unfold pathOf at h
  split at h
  · rename_i h0
    injection h with h
    rw [h0] at hsz
    rw [← h] at hup
    have e : fromOf up = up.size + 1 := by
      unfold fromOf
      rw [if_neg]
      rw [Lib.toList_data, ← h]
      decide
    rw [e, ← hup]
    simp at hsz ⊢
    omega
  · split at h
    · cases h
    · rename_i c t hl
      split at h
      · cases hp : pathFrom p.data.toList (p.data.toList.length - 1) 0 1 with
        | none => rw [hp] at h; cases h
        | some a =>
          rw [hp] at h
          have h1 := pathFrom_lt _ _ _ _ _ (by omega) hp
          rw [hsz] at h1
          injection h with h
          dsimp only at h
          have hpos : 0 < p.size := by rw [← hsz, hl]; simp
          by_cases ha : a = 0
          · rw [if_pos ha] at h
            have e : fromOf up = 1 := by unfold fromOf; rw [if_pos (by rw [Lib.toList_data, ← h]; decide)]
            omega
          · rw [if_neg ha] at h
            have hla : up.size ≤ a := by rw [← hup, ← h, List.length_take]; omega
            unfold fromOf
            split <;> omega
      · cases h

/-- What holds of files and directories when so much has been done. -/
structure FineL (files : List Fl) (dirs : List Dr) (t : Nat) : Prop where
  nf : files.length ≤ t
  nd : dirs.length ≤ t
  pos : 0 < dirs.length
  each : ∀ d ∈ dirs, d.names.length ≤ t ∧ d.dur.length + d.waits.length ≤ t
  names : ∀ d ∈ dirs, (∀ x ∈ d.names, x.f < files.length ∧ In d.p x.p) ∧ (∀ x ∈ d.dur, x.f < files.length ∧ In d.p x.p) ∧ ∀ x ∈ d.waits, x.f < files.length ∧ (0 ≤ x.f → In d.p x.p)
  sizes : ∀ x ∈ files, x.b.size ≤ 65536 ∧ x.d.size ≤ 65536
abbrev FineD (fs : Fs) (t : Nat) : Prop := FineL fs.files fs.dirs t
section
variable {files : List Fl} {dirs : List Dr} {t : Nat} {fs : Fs}
theorem FineL.mono (h : FineL files dirs t) {t' : Nat} (ht : t ≤ t') : FineL files dirs t' :=
  ⟨Nat.le_trans h.nf ht, Nat.le_trans h.nd ht, h.pos, fun d hd => ⟨Nat.le_trans (h.each d hd).1 ht, Nat.le_trans (h.each d hd).2 ht⟩, h.names, h.sizes⟩
theorem fine_newD (most : Int) : FineD (newFs most) 1 := by
  refine ⟨Nat.zero_le _, Nat.le_refl 1, Nat.one_pos, fun d hd => ?_, fun d hd => ?_, fun x hx => by cases hx⟩
  · simp [newFs] at hd; subst hd; simp
  · simp [newFs] at hd; subst hd; simp
theorem FineD.tick (h : FineD fs t) : FineD (beginFs fs) t := by
  unfold FineD; rw [beginFs_files, beginFs_dirs]; exact h
theorem sz_le (h : FineD fs t) (x : Nm) : szOf fs x ≤ 65536 := by
  unfold szOf
  cases hx : fs.files[x.f]? with
  | none => simp
  | some y => exact (h.sizes y (List.mem_of_getElem? hx)).1
theorem usedN_le (h : FineD fs t) : ∀ ns : List Nm, usedN fs ns ≤ ns.length * 65536
  | [] => by simp [usedN]
  | x :: ns => by
    have := usedN_le h ns
    have := sz_le h x
    unfold usedN at *
    rw [List.map_cons, List.sum_cons, List.length_cons, Nat.add_mul]
    omega
theorem usedD_le (h : FineD fs t) : ∀ ds : List Dr, (∀ d ∈ ds, d.names.length ≤ t) → usedD fs ds ≤ ds.length * (t * 65536)
  | [], _ => by simp [usedD]
  | d :: ds, hd => by
    have h1 := usedD_le h ds fun e he => hd e (List.mem_cons_of_mem _ he)
    have h2 := usedN_le h d.names
    have h3 : d.names.length * 65536 ≤ t * 65536 := Nat.mul_le_mul_right _ (hd d (List.mem_cons_self ..))
    unfold usedD at *
    rw [List.map_cons, List.sum_cons, List.length_cons, Nat.add_mul]
    omega
theorem FineD.rfit (h : FineD fs t) (ht : t ≤ 200) : RFit fs := by
  refine ⟨fun d hd => ⟨?_, ?_⟩, fun d hd => ⟨fun x hx => ((h.names d hd).1 x hx).1, fun x hx => ((h.names d hd).2.1 x hx).1, fun x hx => ((h.names d hd).2.2 x hx).1⟩, ?_, ?_, ?_⟩
  · have := (h.each d hd).1; omega
  · have := (h.each d hd).2; omega
  · have := h.nf; omega
  · have := h.nd; omega
  · have h1 := usedD_le h fs.dirs fun d hd => (h.each d hd).1
    have h2 : fs.dirs.length * (t * 65536) ≤ 200 * (200 * 65536) := Nat.mul_le_mul (Nat.le_trans h.nd ht) (Nat.mul_le_mul_right _ ht)
    omega
theorem FineD.cuts (h : FineD fs t) : ∀ d ∈ fs.dirs, ∀ x ∈ d.names, fromOf d.p ≤ x.p.size ∧ x.p.size ≤ 4294967296 := fun d hd x hx => ⟨in_from ((h.names d hd).1 x hx).2, ((h.names d hd).1 x hx).2.2⟩
theorem mem_takenOf {l : List Nm} {x : St} {y : Nm} (h : y ∈ takenOf l x) : y ∈ l ∨ (0 ≤ x.f ∧ y = ⟨x.p, x.f.toNat⟩) := by
  unfold takenOf at h
  rcases List.mem_append.1 h with h | h
  · exact .inl (List.mem_filter.1 h).1
  · split at h
    · exact .inr ⟨by assumption, List.mem_singleton.1 h⟩
    · cases h
theorem takenOf_len (l : List Nm) (x : St) : (takenOf l x).length ≤ l.length + 1 := by
  unfold takenOf
  rw [List.length_append]
  have := List.length_filter_le (stays x) l
  split <;> simp <;> omega
theorem FineL.set (h : FineL files dirs t) {i : Nat} {e : Dr} {t' : Nat} (ht : t ≤ t') (h1 : e.names.length ≤ t' ∧ e.dur.length + e.waits.length ≤ t')
    (h2 : (∀ x ∈ e.names, x.f < files.length ∧ In e.p x.p) ∧ (∀ x ∈ e.dur, x.f < files.length ∧ In e.p x.p) ∧ ∀ x ∈ e.waits, x.f < files.length ∧ (0 ≤ x.f → In e.p x.p)) : FineL files (dirs.set i e) t' := by
  have h := h.mono ht
  refine ⟨h.nf, by rw [List.length_set]; exact h.nd, by rw [List.length_set]; exact h.pos, fun x hx => ?_, fun x hx => ?_, h.sizes⟩
  · rcases List.mem_or_eq_of_mem_set hx with hx | rfl
    · exact h.each x hx
    · exact h1
  · rcases List.mem_or_eq_of_mem_set hx with hx | rfl
    · exact h.names x hx
    · exact h2
theorem FineL.step (h : FineL files dirs t) {i : Nat} {d : Dr} (hd : dirs[i]? = some d) {x : St} (hx : x.f < files.length) (hp : 0 ≤ x.f → In d.p x.p) : FineL files (dirs.set i (stepD d x)) (t + 1) := by
  have hm := List.mem_of_getElem? hd
  have he := h.each d hm
  have hn := h.names d hm
  refine h.set (by omega) ⟨?_, ?_⟩ ⟨fun y hy => ?_, hn.2.1, fun y hy => ?_⟩
  · have := takenOf_len d.names x; show (takenOf d.names x).length ≤ _; omega
  · show d.dur.length + (d.waits ++ [x]).length ≤ _; rw [List.length_append, List.length_singleton]; omega
  · rcases mem_takenOf hy with hy | ⟨h0, rfl⟩
    · exact hn.1 y hy
    · exact ⟨by show x.f.toNat < _; omega, hp h0⟩
  · rcases List.mem_append.1 hy with hy | hy
    · exact hn.2.2 y hy
    · rw [List.mem_singleton.1 hy]; exact ⟨hx, hp⟩
theorem FineL.file (h : FineL files dirs t) (x : Fl) (hx : x.b.size ≤ 65536 ∧ x.d.size ≤ 65536) : FineL (files ++ [x]) dirs (t + 1) := by
  have hl : files.length ≤ (files ++ [x]).length := by simp
  refine ⟨by have := h.nf; simp; omega, by have := h.nd; omega, h.pos, fun d hd => ?_, fun d hd => ?_, fun y hy => ?_⟩
  · have := h.each d hd; exact ⟨by omega, by omega⟩
  · have hn := h.names d hd
    refine ⟨fun y hy => ⟨Nat.lt_of_lt_of_le (hn.1 y hy).1 hl, (hn.1 y hy).2⟩, fun y hy => ⟨Nat.lt_of_lt_of_le (hn.2.1 y hy).1 hl, (hn.2.1 y hy).2⟩, fun y hy => ⟨?_, (hn.2.2 y hy).2⟩⟩
    have := (hn.2.2 y hy).1
    omega
  · rcases List.mem_append.1 hy with hy | hy
    · exact h.sizes y hy
    · rw [List.mem_singleton.1 hy]; exact hx
theorem FineL.put (h : FineL files dirs t) {files' : List Fl} (hl : files'.length = files.length) (hs : ∀ x ∈ files', x.b.size ≤ 65536 ∧ x.d.size ≤ 65536) : FineL files' dirs t :=
  ⟨by rw [hl]; exact h.nf, h.nd, h.pos, h.each, fun d hd => by rw [hl]; exact h.names d hd, hs⟩
theorem FineL.dir (h : FineL files dirs t) (p : ByteArray) : FineL files (dirs ++ [⟨p, [], [], []⟩]) (t + 1) := by
  have h' := h.mono (show t ≤ t + 1 by omega)
  refine ⟨h'.nf, by have := h.nd; simp; omega, by simp, fun d hd => ?_, fun d hd => ?_, h.sizes⟩
  · rcases List.mem_append.1 hd with hd | hd
    · exact h'.each d hd
    · rw [List.mem_singleton.1 hd]; simp
  · rcases List.mem_append.1 hd with hd | hd
    · exact h.names d hd
    · rw [List.mem_singleton.1 hd]; simp

theorem FineD.mkdir (h : FineD fs t) (path : ByteArray) : FineD (mkdirFs fs path) (t + 1) := by
  unfold mkdirFs
  split
  · exact h.tick.mono (by omega)
  · show FineL (beginFs fs).files _ _
    rw [beginFs_files]
    exact h.dir path
theorem begin_in {fs : Fs} {path : ByteArray} {root : Bool} (h : (beginRes fs path.data.toList root).2 = 0) (hs : path.size ≤ 4294967296) : In ⟨(beginRes fs path.data.toList root).1.toArray⟩ path := by
  refine ⟨?_, hs⟩
  unfold beginRes at h ⊢
  split at h
  · cases h
  · split at h
    · cases h
    · cases hp : pathOf path.data.toList with
      | none => rw [hp] at h; cases h
      | some up =>
        rw [hp] at h
        dsimp only at h
        split at h
        · cases h
        · rename_i h1 h2 h3
          rw [if_neg h1, if_neg h2]
          dsimp only
          rw [if_neg h3]
theorem dirAt_at {fs : Fs} {path : ByteArray} (h : 0 ≤ dirAt fs path) : ∃ d, fs.dirs[(dirAt fs path).toNat]? = some d ∧ d.p.toList = path.toList := by
  have key : ∀ (l : List Dr), firstIx (fun d : Dr => d.p.toList == path.toList) l < l.length → ∃ d, l[firstIx (fun d : Dr => d.p.toList == path.toList) l]? = some d ∧ d.p.toList = path.toList := by
    intro l
    induction l with
    | nil => intro h; simp at h
    | cons d l ih =>
      intro hl
      unfold firstIx at hl ⊢
      split at hl
      · rename_i hq
        rw [if_pos hq]
        exact ⟨d, rfl, by simpa using hq⟩
      · rename_i hq
        rw [if_neg hq]
        obtain ⟨e, h1, h2⟩ := ih (by simp at hl; omega)
        exact ⟨e, by simpa using h1, h2⟩
  unfold dirAt at h ⊢
  split at h
  · rename_i hl
    rw [if_pos hl]
    exact key _ hl
  · omega
theorem in_same {a b p : ByteArray} (h : In a p) (e : b.toList = a.toList) : In b p := by
  rw [Lib.toList_data, Lib.toList_data] at e
  exact ⟨by rw [e]; exact h.1, h.2⟩
theorem FineD.sync (h : FineD fs t) (path : ByteArray) : FineD (syncFs fs path) t := by
  unfold syncFs
  split
  · exact h.tick
  · split
    · exact h.tick
    · rename_i x hx
      show FineL (fs.files.set _ _) (beginFs fs).dirs _
      rw [beginFs_dirs]
      refine h.put (by rw [List.length_set]) fun y hy => ?_
      rcases List.mem_or_eq_of_mem_set hy with hy | rfl
      · exact h.sizes y hy
      · have := h.sizes x (List.mem_of_getElem? hx)
        exact ⟨this.1, this.1⟩
theorem FineD.syncDir (h : FineD fs t) (path : ByteArray) : FineD (syncDirFs fs path) t := by
  unfold syncDirFs
  split
  · exact h.tick
  · show FineL (beginFs fs).files _ _
    rw [beginFs_files]
    cases hd : fs.dirs[(dirRes fs path).1.toNat]? with
    | none =>
      rw [List.modify_eq_self (by rwa [List.getElem?_eq_none_iff] at hd)]
      exact h
    | some d =>
      rw [mod_set hd]
      have hm := List.mem_of_getElem? hd
      have he := h.each d hm
      have hn := h.names d hm
      exact h.set (Nat.le_refl _) ⟨he.1, by show d.names.length + 0 ≤ t; omega⟩ ⟨hn.1, hn.1, fun x hx => by cases hx⟩
theorem find_at {path : ByteArray} {i k : Nat} {d : Dr} {x : Nm} : ∀ {ds : List Dr}, findIn path ds = some (i, k) → ds[i]? = some d → d.names[k]? = some x → x.p.toList = path.toList := by
  have key : ∀ (l : List Nm) (x : Nm), l[firstIx (isAt path) l]? = some x → x.p.toList = path.toList := by
    intro l
    induction l with
    | nil => intro x h; simp at h
    | cons d l ih =>
      intro x hx
      unfold firstIx at hx
      split at hx
      · rename_i hq
        have e : d = x := by simpa using hx
        subst e
        unfold isAt at hq
        simpa using hq
      · exact ih x (by simpa using hx)
  intro ds
  induction ds generalizing i with
  | nil => intro h; cases h
  | cons e ds ih =>
    intro h hd hx
    unfold findIn at h
    split at h
    · injection h with h
      injection h with h1 h2
      subst h1; subst h2
      have e : e = d := by simpa using hd
      subst e
      exact key _ x hx
    · cases hf : findIn path ds with
      | none => rw [hf] at h; cases h
      | some y =>
        obtain ⟨i', k'⟩ := y
        rw [hf] at h
        injection h with h
        injection h with h1 h2
        subst h1; subst h2
        exact ih hf (by simpa using hd) hx
theorem FineD.remove (h : FineD fs t) (path : ByteArray) : FineD (removeFs fs path) (t + 1) := by
  unfold removeFs
  split
  · exact h.tick.mono (by omega)
  · split
    · exact h.tick.mono (by omega)
    · rename_i i k hf
      obtain ⟨d, x, hd, hx⟩ := find_some hf
      show FineL (beginFs fs).files _ _
      rw [beginFs_files, mod_set hd]
      exact h.step hd (by show (-1 : Int) < _; omega) (fun h0 => by simp at h0)
theorem rename_ok {src to : ByteArray} (h : renameRes fs src to = 0) : (beginRes fs src.data.toList false).2 = 0 ∧ pathUp to.data.toList ≠ [] ∧ (beginRes fs src.data.toList false).1 = pathUp to.data.toList ∧ ∃ x, findIn src fs.dirs = some x := by
  unfold renameRes at h
  split at h
  · exact absurd h (by assumption)
  · rename_i h0
    have h0 : (beginRes fs src.data.toList false).2 = 0 := by simpa using h0
    unfold renameEnd at h
    split at h
    · cases h
    · split at h
      · cases h
      · split at h
        · cases h
        · split at h
          · cases h
          · rename_i h1 _ _ _ x hx
            split at h
            · exact ⟨h0, h1, by assumption, _, hx⟩
            · cases h
theorem FineD.rename (h : FineD fs t) {src to : ByteArray} (hs : src.size ≤ 4294967296) (ht : to.size ≤ 4294967296) : FineD (renameFs fs src to) (t + 1) := by
  unfold renameFs
  split
  · exact h.tick.mono (by omega)
  · rename_i h0
    split
    · exact h.tick.mono (by omega)
    · split
      · exact h.tick.mono (by omega)
      · rename_i i k hf
        obtain ⟨d, x, hd, hx⟩ := find_some hf
        show FineL (beginFs fs).files _ _
        rw [beginFs_files, mod_set hd, hx]
        have hxn := (h.names d (List.mem_of_getElem? hd)).1 x (List.mem_of_getElem? hx)
        obtain ⟨r0, r1, r2, _⟩ := rename_ok (show renameRes fs src to = 0 by simpa using h0)
        have e1 := find_at hf hd hx
        rw [Lib.toList_data, Lib.toList_data] at e1
        have e2 := (begin_in r0 hs).1
        have e3 := hxn.2.1
        rw [e1, e2] at e3
        injection e3 with e3
        refine h.step hd (by show ((x.f : Nat) : Int) < _; omega) (fun _ => ⟨?_, ht⟩)
        show pathOf to.data.toList = some d.p.data.toList
        rw [← e3]
        show _ = some (beginRes fs src.data.toList false).1
        rw [r2]
        unfold pathUp at r1 ⊢
        cases hp : pathOf to.data.toList with
        | none => rw [hp] at r1; exact absurd rfl r1
        | some u => rfl
theorem write_ok {path b : ByteArray} (h : writeRes fs path b = 0) : (beginRes fs path.data.toList false).2 = 0 ∧ 0 ≤ dirAt fs (upB fs path) ∧ b.size ≤ 65536 := by
  unfold writeRes at h
  split at h
  · exact absurd h (by assumption)
  · rename_i h0
    split at h
    · cases h
    · split at h
      · cases h
      · split at h
        · cases h
        · rename_i h1 _ h2
          exact ⟨by simpa using h0, by omega, by omega⟩
theorem FineD.write (h : FineD fs t) {path b : ByteArray} (hs : path.size ≤ 4294967296) : FineD (writeFs fs path b) (t + 2) := by
  unfold writeFs
  split
  · exact h.tick.mono (by omega)
  · rename_i h0
    obtain ⟨r0, r1, r2⟩ := write_ok (show writeRes fs path b = 0 by simpa using h0)
    split
    · rename_i x hf
      show FineL (fs.files.modify _ _) (beginFs fs).dirs _
      rw [beginFs_dirs]
      refine (h.put (files' := fs.files.modify (fileAt fs x) fun y => ⟨b, y.d⟩) (by simp) fun y hy => ?_).mono (by omega)
      cases hn : fs.files[fileAt fs x]? with
      | none =>
        rw [List.modify_eq_self (by rwa [List.getElem?_eq_none_iff] at hn)] at hy
        exact h.sizes y hy
      | some z =>
        rw [mod_set hn] at hy
        rcases List.mem_or_eq_of_mem_set hy with hy | rfl
        · exact h.sizes y hy
        · exact ⟨r2, (h.sizes z (List.mem_of_getElem? hn)).2⟩
    · obtain ⟨d, hd, hdp⟩ := dirAt_at r1
      show FineL (fs.files ++ [⟨b, ⟨#[]⟩⟩]) (fs.dirs.modify _ _) _
      rw [mod_set hd]
      refine (h.file ⟨b, ⟨#[]⟩⟩ ⟨r2, Nat.zero_le _⟩).step hd (by show ((fs.files.length : Nat) : Int) < _; simp; omega) (fun _ => ?_)
      exact in_same (begin_in r0 hs) hdp
theorem mem_back {d : Dr} {k : Nat} {y : Nm} (h : y ∈ backNames d k) : y ∈ d.dur ∨ ∃ x ∈ d.waits, 0 ≤ x.f ∧ y = ⟨x.p, x.f.toNat⟩ := by
  have key : ∀ (l : List St) (o : List Nm), y ∈ l.foldl takenOf o → y ∈ o ∨ ∃ x ∈ l, 0 ≤ x.f ∧ y = ⟨x.p, x.f.toNat⟩ := by
    intro l
    induction l with
    | nil => intro o h; exact .inl h
    | cons x l ih =>
      intro o h
      rcases ih _ h with h | ⟨z, hz, h0, e⟩
      · rcases mem_takenOf h with h | ⟨h0, e⟩
        · exact .inl h
        · exact .inr ⟨x, List.mem_cons_self .., h0, e⟩
      · exact .inr ⟨z, List.mem_cons_of_mem _ hz, h0, e⟩
  rcases key _ _ h with h | ⟨x, hx, h0, e⟩
  · exact .inl h
  · exact .inr ⟨x, List.mem_of_mem_take hx, h0, e⟩
theorem FineL.back (h : FineL files dirs t) {i : Nat} {d : Dr} (hd : dirs[i]? = some d) (k : Nat) : FineL files (dirs.set i ⟨d.p, backNames d k, backNames d k, []⟩) t := by
  have hm := List.mem_of_getElem? hd
  have he := h.each d hm
  have hn := h.names d hm
  have hl := back_len d k
  have hb : ∀ x ∈ backNames d k, x.f < files.length ∧ In d.p x.p := fun x hx => by
    rcases mem_back hx with hx | ⟨y, hy, h0, rfl⟩
    · exact hn.2.1 x hx
    · have := hn.2.2 y hy
      exact ⟨by show y.f.toNat < _; omega, this.2 h0⟩
  exact h.set (Nat.le_refl _) ⟨by show (backNames d k).length ≤ t; omega, by show (backNames d k).length + 0 ≤ t; omega⟩ ⟨hb, hb, fun x hx => by cases hx⟩
theorem fold_back : ∀ (l : List Nm) (s : Rst), FineL files s.dirs t → FineL files (l.foldl rbDir s).dirs t ∧ (l.foldl rbDir s).all.length ≤ s.all.length + l.length * t ∧ ((∀ x ∈ s.all, x.f < files.length) → ∀ x ∈ (l.foldl rbDir s).all, x.f < files.length) ∧ (l.foldl rbDir s).dirs.length = s.dirs.length
  | [], s, h => ⟨h, by simp, id, rfl⟩
  | x :: l, s, h => by
    rw [List.foldl_cons]
    have hstep : FineL files (rbDir s x).dirs t ∧ (rbDir s x).all.length ≤ s.all.length + t ∧ ((∀ y ∈ s.all, y.f < files.length) → ∀ y ∈ (rbDir s x).all, y.f < files.length) ∧ (rbDir s x).dirs.length = s.dirs.length := by
      unfold rbDir
      split
      · exact ⟨h, by omega, id, rfl⟩
      · rename_i d hd
        have hm := List.mem_of_getElem? hd
        have hl := back_len d (s.c % (d.waits.length + 1))
        have he := h.each d hm
        refine ⟨h.back hd _, ?_, fun ha y hy => ?_, List.length_set⟩
        · show (s.all ++ _).length ≤ _
          rw [List.length_append]; omega
        · rcases List.mem_append.1 hy with hy | hy
          · exact ha y hy
          · rcases mem_back hy with hy | ⟨z, hz, h0, rfl⟩
            · exact ((h.names d hm).2.1 y hy).1
            · have := ((h.names d hm).2.2 z hz).1
              show z.f.toNat < _
              omega
    obtain ⟨a, b, c, e⟩ := fold_back l (rbDir s x) hstep.1
    refine ⟨a, ?_, fun ha => c (hstep.2.2.1 ha), e.trans hstep.2.2.2⟩
    rw [List.length_cons, Nat.add_mul]
    have := hstep.2.1
    omega
theorem fold_files (hs : ∀ x ∈ files, x.b.size ≤ 65536 ∧ x.d.size ≤ 65536) : ∀ (l : List Nm) (s : List Fl × Nat), s.1.length = files.length → (∀ x ∈ s.1, x.b.size ≤ 65536 ∧ x.d.size ≤ 65536) → (l.foldl rbFile s).1.length = files.length ∧ ∀ x ∈ (l.foldl rbFile s).1, x.b.size ≤ 65536 ∧ x.d.size ≤ 65536
  | [], s, hl, h => ⟨hl, h⟩
  | x :: l, s, hl, h => by
    rw [List.foldl_cons]
    refine fold_files hs l _ ((rbFile_many s x).trans hl) ?_
    unfold rbFile
    split
    · exact h
    · rename_i f hf
      split
      · exact h
      · intro y hy
        rcases List.mem_or_eq_of_mem_set hy with hy | rfl
        · exact h y hy
        · have hff := h f (List.mem_of_getElem? hf)
          have hb : (backText f (s.2 % (f.b.size + 2))).size ≤ 65536 := by
            unfold backText
            split
            · rw [ByteArray.size_extract]; omega
            · exact hff.2
          exact ⟨hb, hb⟩
theorem FineD.dirsRound (h : FineD fs t) (choice : Int) : FineL fs.files (rbDirs fs choice).dirs t ∧ (rbDirs fs choice).all.length ≤ t * t ∧ ∀ x ∈ (rbDirs fs choice).all, x.f < fs.files.length := by
  obtain ⟨a, b, c, _⟩ := fold_back (files := fs.files) (t := t) (dirsIn fs) ⟨fs.dirs, u64 choice, []⟩ h
  have hl : (dirsIn fs).length = fs.dirs.length := by unfold dirsIn; rw [sortN_len, idxN_len]
  refine ⟨a, ?_, c (fun x hx => by cases hx)⟩
  have h1 : fs.dirs.length * t ≤ t * t := Nat.mul_le_mul_right _ h.nd
  rw [hl] at b
  simp only [List.length_nil] at b
  unfold rbDirs
  omega
theorem FineD.reboot (h : FineD fs t) (choice : Int) : FineD (rebootFs fs choice) t := by
  obtain ⟨a, b, c⟩ := h.dirsRound choice
  obtain ⟨e, f⟩ := fold_files h.sizes (sortN (rbDirs fs choice).all) (fs.files, (rbDirs fs choice).c) rfl h.sizes
  exact a.put e f
end
end Go.Proofs.YtdbcjiapbehacaaGreatDoor.Vf
