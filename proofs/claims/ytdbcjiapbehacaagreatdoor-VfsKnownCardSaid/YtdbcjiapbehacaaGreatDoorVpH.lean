/-
  Layer 5: VpFits VpFine VpIsort VpWorks VpWorked, one behind the other.
-/
import Derived.Test.YtdbcjiapbehacaaGreatDoorVpF
import Derived.Test.YtdbcjiapbehacaaGreatDoorVpG
/-! Layer 5: how much there is behind each call; whose places all are paths'. -/
namespace Go.Proofs.YtdbcjiapbehacaaGreatDoor.Vp
open Go.RowKit Go.Maps

def WApart (s : Pf) : Prop := s.waits.Pairwise fun p q => p.1 ≠ q.1
theorem Fits.mono {s : Pf} {T T' : Nat} (h : Fits s T) (hT : T ≤ T') : Fits s T' := ⟨Nat.le_trans h.names hT, Nat.le_trans h.dur hT, Nat.le_trans h.dirs hT, Nat.le_trans h.made hT, h.left, h.files, h.strs, h.root⟩
theorem fits_new (room : Int) : Fits (newS room) 1 where
  names := by simp [newS]
  dur := by simp [newS, steps]
  dirs := by simp [newS]
  made := by simp [newS]
  left := by simp [newS]
  files i hi := absurd hi (new_live room i)
  strs x hx st hst := by rw [List.mem_singleton.1 hx] at hst; cases hst
  root := by simp [newS, look]
theorem canon_new (room : Int) : CanonS (newS room) where
  names q hq := by cases hq
  dur q hq := by cases hq
  waits x hx st hst := by rw [List.mem_singleton.1 hx] at hst; cases hst
theorem canon_plc {path : ByteArray} (ho : okS path) (h : hasName path.data.toList = true) : Canon (plcOf path) := ⟨plc_ok ho (good_slashed h), path, h, rfl⟩
theorem CanonS.tick {s : Pf} (h : CanonS s) : CanonS (tickS s) := ⟨by rw [tick_names]; exact h.names, by rw [tick_dur]; exact h.dur, by rw [tick_waits]; exact h.waits⟩
theorem WApart.tick {s : Pf} (h : WApart s) : WApart (tickS s) := by unfold WApart; rw [tick_waits]; exact h
theorem takeS_len2 (l : List (Plc × Nat)) (dir : ByteArray) (x : Stp) : (takeS l dir x).length ≤ l.length + 1 := by
  have h1 : (strike l ⟨dir, x.gone⟩).length ≤ l.length := List.length_filter_le _ _
  unfold takeS
  cases x.file with
  | none => simp only []; omega
  | some i =>
    have h2 : (strike (strike l ⟨dir, x.gone⟩) ⟨dir, x.name⟩).length ≤ (strike l ⟨dir, x.gone⟩).length := List.length_filter_le _ _
    show ((⟨dir, x.name⟩, i) :: strike (strike l ⟨dir, x.gone⟩) ⟨dir, x.name⟩).length ≤ _
    simp only [List.length_cons]; omega
theorem steps_store {s : Pf} (ha : WApart s) (dir : ByteArray) (x : Stp) : steps (store s.waits dir (waitsOf s dir ++ [x])) = steps s.waits + 1 := by
  have e : steps (store s.waits dir (waitsOf s dir ++ [x])) = (waitsOf s dir).length + 1 + steps (strike s.waits dir) := by simp [store, steps]
  rw [e]
  cases hl : look s.waits dir with
  | none =>
    rw [strike_none hl]
    have : waitsOf s dir = [] := by unfold waitsOf; rw [hl]; rfl
    rw [this]; simp; omega
  | some xs =>
    have h1 := steps_strike ha hl
    have : waitsOf s dir = xs := by unfold waitsOf; rw [hl]; rfl
    rw [this]; omega
theorem Fits.changed {s : Pf} {T : Nat} (h : Fits s T) (ha : WApart s) (dir : ByteArray) (x : Stp) (hx : okS x.gone ∧ okS x.name) (hf : ∀ i, x.file = some i → (s.files i).c.size ≤ 65536 ∧ (s.files i).d.size ≤ 65536) : Fits (changeS s dir x) (T + 1) where
  names := by have := takeS_len2 s.names dir x; have := h.names; show (takeS s.names dir x).length ≤ _; omega
  dur := by have := steps_store ha dir x; have := h.dur; show s.dur.length + steps (store s.waits dir (waitsOf s dir ++ [x])) ≤ _; omega
  dirs := by
    have h1 : (strike s.waits dir).length ≤ s.waits.length := List.length_filter_le _ _
    have := h.dirs
    show ((dir, waitsOf s dir ++ [x]) :: strike s.waits dir).length ≤ _
    simp only [List.length_cons]; omega
  made := Nat.le_succ_of_le h.made
  left := h.left
  files i hi := by
    rcases live_change hi with hi | hi
    · exact h.files i hi
    · exact hf i hi
  strs y hy st hst := by
    rcases mem_storeW hy with rfl | ⟨hy, _⟩
    · rcases List.mem_append.1 hst with h1 | h1
      · obtain ⟨ys, hm, h2⟩ := mem_waitsOf h1
        exact h.strs _ hm st h2
      · rw [List.mem_singleton.1 h1]; exact hx
    · exact h.strs y hy st hst
  root := by
    show (look (store s.waits dir (waitsOf s dir ++ [x])) rootB).isSome
    by_cases e : rootB = dir
    · rw [e, look_store_same]; rfl
    · rw [look_store_other e]; exact h.root
theorem WApart.change {s : Pf} (h : WApart s) (dir : ByteArray) (x : Stp) : WApart (changeS s dir x) := store_apart h dir _
theorem CanonS.change {s : Pf} (h : CanonS s) (dir : ByteArray) (x : Stp) (hx : x.file ≠ none → Canon ⟨dir, x.name⟩) : CanonS (changeS s dir x) where
  names q hq := by
    have hq' : q ∈ takeS s.names dir x := hq
    unfold takeS at hq'
    cases hf : x.file with
    | none => rw [hf] at hq'; exact h.names q (mem_strike.1 hq').1
    | some i =>
      rw [hf] at hq'
      rcases List.mem_cons.1 hq' with rfl | hq'
      · exact hx (by simp [hf])
      · exact h.names q (mem_strike.1 (mem_strike.1 hq').1).1
  dur := h.dur
  waits y hy st hst hn := by
    rcases mem_storeW hy with rfl | ⟨hy, _⟩
    · rcases List.mem_append.1 hst with h1 | h1
      · obtain ⟨ys, hm, h2⟩ := mem_waitsOf h1
        exact h.waits _ hm st h2 hn
      · rw [List.mem_singleton.1 h1] at hn ⊢; exact hx hn
    · exact h.waits y hy st hst hn
/-- A file's contents turn. -/
theorem Fits.file {s : Pf} {T : Nat} (h : Fits s T) (i : Nat) (x : Fil) (hx : x.c.size ≤ 65536 ∧ x.d.size ≤ 65536) : Fits { s with files := putFile s.files i x } T :=
  ⟨h.names, h.dur, h.dirs, h.made, h.left, fun j hj => by
    show (putFile s.files i x j).c.size ≤ _ ∧ (putFile s.files i x j).d.size ≤ _
    unfold putFile
    split
    · exact hx
    · exact h.files j hj, h.strs, h.root⟩
theorem CanonS.file {s : Pf} (h : CanonS s) (f : Nat → Fil) : CanonS { s with files := f } := ⟨h.names, h.dur, h.waits⟩
theorem Fits.crash {s : Pf} {T : Nat} (h : Fits s T) (n : Int) (hn : n ≤ 9223372036854775807) : Fits { s with left := max n 0 } T := ⟨h.names, h.dur, h.dirs, h.made, by show _ ≤ max n 0 ∧ max n 0 ≤ _; omega, h.files, h.strs, h.root⟩

/-! ### Call by call -/
/-- What is kept from call to call. -/
structure Fine (s : Pf) (T : Nat) : Prop where
  fits : Fits s T
  canon : CanonS s
  apart : WApart s
theorem fine_new (room : Int) : Fine (newS room) 1 := ⟨fits_new room, canon_new room, by unfold WApart newS; simp⟩
theorem Fine.tick {s : Pf} {T : Nat} (h : Fine s T) : Fine (tickS s) (T + 1) := ⟨h.fits.tick.mono (by omega), h.canon.tick, h.apart.tick⟩
theorem Fine.sync {s : Pf} {T : Nat} (h : Fine s T) (path : ByteArray) : Fine (syncS s path) (T + 1) := by
  unfold syncS
  cases hf : (findRes s path).1 with
  | none => exact h.tick
  | some i =>
    have hl : Live s i := by
      by_cases h0 : (findRes s path).2 = 0
      · obtain ⟨j, hj, hfj, _⟩ := findRes_some h0
        rw [hj] at hf; injection hf with hf; subst hf
        exact find_live hfj
      · rw [findRes_none h0] at hf; cases hf
    have hs := (h.fits.files i hl).1
    have := h.tick.fits.file i ⟨(s.files i).c, (s.files i).c⟩ ⟨hs, hs⟩
    rw [tick_files] at this
    exact ⟨this, ⟨h.canon.tick.names, h.canon.tick.dur, h.canon.tick.waits⟩, h.apart.tick⟩
theorem Fine.remove {s : Pf} {T : Nat} (h : Fine s T) {path : ByteArray} (ho : okS path) : Fine (removeS s path) (T + 1) := by
  unfold removeS
  split
  · exact h.tick
  · rename_i h0
    obtain ⟨i, _, _, hgn⟩ := findRes_some (by simpa using h0 : (findRes s path).2 = 0)
    exact ⟨h.fits.tick.changed h.apart.tick _ _ ⟨(plc_ok ho (good_slashed hgn)).2, ok_empty⟩ (fun i hi => by cases hi), h.canon.tick.change _ _ (fun hn => absurd rfl hn), h.apart.tick.change _ _⟩
end Go.Proofs.YtdbcjiapbehacaaGreatDoor.Vp

/-! Layer 5: what is kept from call to call. -/
namespace Go.Proofs.YtdbcjiapbehacaaGreatDoor.Vp
open Go.RowKit Go.Maps

theorem Fine.mono {s : Pf} {T T' : Nat} (h : Fine s T) (hT : T ≤ T') : Fine s T' := ⟨h.fits.mono hT, h.canon, h.apart⟩
theorem Fine.mkdir {s : Pf} {T : Nat} (h : Fine s T) {path : ByteArray} : Fine (mkdirS s path) (T + 1) := by
  unfold mkdirS
  split
  · have ht := h.tick
    refine ⟨⟨ht.fits.names, ?_, ?_, ht.fits.made, ht.fits.left, fun i hi => ht.fits.files i ?_, fun y hy => ?_, ?_⟩, ⟨ht.canon.names, ht.canon.dur, fun y hy => ?_⟩, store_apart h.apart _ _⟩
    · have h1 := h.fits.dur
      have h2 : steps (store s.waits (pathOfP (plcOf path)) []) ≤ steps s.waits := by
        have e : steps (store s.waits (pathOfP (plcOf path)) []) = steps (strike s.waits (pathOfP (plcOf path))) := by simp [store, steps]
        rw [e]
        cases hl : look s.waits (pathOfP (plcOf path)) with
        | none => rw [strike_none hl]; exact Nat.le_refl _
        | some xs => have := steps_strike h.apart hl; omega
      show (tickS s).dur.length + steps (store s.waits (pathOfP (plcOf path)) []) ≤ _
      rw [tick_dur]; omega
    · have h1 : (strike s.waits (pathOfP (plcOf path))).length ≤ s.waits.length := List.length_filter_le _ _
      have := h.fits.dirs
      show ((pathOfP (plcOf path), ([] : List Stp)) :: strike s.waits (pathOfP (plcOf path))).length ≤ _
      simp only [List.length_cons]; omega
    · rcases hi with hq | hq | ⟨y, hy, st, hst, e⟩
      · exact .inl hq
      · exact .inr (.inl hq)
      · rcases mem_storeW hy with rfl | ⟨hy, _⟩
        · cases hst
        · exact .inr (.inr ⟨y, by rw [tick_waits]; exact hy, st, hst, e⟩)
    · rcases mem_storeW hy with rfl | ⟨hy, _⟩
      · intro st hst; cases hst
      · exact h.fits.strs y hy
    · show (look (store s.waits (pathOfP (plcOf path)) []) rootB).isSome
      by_cases e : rootB = pathOfP (plcOf path)
      · rw [e, look_store_same]; rfl
      · rw [look_store_other e]; exact h.fits.root
    · rcases mem_storeW hy with rfl | ⟨hy, _⟩
      · intro st hst; cases hst
      · exact h.canon.waits y hy
  · exact h.tick
theorem Fine.syncDir {s : Pf} {T : Nat} (h : Fine s T) {path : ByteArray} : Fine (syncDirS s path) (T + 1) := by
  unfold syncDirS
  split
  · exact h.tick
  · rename_i h0
    have hd : isDirS (tickS s) path = true := by
      rw [tick_dir]
      have h1 : findDirRes s path = 0 := by simpa using h0
      unfold findDirRes at h1
      split at h1
      · rename_i h2; exact absurd h1 h2
      · split at h1
        · omega
        · split at h1
          · assumption
          · omega
    exact ⟨h.tick.fits.keep h.apart.tick hd _, h.tick.canon.keep _ _, store_apart h.apart.tick _ _⟩
theorem Fine.rename {s : Pf} {T : Nat} (h : Fine s T) {a b : ByteArray} (ha : okS a) (hb : okS b) : Fine (renameS s a b) (T + 1) := by
  unfold renameS
  split
  · exact h.tick
  · rename_i h0
    have hr : renameRes s a b = 0 := Classical.byContradiction fun e => h0 (.inl e)
    have hb0 : beginRes s (hasName a.data.toList && hasName b.data.toList) = 0 := Classical.byContradiction fun e => e (by
      have := renameRes_n e; rw [hr] at this; exact this.symm)
    obtain ⟨hga, hgb⟩ := begin_two_good hb0
    have hca := canon_plc ha hga
    have hcb := canon_plc hb hgb
    rw [renameRes_0 hb0] at hr
    split at hr
    · omega
    · unfold renTail at hr
      cases hf : fileOf s a with
      | none => rw [hf] at hr; simp at hr
      | some i =>
        rw [hf] at hr
        simp only [] at hr
        split at hr
        · omega
        · rename_i hde
          have hde' : (plcOf a).d = (plcOf b).d := Classical.byContradiction fun e => hde e
          refine ⟨h.fits.tick.changed h.apart.tick _ _ ⟨hca.1.2, hcb.1.2⟩ (fun j hj => by injection hj with hj; subst hj; rw [tick_files]; exact h.fits.files _ (find_live hf)), h.canon.tick.change _ _ (fun _ => ?_), h.apart.tick.change _ _⟩
          show Canon ⟨(plcOf a).d, (plcOf b).n⟩
          rw [hde']; exact hcb
theorem Fine.crash {s : Pf} {T : Nat} (h : Fine s T) (n : Int) (hn : n ≤ 9223372036854775807) : Fine { s with left := max n 0 } T := ⟨h.fits.crash n hn, ⟨h.canon.names, h.canon.dur, h.canon.waits⟩, h.apart⟩
theorem Fine.write {s : Pf} {T : Nat} (h : Fine s T) {path b : ByteArray} (ho : okS path) : Fine (writeS s path b) (T + 2) := by
  unfold writeS
  split
  · exact h.tick.mono (by omega)
  · rename_i h0
    have hr : writeRes s path b = 0 := Classical.byContradiction fun e => h0 e
    have hb0 : beginRes s (hasName path.data.toList) = 0 := Classical.byContradiction fun e => e (by
      have := writeRes_n (b := b) e; rw [hr] at this; exact this.symm)
    have hgn := begin_good hb0
    have hcp := canon_plc ho hgn
    have hbs : b.size ≤ 65536 := by
      rw [writeRes_0 hb0] at hr
      split at hr
      · omega
      · split at hr
        · omega
        · unfold wrTail at hr
          split at hr
          · omega
          · rename_i h1; exact Classical.byContradiction fun e => h1 (.inl (by omega))
    cases hf : fileOf s path with
    | some i =>
      simp only []
      have hl := h.fits.files i (find_live hf)
      have := h.tick.fits.file i ⟨b, (s.files i).d⟩ ⟨hbs, hl.2⟩
      rw [tick_files] at this
      exact ⟨this.mono (by omega), ⟨h.canon.tick.names, h.canon.tick.dur, h.canon.tick.waits⟩, h.apart.tick⟩
    | none =>
      simp only []
      have hm : Fits { tickS s with made := s.made + 1, files := putFile s.files (s.made + 1) ⟨b, ⟨#[]⟩⟩ } (T + 1) := by
        have h1 := h.fits.tick
        refine ⟨by have := h1.names; exact Nat.le_succ_of_le this, by have := h1.dur; exact Nat.le_succ_of_le this, Nat.le_succ_of_le h1.dirs, by have := h.fits.made; show s.made + 1 ≤ T + 1; omega, h1.left, fun j hj => ?_, h1.strs, h1.root⟩
        have h2 := h1.files j hj
        rw [tick_files] at h2
        show (putFile s.files (s.made + 1) ⟨b, ⟨#[]⟩⟩ j).c.size ≤ _ ∧ (putFile s.files (s.made + 1) ⟨b, ⟨#[]⟩⟩ j).d.size ≤ _
        unfold putFile
        split
        · exact ⟨hbs, Nat.zero_le _⟩
        · exact h2
      have hc : CanonS { tickS s with made := s.made + 1, files := putFile s.files (s.made + 1) ⟨b, ⟨#[]⟩⟩ } := ⟨h.canon.tick.names, h.canon.tick.dur, h.canon.tick.waits⟩
      have hw : WApart { tickS s with made := s.made + 1, files := putFile s.files (s.made + 1) ⟨b, ⟨#[]⟩⟩ } := h.apart.tick
      exact ⟨hm.changed hw (plcOf path).d ⟨⟨#[]⟩, (plcOf path).n, some (s.made + 1)⟩ ⟨ok_empty, hcp.1.2⟩ (fun i hi => by
        injection hi with hi; subst hi
        show (putFile s.files (s.made + 1) ⟨b, ⟨#[]⟩⟩ (s.made + 1)).c.size ≤ _ ∧ (putFile s.files (s.made + 1) ⟨b, ⟨#[]⟩⟩ (s.made + 1)).d.size ≤ _
        unfold putFile
        rw [if_pos rfl]
        exact ⟨hbs, Nat.zero_le _⟩), hc.change _ _ (fun _ => hcp), hw.change _ _⟩
end Go.Proofs.YtdbcjiapbehacaaGreatDoor.Vp

/-! Layer 5: Reboot as the kernel can reckon it: the sorts by insertion. -/
namespace Go.Proofs.YtdbcjiapbehacaaGreatDoor.Vp
open Go.RowKit Go.Maps Go.Sort

section
variable {α : Type} (le : α → α → Bool)
def ins (x : α) : List α → List α
  | [] => [x]
  | y :: ys => if le x y then x :: y :: ys else y :: ins x ys
def isort : List α → List α
  | [] => []
  | x :: xs => ins le x (isort xs)
variable {le}
theorem ins_perm (x : α) : ∀ l : List α, (ins le x l).Perm (x :: l)
  | [] => .refl _
  | y :: ys => by
    unfold ins
    split
    · exact .refl _
    · exact ((ins_perm x ys).cons y).trans (List.Perm.swap x y ys)
theorem isort_perm : ∀ l : List α, (isort le l).Perm l
  | [] => .refl _
  | x :: xs => (ins_perm x _).trans ((isort_perm xs).cons x)
theorem ins_sorted (ht : ∀ a b c, le a b = true → le b c = true → le a c = true) (hl : ∀ a b, (le a b || le b a) = true) (x : α) : ∀ l : List α, l.Pairwise (fun a b => le a b = true) → (ins le x l).Pairwise (fun a b => le a b = true)
  | [], _ => by simp [ins]
  | y :: ys, h => by
    obtain ⟨h1, h2⟩ := List.pairwise_cons.1 h
    unfold ins
    split
    · rename_i hxy
      refine List.pairwise_cons.2 ⟨fun z hz => ?_, h⟩
      rcases List.mem_cons.1 hz with rfl | hz
      · exact hxy
      · exact ht _ _ _ hxy (h1 z hz)
    · rename_i hxy
      have hyx : le y x = true := by have := hl x y; simp [hxy] at this; exact this
      refine List.pairwise_cons.2 ⟨fun z hz => ?_, ins_sorted ht hl x ys h2⟩
      rcases List.mem_cons.1 ((ins_perm x ys).mem_iff.1 hz) with rfl | hz
      · exact hyx
      · exact h1 z hz
theorem isort_sorted (ht : ∀ a b c, le a b = true → le b c = true → le a c = true) (hl : ∀ a b, (le a b || le b a) = true) : ∀ l : List α, (isort le l).Pairwise (fun a b => le a b = true)
  | [] => List.Pairwise.nil
  | x :: xs => ins_sorted ht hl x _ (isort_sorted ht hl xs)
end
theorem sortP_isort {l : List Plc} (hc : ∀ x ∈ l, Canon x) : sortP l = isort leP l := (sortP_eq hc (isort_perm l) (isort_sorted leP_trans leP_total l)).symm
def leBy (x y : List UInt8) : Bool := !ltStr y x
theorem leBy_eq (x y : List UInt8) : decide (x ≤ y) = leBy x y := by
  unfold leBy ltStr
  by_cases h : y < x
  · have : ¬ x ≤ y := List.not_le.2 h
    simp [h, this]
  · have : x ≤ y := List.not_lt.1 h
    simp [h, this]
theorem sortB_isort (l : List (List UInt8)) : sortB l = isort leBy l := by
  have ht : ∀ a b c : List UInt8, leBy a b = true → leBy b c = true → leBy a c = true := fun a b c h1 h2 => by
    rw [← leBy_eq, decide_eq_true_eq] at *; exact List.le_trans h1 h2
  have hl : ∀ a b : List UInt8, (leBy a b || leBy b a) = true := fun a b => by
    rw [← leBy_eq, ← leBy_eq]; simp; exact List.le_total a b
  have e : (fun x y : List UInt8 => decide (x ≤ y)) = leBy := by funext x y; exact leBy_eq x y
  unfold sortB
  rw [e]
  refine List.Perm.eq_of_pairwise (le := fun x y => leBy x y = true) ?_ (List.pairwise_mergeSort ht hl _) (isort_sorted ht hl l) ((List.mergeSort_perm _ _).trans (isort_perm l).symm)
  intro a b _ _ h1 h2
  rw [← leBy_eq, decide_eq_true_eq] at h1 h2
  exact List.le_antisymm h1 h2
def dirI (s : Pf) : List ByteArray := (isort leBy (s.waits.map fun x => x.1.data.toList)).map fun l => ⟨l.toArray⟩
theorem dirB_I (s : Pf) : dirB s = dirI s := by unfold dirB dirI dirsOf; rw [sortB_isort]
def midI (s : Pf) (choice : Int) : Pf × Nat := (dirI s).foldl stepD (s, cntOf choice)
def rebootI (s : Pf) (choice : Int) : Pf := { ((isort leP ((midI s choice).1.dur.map (·.1))).foldl stepF (cloneS (midI s choice).1, (midI s choice).2)).1 with left := 0, down := false }
theorem stepD_canon : ∀ (ds : List ByteArray) (x : Pf × Nat), CanonS x.1 → CanonS (ds.foldl stepD x).1
  | [], _, h => h
  | d :: ds, x, h => stepD_canon ds (stepD x d) (h.keep d _)
theorem reboot_I {s : Pf} (h : CanonS s) (choice : Int) : rebootS s choice = rebootI s choice := by
  unfold rebootS lateS rebootI
  have e : midS s choice = midI s choice := by unfold midS midI; rw [dirB_I]
  rw [e, sortP_isort (fun x hx => by
    obtain ⟨q, hq, rfl⟩ := List.mem_map.1 hx
    have hcc : CanonS (midI s choice).1 := stepD_canon _ _ h
    exact hcc.dur q hq)]
end Go.Proofs.YtdbcjiapbehacaaGreatDoor.Vp

/-! Layer 5: the chapter's examples (works). -/
namespace Go.Proofs.YtdbcjiapbehacaaGreatDoor.Vp
open Go.RowKit Go.Maps
open Go.Proofs.YtdbcjiapbehacaaGreatDoor.Vf (Hold OwnR Moves ret_int Moves.refl Moves.trans)

def pA : ByteArray := ⟨#[47, 97]⟩
def pX : ByteArray := ⟨#[47, 97, 47, 120]⟩
/-- Two file systems side by side, all in blocks from w's end on. -/
structure Two (w : World) (pf : Nat) (sf : Pf) (lf : Loc) (pg : Nat) (sg : Pf) (lg : Loc) (W : World) : Prop where
  f : At W pf sf lf
  g : At W pg sg lg
  fn : ∀ b, Foot pf sf lf b → w.heap.size ≤ b
  gn : ∀ b, Foot pg sg lg b → w.heap.size ≤ b
  off : ∀ b, Foot pf sf lf b → ¬ Foot pg sg lg b
  below : Below w.heap.size w W
section
variable {w W w' : World} {pf pg : Nat} {sf sg s' : Pf} {lf lg : Loc}
theorem Two.keep (h : Two w pf sf lf pg sg lg W) (hb : Below W.heap.size W w') : Two w pf sf lf pg sg lg w' :=
  ⟨h.f.below hb, h.g.below hb, h.fn, h.gn, h.off, h.below.trans (hb.mono h.below.size)⟩
theorem below_moves {F' : Nat → Prop} {F : Nat → Prop} (h : Below w.heap.size w W) (hm : Moves W w' F F') (hn : ∀ b, F b → w.heap.size ≤ b) : Below w.heap.size w w' :=
  ⟨hm.os.trans h.os, hm.tape.trans h.tape, hm.output.trans h.output, Nat.le_trans h.size hm.size, fun b hb => (hm.stay b (Nat.lt_of_lt_of_le hb h.size) (fun hf => by have := hn b hf; omega)).trans (h.block b hb)⟩
theorem Two.onF (h : Two w pf sf lf pg sg lg W) (ha : After W pf sf s' lf w') : ∃ lf', Two w pf s' lf' pg sg lg w' := by
  obtain ⟨lf', hA, hm⟩ := ha
  refine ⟨lf', hA, h.g.keep fun b hb => hm.stay b (h.g.lt hb) (fun hf => h.off b hf hb), fun b hb => ?_, h.gn, fun b hb hgb => ?_, below_moves h.below hm h.fn⟩
  · rcases hm.new b hb with e | e
    · exact h.fn b e
    · exact Nat.le_trans h.below.size e
  · rcases hm.new b hb with e | e
    · exact h.off b e hgb
    · have := h.g.lt hgb; omega
theorem Two.flip (h : Two w pf sf lf pg sg lg W) : Two w pg sg lg pf sf lf W := ⟨h.g, h.f, h.gn, h.fn, fun b hb hf => h.off b hf hb, h.below⟩
theorem Two.onG (h : Two w pf sf lf pg sg lg W) (ha : After W pg sg s' lg w') : ∃ lg', Two w pf sf lf pg s' lg' w' := by
  obtain ⟨l, h2⟩ := h.flip.onF ha
  exact ⟨l, h2.flip⟩
end
/-- One, all in blocks from w's end on. -/
structure One (w : World) (p : Nat) (s : Pf) (l : Loc) (W : World) : Prop where
  f : At W p s l
  fn : ∀ b, Foot p s l b → w.heap.size ≤ b
  below : Below w.heap.size w W
theorem One.on {w W w' : World} {p : Nat} {s s' : Pf} {l : Loc} (h : One w p s l W) (ha : After W p s s' l w') : ∃ l', One w p s' l' w' := by
  obtain ⟨l', hA, hm⟩ := ha
  refine ⟨l', hA, fun b hb => ?_, below_moves h.below hm h.fn⟩
  rcases hm.new b hb with e | e
  · exact h.fn b e
  · exact Nat.le_trans h.below.size e
theorem One.keep {w W w' : World} {p : Nat} {s : Pf} {l : Loc} (h : One w p s l W) (hb : Below W.heap.size W w') : One w p s l w' := ⟨h.f.below hb, h.fn, h.below.trans (hb.mono h.below.size)⟩
theorem One.copied {w W w' : World} {p p' : Nat} {s : Pf} {l l' : Loc} (h : One w p s l W) (hA : At w' p' s l') (hb : Below W.heap.size W w') (hn : ∀ b, Foot p' s l' b → W.heap.size ≤ b) : Two w p s l p' s l' w' :=
  ⟨h.f.below hb, hA, h.fn, fun b hb2 => Nat.le_trans h.below.size (hn b hb2), fun b hb2 hg => by have := h.f.lt hb2; have := hn b hg; omega, h.below.trans (hb.mono h.below.size)⟩
theorem read_after {p : Nat} {s : Pf} {l : Loc} {W w' : World} (hA : At w' p (tickS s) l) (hg : W.grownBy w' (some p)) : After W p s (tickS s) l w' := ⟨l, hA, moves_tick hg⟩
/-- A new one. -/
theorem one_new {w w' : World} {room : Int} (hA : At w' w.heap.size (newS room) (newL (w.heap.size + 1))) (hb : Below w.heap.size w w') : One w w.heap.size (newS room) (newL (w.heap.size + 1)) w' := by
  refine ⟨hA, ?_, hb⟩
  rintro b (e | e | e | e | ⟨i, hi, _⟩ | ⟨x, hx, e⟩)
  · omega
  · have : b = w.heap.size + 1 := e; omega
  · have : b = w.heap.size + 1 + 1 := e; omega
  · have : b = w.heap.size + 1 + 2 := e; omega
  · exact absurd hi (new_live room i)
  · cases e
theorem lit_bytes (W : World) (cs : List UInt8) (n : Nat) (hn : cs.length = n) : BytesAt (W.alloc (.cells (cs.map fun b => Value.int .u8 b.toNat).toArray 5)) (.slice (some ⟨W.heap.size, 0, none⟩) n n) ⟨cs.toArray⟩ := by
  refine ⟨_, n, by rw [← hn]; rfl, .inr ⟨W.heap.size, 0, _, _, rfl, heap_alloc_new W _, fun j hj => ?_⟩⟩
  have := World.cell?_alloc_mark W (cs.map fun b => Value.int .u8 b.toNat).toArray 5 (0, 0) j
  rw [Nat.zero_add, this]
  have hj2 : j < cs.length := hj
  simp [hj2]
end Go.Proofs.YtdbcjiapbehacaaGreatDoor.Vp

/-! Layer 5: works: its walk. -/
namespace Go.Proofs.YtdbcjiapbehacaaGreatDoor.Vp
open Go.RowKit Go.Maps
open Go.Proofs.YtdbcjiapbehacaaGreatDoor.Vf (Hold OwnR Moves ret_int Moves.refl Moves.trans)

def k2 : Pf := mkdirS (newS 100) pA
def k3 : Pf := writeS k2 pX ⟨#[1, 2]⟩
def k4 : Pf := syncS k3 pX
def g5 : Pf := syncDirS k4 pA
def f5 : Pf := rebootS k4 0
def g6 : Pf := rebootS g5 0
def g8 : Pf := writeS (tickS g6) pX ⟨#[3, 4, 5]⟩
def g9 : Pf := rebootS g8 3
theorem okA : okS pA := by unfold okS; decide
theorem okX : okS pX := by unfold okS; decide
theorem n2 : Fine k2 2 := (fine_new 100).mkdir
theorem n3 : Fine k3 4 := n2.write okX
theorem n4 : Fine k4 5 := n3.sync pX
theorem m5 : Fine g5 6 := n4.syncDir
theorem f5_I : f5 = rebootI k4 0 := reboot_I n4.canon 0
theorem g6_I : g6 = rebootI g5 0 := reboot_I m5.canon 0
theorem r1 : mkdirRes (newS 100) pA = 0 := by decide +kernel
theorem r2 : writeRes k2 pX ⟨#[1, 2]⟩ = 0 := by decide +kernel
theorem r3 : (findRes k3 pX).2 = 0 := by decide +kernel
theorem r4 : findDirRes k4 pA = 0 := by decide +kernel
theorem r5 : (findRes f5 pX).2 = 50 := by rw [f5_I]; decide +kernel
theorem r6 : (findRes g6 pX).2 = 0 ∧ readB g6 pX = ⟨#[1, 2]⟩ := by rw [g6_I]; decide +kernel
theorem r7 : writeRes (tickS g6) pX ⟨#[3, 4, 5]⟩ = 0 := by rw [g6_I]; decide +kernel
theorem r8 (hc : CanonS g8) : (findRes g9 pX).2 = 0 ∧ readB g9 pX = ⟨#[3, 4]⟩ := by
  unfold g9
  rw [reboot_I hc]
  unfold g8
  rw [g6_I]; decide +kernel
set_option maxRecDepth 100000 in
set_option maxHeartbeats 8000000 in
theorem works_any (w : World) : Calls Tryz.prog 10 #[] w fun e w' => e = .returned (.bool true) ∧ Below w.heap.size w w' := by
  have H1 : Hid (∀ W p l, One w p (newS 100) l W → Calls Tryz.prog 23 #[.pointer (some ⟨p, 0, none⟩), .string ⟨#[47, 97]⟩] W fun e w' => e = .returned (.int .i64 0) ∧ ∃ l', One w p k2 l' w') := Lib.hid fun W p l h => (mkdir_any p _ l 1 pA W h.f (fine_new 100).fits okA).mono fun e w' ⟨he, ha⟩ => ⟨by rw [he, r1], h.on ha⟩
  have H2 : Hid (∀ W p l v, One w p k2 l W → BytesAt W v ⟨#[1, 2]⟩ → Calls Tryz.prog 16 #[.pointer (some ⟨p, 0, none⟩), .string ⟨#[47, 97, 47, 120]⟩, v] W fun e w' => e = .returned (.int .i64 0) ∧ ∃ l', One w p k3 l' w') := Lib.hid fun W p l v h hv => (write_any p _ l 2 pX ⟨#[1, 2]⟩ v W h.f n2.fits (by omega) okX hv).mono fun e w' ⟨he, ha⟩ => ⟨by rw [he, r2], h.on ha⟩
  have H3 : Hid (∀ W p l, One w p k3 l W → Calls Tryz.prog 17 #[.pointer (some ⟨p, 0, none⟩), .string ⟨#[47, 97, 47, 120]⟩] W fun e w' => e = .returned (.int .i64 0) ∧ ∃ l', One w p k4 l' w') := Lib.hid fun W p l h => (sync_any p _ l pX W h.f n3.fits.left okX).mono fun e w' ⟨he, ha⟩ => ⟨by rw [he, r3], h.on ha⟩
  have H4 : Hid (∀ W p l, One w p k4 l W → Calls Tryz.prog 25 #[.pointer (some ⟨p, 0, none⟩)] W fun e w' => ∃ p' l', e = .returned (.pointer (some ⟨p', 0, none⟩)) ∧ Two w p k4 l p' k4 l' w') := Lib.hid fun W p l h => (copy_any p _ l 5 W h.f n4.fits (by omega) (by decide +kernel)).mono fun e w' ⟨p', l', he, hA, hb, hn⟩ => ⟨p', l', he, h.copied hA hb hn⟩
  have H5 : Hid (∀ W p l q m, Two w p k4 l q k4 m W → Calls Tryz.prog 18 #[.pointer (some ⟨q, 0, none⟩), .string ⟨#[47, 97]⟩] W fun e w' => e = .returned (.int .i64 0) ∧ ∃ m', Two w p k4 l q g5 m' w') := Lib.hid fun W p l q m h => (syncDir_any q _ m pA W h.g n4.fits.left okA (fun x hx => by obtain ⟨xs, h1, h2⟩ := mem_waitsOf hx; exact n4.fits.strs _ h1 x h2) (by have := n4.fits.dur; have := waitsOf_le k4 pA; omega) (by have := n4.fits.dirs; omega)).mono fun e w' ⟨he, ha⟩ => ⟨by rw [he, r4], h.onG ha⟩
  have H6 : Hid (∀ W p l q m, Two w p k4 l q g5 m W → Calls Tryz.prog 19 #[.pointer (some ⟨p, 0, none⟩), .int .i64 0] W fun e w' => (∃ r, e = .returned r) ∧ ∃ l', Two w p f5 l' q g5 m w' ∧ Fits f5 5) := Lib.hid fun W p l q m h => (reboot_any p _ l 5 0 W h.f n4.fits (by omega) n4.canon).mono fun e w' ⟨he, ha, hf, _⟩ => ⟨he, by obtain ⟨l', h2⟩ := h.onF ha; exact ⟨l', h2, hf⟩⟩
  have H7 : Hid (∀ W p l q m, Fits f5 5 → Two w p f5 l q g5 m W → Calls Tryz.prog 20 #[.pointer (some ⟨p, 0, none⟩), .string ⟨#[47, 97, 47, 120]⟩] W fun e w' => e = .returned (.tuple #[.slice none 0 0, .int .i64 50]) ∧ ∃ l', Two w p (tickS f5) l' q g5 m w') := Lib.hid fun W p l q m hf h => (read_any p _ l pX W h.f hf.left okX).mono fun e w' ⟨⟨v, he, hv⟩, hA, hg⟩ => ⟨by
    rw [r5] at he hv
    rcases hv with ⟨_, rfl⟩ | ⟨h0, _⟩
    · exact he
    · omega, h.onF (read_after hA hg)⟩
  have H8 : Hid (∀ W p l q m s, Two w p s l q g5 m W → Calls Tryz.prog 19 #[.pointer (some ⟨q, 0, none⟩), .int .i64 0] W fun e w' => (∃ r, e = .returned r) ∧ ∃ m', Two w p s l q g6 m' w' ∧ Fine g6 6) := Lib.hid fun W p l q m s h => (reboot_any q _ m 6 0 W h.g m5.fits (by omega) m5.canon).mono fun e w' ⟨he, ha, hf, hc⟩ => ⟨he, by obtain ⟨l', h2⟩ := h.onG ha; exact ⟨l', h2, hf, hc, h2.g.apartW⟩⟩
  have H9 : Hid (∀ W p l q m s, Fine g6 6 → Two w p s l q g6 m W → Calls Tryz.prog 20 #[.pointer (some ⟨q, 0, none⟩), .string ⟨#[47, 97, 47, 120]⟩] W fun e w' => ∃ g c, e = .returned (.tuple #[.slice (some ⟨g, 0, none⟩) 2 c, .int .i64 0]) ∧ BytesAt w' (.slice (some ⟨g, 0, none⟩) 2 c) ⟨#[1, 2]⟩ ∧ ∃ m', Two w p s l q (tickS g6) m' w') := Lib.hid fun W p l q m s hf h => (read_any q _ m pX W h.g hf.fits.left okX).mono fun e w' ⟨⟨v, he, hv⟩, hA, hg⟩ => by
    rw [r6.1] at he hv
    rcases hv with ⟨h0, _⟩ | ⟨_, hb⟩
    · exact absurd rfl h0
    · rw [r6.2] at hb
      have hb2 := hb.bytes
      obtain ⟨g, c, k, rfl, _⟩ := hb
      exact ⟨g, c, he, hb2, h.onG (read_after hA hg)⟩
  have H10 : Hid (∀ W p l q m s v u, Fine g6 6 → BytesAt W u ⟨#[1, 2]⟩ → Two w p s l q (tickS g6) m W → BytesAt W v ⟨#[3, 4, 5]⟩ → Calls Tryz.prog 16 #[.pointer (some ⟨q, 0, none⟩), .string ⟨#[47, 97, 47, 120]⟩, v] W fun e w' => e = .returned (.int .i64 0) ∧ BytesAt w' u ⟨#[1, 2]⟩ ∧ Fine g8 9 ∧ ∃ m', Two w p s l q g8 m' w') := Lib.hid fun W p l q m s v u hf hu h hv => (write_any q _ m 7 pX ⟨#[3, 4, 5]⟩ v W h.g hf.tick.fits (by omega) okX hv).mono fun e w' ⟨he, ha⟩ => ⟨by rw [he, r7], (by obtain ⟨_, _, hm⟩ := ha; exact hu.moves h.g hm), hf.tick.write okX, h.onG ha⟩
  have H11 : Hid (∀ W p l q m s u, Fine g8 9 → BytesAt W u ⟨#[1, 2]⟩ → Two w p s l q g8 m W → Calls Tryz.prog 19 #[.pointer (some ⟨q, 0, none⟩), .int .i64 3] W fun e w' => (∃ r, e = .returned r) ∧ BytesAt w' u ⟨#[1, 2]⟩ ∧ ∃ m', Two w p s l q g9 m' w' ∧ Fits g9 9) := Lib.hid fun W p l q m s u hf hu h => (reboot_any q _ m 9 3 W h.g hf.fits (by omega) hf.canon).mono fun e w' ⟨he, ha, hf2, _⟩ => ⟨he, (by obtain ⟨_, _, hm⟩ := ha; exact hu.moves h.g hm), by obtain ⟨l', h2⟩ := h.onG ha; exact ⟨l', h2, hf2⟩⟩
  have H12 : Hid (∀ W p l q m s u, Fine g8 9 → Fits g9 9 → BytesAt W u ⟨#[1, 2]⟩ → Two w p s l q g9 m W → Calls Tryz.prog 20 #[.pointer (some ⟨q, 0, none⟩), .string ⟨#[47, 97, 47, 120]⟩] W fun e w' => ∃ g c, e = .returned (.tuple #[.slice (some ⟨g, 0, none⟩) 2 c, .int .i64 0]) ∧ BytesAt w' (.slice (some ⟨g, 0, none⟩) 2 c) ⟨#[3, 4]⟩ ∧ BytesAt w' u ⟨#[1, 2]⟩ ∧ Below w.heap.size w w') := Lib.hid fun W p l q m s u h8 hf hu h => (read_any q _ m pX W h.g hf.left okX).mono fun e w' ⟨⟨v, he, hv⟩, hA, hg⟩ => by
    have r8' := r8 h8.canon
    rw [r8'.1] at he hv
    rcases hv with ⟨h0, _⟩ | ⟨_, hb⟩
    · exact absurd rfl h0
    · rw [r8'.2] at hb
      have hb2 := hb.bytes
      obtain ⟨g, c, k, rfl, _⟩ := hb
      obtain ⟨m', h2⟩ := h.onG (read_after hA hg)
      exact ⟨g, c, he, hb2, hu.gb h.g hg, h2.below⟩
  have HNW := Lib.hid (new_any 100 w)
  go_enter Tryz.func10, Tryz.ntmps10
  go_wp2_with (first
    | (go_at_call 11; refine HNW.out.mono ?_; clear HNW; rintro e w1 ⟨rfl, hA, hb⟩; have T1 := Lib.hid (one_new (show At w1 w.heap.size (newS 100) (newL (w.heap.size + 1)) from hA) hb); clear hA hb)
    | (go_at_call 23; refine (H1.out _ _ _ T1.out).mono ?_; clear H1; rintro e w2 ⟨rfl, l2, h⟩; have T2 := Lib.hid (h.keep ((Below.refl _ _).alloc (Nat.le_refl _) (.cells #[.int .u8 1, .int .u8 2] 5))); clear h T1)
    | (go_at_call 16; refine (H2.out _ _ _ _ T2.out (lit_bytes w2 [1, 2] 2 rfl)).mono ?_; clear H2; rintro e w3 ⟨rfl, l3, h⟩; have T3 := Lib.hid h; clear h T2)
    | (go_at_call 17; refine (H3.out _ _ _ T3.out).mono ?_; clear H3; rintro e w4 ⟨rfl, l4, h⟩; have T4 := Lib.hid h; clear h T3)
    | (go_at_call 25; refine (H4.out _ _ _ T4.out).mono ?_; clear H4; rintro e w5 ⟨q, m5', rfl, h⟩; have T5 := Lib.hid h; clear h T4)
    | (go_at_call 18; refine (H5.out _ _ _ _ _ T5.out).mono ?_; clear H5; rintro e w6 ⟨rfl, m6, h⟩; have T6 := Lib.hid h; clear h T5)
    | (go_at_call 19; refine (H6.out _ _ _ _ _ T6.out).mono ?_; clear H6; rintro e w7 ⟨⟨r, rfl⟩, l7, h, hf⟩; have T7 := Lib.hid h; have F7 := Lib.hid hf; clear h hf T6)
    | (go_at_call 20; refine (H7.out _ _ _ _ _ F7.out T7.out).mono ?_; clear H7; rintro e w8 ⟨rfl, l8, h⟩; have T8 := Lib.hid h; clear h T7)
    | (go_at_call 19; refine (H8.out _ _ _ _ _ _ T8.out).mono ?_; clear H8; rintro e w9 ⟨⟨r, rfl⟩, m9, h, hf⟩; have T9 := Lib.hid h; have F9 := Lib.hid hf; clear h hf T8)
    | (go_at_call 20; refine (H9.out _ _ _ _ _ _ F9.out T9.out).mono ?_; clear H9; rintro e w10 ⟨gx, cx, rfl, hb, m10, h⟩; have hbl := ((Below.refl w10.heap.size w10).alloc (Nat.le_refl _) (.cells #[.int .u8 3, .int .u8 4, .int .u8 5] 5)); have T10 := Lib.hid (h.keep hbl); have B10 := Lib.hid (hb.below hbl); clear h hb hbl T9)
    | (go_at_call 16; refine (H10.out _ _ _ _ _ _ _ _ F9.out B10.out T10.out (lit_bytes w10 [3, 4, 5] 3 rfl)).mono ?_; clear H10; rintro e w11 ⟨rfl, hb, hf, m11, h⟩; have T11 := Lib.hid h; have B11 := Lib.hid hb; have F11 := Lib.hid hf; clear h hb hf T10 B10)
    | (go_at_call 19; refine (H11.out _ _ _ _ _ _ _ F11.out B11.out T11.out).mono ?_; clear H11; rintro e w12 ⟨⟨r, rfl⟩, hb, m12, h, hf⟩; have T12 := Lib.hid h; have B12 := Lib.hid hb; have F12 := Lib.hid hf; clear h hb hf T11 B11)
    | (go_at_call 20; refine (H12.out _ _ _ _ _ _ _ F11.out F12.out B12.out T12.out).mono ?_; clear H12; rintro e w13 ⟨gy, cy, rfl, hb, hb2, hbl⟩; have hcy := hb.text; have hcx := hb2.text; have B13 := Lib.hid hbl; clear hb hb2 hbl T12 B12)
    | fail)
  go_ret
  exact ⟨rfl, B13.out⟩
end Go.Proofs.YtdbcjiapbehacaaGreatDoor.Vp
