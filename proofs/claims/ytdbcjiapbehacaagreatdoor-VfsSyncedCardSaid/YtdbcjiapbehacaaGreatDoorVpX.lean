/-
  Layer 5: where all files and directories are synced, a crash changes nothing: told plainly.
-/
import Derived.Test.YtdbcjiapbehacaaGreatDoorVpV
namespace Go.Proofs.YtdbcjiapbehacaaGreatDoor.Vp
open Go.RowKit Go.Maps

/-- It is up, and no crash is set. -/
structure Up (s : Pf) : Prop where
  left : s.left = 0
  down : s.down = false
section
variable {s t u : Pf} {d e n path : ByteArray}
theorem Up.tick (h : Up s) : tickS s = s := still_tick h.left
theorem Up.begin (h : Up s) (r : Bool) : beginRes s r = if r then 0 else 2 := by
  unfold beginRes
  rw [h.tick, h.down]
  rfl
theorem Up.find (h : Up s) (hn : hasName path.data.toList = true) : findRes s path = if isDirS s path then ((none : Option Nat), (53 : Int)) else match fileOf s path with
    | none => (none, 50)
    | some i => (some i, 0) := by
  unfold findRes
  rw [h.begin, hn]
  rfl
theorem Up.findDir (h : Up s) (hn : isPath path.data.toList = true) : findDirRes s path = if path ≠ rootB ∧ (fileOf s path).isSome then 53 else if isDirS s path then 0 else 50 := by
  unfold findDirRes
  rw [h.begin, hn]
  rfl
theorem up_reboot (s : Pf) (c : Int) : Up (rebootS s c) := ⟨rfl, rfl⟩

/-! ### Sync, and SyncDir -/
/-- Nothing but files' durable contents has changed. -/
structure Calm (s t : Pf) : Prop where
  names : t.names = s.names
  waits : t.waits = s.waits
  same : ∀ i, (s.files i).c = (s.files i).d → (t.files i).c = (t.files i).d
theorem Calm.refl (s : Pf) : Calm s s := ⟨rfl, rfl, fun _ h => h⟩
theorem Calm.trans (h : Calm s t) (k : Calm t u) : Calm s u := ⟨k.names.trans h.names, k.waits.trans h.waits, fun i hi => k.same i (h.same i hi)⟩
theorem Calm.dir (h : Calm s t) (e : ByteArray) : isDirS t e = isDirS s e := by unfold isDirS; rw [h.waits]
theorem Calm.file (h : Calm s t) (e : ByteArray) : fileOf t e = fileOf s e := by unfold fileOf; rw [h.names]
theorem Calm.wait (h : Calm s t) (e : ByteArray) : waitsOf t e = waitsOf s e := by unfold waitsOf; rw [h.waits]
theorem Up.sync (h : Up s) (path : ByteArray) : Calm s (syncS s path) ∧ Up (syncS s path) := by
  unfold syncS
  split
  · rw [h.tick]; exact ⟨Calm.refl s, h⟩
  · rename_i i _
    rw [h.tick]
    refine ⟨⟨rfl, rfl, fun j hj => ?_⟩, h.left, h.down⟩
    show (putFile s.files i _ j).c = (putFile s.files i _ j).d
    unfold putFile
    split
    · rfl
    · exact hj
/-- Behind Sync of a name its file is durable, or the name is a directory's. -/
theorem Up.synced (h : Up s) (hd : d ∈ dirs3) (hc : Canon ⟨d, n⟩) {i : Nat} (hi : look s.names ⟨d, n⟩ = some i) : ((syncS s (joinP d n)).files i).c = ((syncS s (joinP d n)).files i).d ∨ isDirS s (joinP d n) = true := by
  obtain ⟨hn, hp⟩ := canon_join hd hc
  cases hdir : isDirS s (joinP d n) with
  | true => exact .inr rfl
  | false =>
    left
    have e : findRes s (joinP d n) = (some i, 0) := by
      rw [h.find hn, hdir]
      have : fileOf s (joinP d n) = some i := by unfold fileOf; rw [hp]; exact hi
      rw [this]; rfl
    unfold syncS
    rw [e]
    show (putFile s.files i _ i).c = (putFile s.files i _ i).d
    unfold putFile
    rw [if_pos rfl]
/-- All that a directory has is durable. -/
def Done (s : Pf) (d : ByteArray) : Prop := findDirRes s d = 0 → waitsOf s d = [] ∧ ∀ n i, look s.names ⟨d, n⟩ = some i → (s.files i).c = (s.files i).d ∨ isDirS s (joinP d n) = true
theorem Up.findDir_calm (hs : Up s) (ht : Up t) (hn : isPath path.data.toList = true) (h1 : fileOf t path = fileOf s path) (h2 : isDirS t path = isDirS s path) : findDirRes t path = findDirRes s path := by
  rw [hs.findDir hn, ht.findDir hn, h1, h2]
theorem Done.calm (hs : Up s) (ht : Up t) (hn : isPath d.data.toList = true) (h : Calm s t) (hd : Done s d) : Done t d := fun h0 => by
  rw [hs.findDir_calm ht hn (h.file d) (h.dir d)] at h0
  obtain ⟨h1, h2⟩ := hd h0
  refine ⟨(h.wait d).trans h1, fun n i hi => ?_⟩
  rw [h.names] at hi
  rw [h.dir]
  exact (h2 n i hi).imp (h.same i) id
/-- SyncDir, where it is answered OK. -/
theorem Up.keeps (h : Up s) (h0 : findDirRes s d = 0) : syncDirS s d = keepS s d (waitsOf s d).length := by
  unfold syncDirS
  rw [if_neg (by rw [h0]; simp), h.tick]
theorem keep_wait (s : Pf) (d : ByteArray) (k : Nat) (e : ByteArray) : waitsOf (keepS s d k) e = if e = d then [] else waitsOf s e := waits_store _ _ _ _
theorem keep_dir {k : Nat} (hd : isDirS s d = true) (e : ByteArray) : isDirS (keepS s d k) e = isDirS s e := by
  have h : isDirS (keepS s d k) e = (decide (e = d) || isDirS s e) := dir_store _ _ _ _
  rw [h]
  by_cases he : e = d
  · subst he; rw [hd]; simp
  · simp [he]
theorem Up.syncDir (h : Up s) (d : ByteArray) : Up (syncDirS s d) := by
  unfold syncDirS
  split
  · rw [h.tick]; exact h
  · rw [h.tick]; exact ⟨h.left, h.down⟩
theorem syncDir_names (s : Pf) (d : ByteArray) : (syncDirS s d).names = s.names := by
  unfold syncDirS
  split
  · exact tick_names s
  · exact tick_names s
theorem Done.syncDir (h : Up s) (hp : isPath d.data.toList = true) (e : ByteArray) (hd : Done s d) : Done (syncDirS s e) d := by
  by_cases h0 : findDirRes s e = 0
  · rw [h.keeps h0]
    have hdir := findDir_is h0
    have hu : Up (keepS s e (waitsOf s e).length) := ⟨h.left, h.down⟩
    intro h1
    rw [h.findDir_calm hu hp rfl (keep_dir hdir d)] at h1
    obtain ⟨h2, h3⟩ := hd h1
    refine ⟨?_, fun n i hi => ?_⟩
    · rw [keep_wait]; split
      · rfl
      · exact h2
    · rw [keep_dir hdir]; exact h3 n i hi
  · have e1 : syncDirS s e = s := by unfold syncDirS; rw [if_pos h0, h.tick]
    rw [e1]; exact hd
/-- One directory has been synced. -/
theorem done_dir (hs : Up s) (ht : Up t) (hc : Calm s t) (hp : isPath d.data.toList = true) (hl : ∀ n ∈ listX s d, ∀ i, look s.names ⟨d, n⟩ = some i → (t.files i).c = (t.files i).d ∨ isDirS s (joinP d n) = true) : Done (syncDirS t d) d := by
  by_cases h0 : findDirRes t d = 0
  · rw [ht.keeps h0]
    have hdir := findDir_is h0
    have h0s : findDirRes s d = 0 := by rw [hs.findDir_calm ht hp (hc.file d) (hc.dir d)] at h0; exact h0
    intro _
    refine ⟨by rw [keep_wait, if_pos rfl], fun n i hi => ?_⟩
    have hi2 : look s.names ⟨d, n⟩ = some i := by
      have : look t.names ⟨d, n⟩ = some i := hi
      rw [hc.names] at this; exact this
    rw [keep_dir hdir, hc.dir]
    refine hl n ?_ i hi2
    unfold listX
    rw [if_pos h0s]
    refine List.mem_map.2 ⟨n.data.toList, ?_, by simp⟩
    unfold listP
    rw [sortB_mem]
    unfold nmsOf
    exact List.mem_map.2 ⟨(⟨d, n⟩, i), List.mem_filter.2 ⟨look_mem hi2, by unfold inDir; simp⟩, rfl⟩
  · have e1 : syncDirS t d = t := by unfold syncDirS; rw [if_pos h0, ht.tick]
    rw [e1]
    exact fun h => absurd h h0

/-! ### Reboot -/
theorem mid_dir : ∀ (ds : List ByteArray) (x : Pf × Nat), (∀ d ∈ ds, isDirS x.1 d = true) → ∀ e, isDirS (ds.foldl stepD x).1 e = isDirS x.1 e
  | [], _, _, _ => rfl
  | d :: ds, x, h, e => by
    have hd : isDirS x.1 d = true := h d (List.mem_cons_self ..)
    have h1 : ∀ e, isDirS (stepD x d).1 e = isDirS x.1 e := fun e => keep_dir hd e
    rw [List.foldl_cons, mid_dir ds (stepD x d) (fun d' hd' => by rw [h1]; exact h d' (List.mem_cons_of_mem _ hd')) e, h1]
theorem reboot_dir (s : Pf) (c : Int) (e : ByteArray) : isDirS (rebootS s c) e = isDirS s e := by
  have h1 : isDirS (rebootS s c) e = isDirS (midS s c).1 e := by
    show (look ((lateS s c).1).waits e).isSome = _
    unfold lateS
    rw [(late_frame _ _).2.2.1]
    rfl
  rw [h1]
  exact mid_dir (dirB s) (s, cntOf c) (fun d hd => dirB_dirs hd) e
theorem mid_look {d : ByteArray} : ∀ (ds : List ByteArray) (x : Pf × Nat), waitsOf x.1 d = [] → ∀ n, look (ds.foldl stepD x).1.dur ⟨d, n⟩ = look x.1.dur ⟨d, n⟩
  | [], _, _, _ => rfl
  | e :: ds, x, h, n => by
    have hw : waitsOf (stepD x e).1 d = [] := by
      show waitsOf (keepS x.1 e _) d = []
      rw [keep_wait]; split
      · rfl
      · exact h
    rw [List.foldl_cons, mid_look ds (stepD x e) hw n]
    show look (takeAll x.1.dur e ((waitsOf x.1 e).take _)) ⟨d, n⟩ = _
    by_cases he : d = e
    · subst he; rw [h, List.take_nil]; rfl
    · exact look_takeAll_far he _ _
theorem reboot_look (h : Inv s) (c : Int) (hw : waitsOf s d = []) (n : ByteArray) : look (rebootS s c).names ⟨d, n⟩ = look s.names ⟨d, n⟩ := by
  have h1 : (rebootS s c).names = (midS s c).1.dur := by
    show (lateS s c).1.names = _
    unfold lateS
    rw [(late_frame _ _).1]
    rfl
  rw [h1, h.full, hw]
  exact mid_look (dirB s) (s, cntOf c) hw n
theorem late_file {i : Nat} : ∀ (qs : List Plc) (x : Pf × Nat), (x.1.files i).c = (x.1.files i).d → (qs.foldl stepF x).1.files i = x.1.files i
  | [], _, _ => rfl
  | q :: qs, x, h => by
    have h1 : (stepF x q).1.files i = x.1.files i := by
      unfold stepF
      split
      · rfl
      · rename_i j _
        show putFile x.1.files j (comeS (x.1.files j) x.2).1 i = _
        unfold putFile
        split
        · rename_i e; subst e; rw [comeS_same h]
        · rfl
    rw [List.foldl_cons, late_file qs (stepF x q) (by rw [h1]; exact h), h1]
theorem mid_files : ∀ (ds : List ByteArray) (x : Pf × Nat), (ds.foldl stepD x).1.files = x.1.files
  | [], _ => rfl
  | d :: ds, x => by rw [List.foldl_cons, mid_files ds (stepD x d)]; rfl
theorem reboot_file (s : Pf) (c : Int) {i : Nat} (h : (s.files i).c = (s.files i).d) : (rebootS s c).files i = s.files i := by
  have e : (midS s c).1.files = s.files := mid_files (dirB s) (s, cntOf c)
  show (lateS s c).1.files i = _
  unfold lateS
  have h2 : ((cloneS (midS s c).1).files i).c = ((cloneS (midS s c).1).files i).d := by
    show ((midS s c).1.files i).c = ((midS s c).1.files i).d
    rw [e]; exact h
  rw [late_file _ (cloneS (midS s c).1, (midS s c).2) h2]
  show (midS s c).1.files i = _
  rw [e]
theorem nms_nodup {dir : ByteArray} {l : List (Plc × Nat)} (h : l.Pairwise fun p q => p.1 ≠ q.1) : (nmsOf dir l).Nodup := by
  unfold nmsOf
  unfold List.Nodup
  rw [List.pairwise_map]
  refine (h.filter _).imp_of_mem fun {p q} hp hq hne e => hne ?_
  have h1 := (List.mem_filter.1 hp).2
  have h2 := (List.mem_filter.1 hq).2
  unfold inDir at h1 h2
  rw [decide_eq_true_eq] at h1 h2
  obtain ⟨⟨pd, pn⟩, i⟩ := p
  obtain ⟨⟨qd, qn⟩, j⟩ := q
  dsimp only at h1 h2 e ⊢
  rw [h1, h2]
  congr 1
  exact ByteArray.ext (Array.ext' e)
theorem nms_look {dir : ByteArray} {l : List (Plc × Nat)} (h : l.Pairwise fun p q => p.1 ≠ q.1) (x : List UInt8) : x ∈ nmsOf dir l ↔ ∃ i, look l ⟨dir, ⟨x.toArray⟩⟩ = some i := by
  constructor
  · intro hx
    obtain ⟨i, hi⟩ := mem_nms hx
    exact ⟨i, look_of_mem h hi⟩
  · rintro ⟨i, hi⟩
    unfold nmsOf
    exact List.mem_map.2 ⟨(⟨dir, ⟨x.toArray⟩⟩, i), List.mem_filter.2 ⟨look_mem hi, by unfold inDir; simp⟩, by simp⟩
theorem listP_same {dir : ByteArray} (hs : s.names.Pairwise fun p q => p.1 ≠ q.1) (ht : t.names.Pairwise fun p q => p.1 ≠ q.1) (h : ∀ n, look s.names ⟨dir, n⟩ = look t.names ⟨dir, n⟩) : listP s dir = listP t dir := by
  unfold listP
  refine sortB_perm_eq ((List.perm_ext_iff_of_nodup (nms_nodup hs) (nms_nodup ht)).2 fun x => ?_)
  rw [nms_look hs, nms_look ht]
  simp only [h]
theorem root_path : plcOf pD = ⟨rootB, ⟨#[100]⟩⟩ ∧ plcOf pE = ⟨rootB, ⟨#[101]⟩⟩ := ⟨by kernel_rfl, by kernel_rfl⟩
/-- Where all is synced, a crash changes nothing. -/
theorem reboot_like (ht : Up t) (hi : Inv t) (hc : CanonS t) (hr : (look t.waits rootB).isSome) (ha : t.names.Pairwise fun p q => p.1 ≠ q.1) (hD : ∀ d ∈ dirs3, Done t d) (c : Int)
    (hu : (rebootS { t with left := 0, down := true } c).names.Pairwise fun p q => p.1 ≠ q.1) : ∀ d ∈ dirs3, Like (rebootS { t with left := 0, down := true } c) t d := by
  obtain ⟨v, hv⟩ : ∃ v : Pf, ({ t with left := 0, down := true } : Pf) = v := ⟨_, rfl⟩
  have v1 : v.names = t.names := by rw [← hv]
  have v2 : ∀ e, waitsOf v e = waitsOf t e := fun e => by rw [← hv]; rfl
  have v3 : v.files = t.files := by rw [← hv]
  have v4 : ∀ e, isDirS v e = isDirS t e := fun e => by rw [← hv]; rfl
  have hiv : Inv v := hi.set v1 (by rw [← hv]) v2 (fun e he => by rw [v4]; exact he) (by rw [← hv]; exact Nat.le_refl _)
  rw [hv] at hu ⊢
  clear hv
  obtain ⟨u, hue⟩ : ∃ u, rebootS v c = u := ⟨_, rfl⟩
  have uu : Up u := by rw [← hue]; exact up_reboot v c
  have u1 : ∀ e, isDirS u e = isDirS t e := fun e => by rw [← hue, reboot_dir, v4]
  have u2 : ∀ d, waitsOf t d = [] → ∀ n, look u.names ⟨d, n⟩ = look t.names ⟨d, n⟩ := fun d hw n => by rw [← hue, reboot_look hiv c (by rw [v2]; exact hw) n, v1]
  have u3 : ∀ i, (t.files i).c = (t.files i).d → u.files i = t.files i := fun i h => by rw [← hue, reboot_file v c (by rw [v3]; exact h), v3]
  rw [hue] at hu ⊢
  clear hue
  have hroot : findDirRes t rootB = 0 := by
    rw [ht.findDir (by decide), if_neg (by simp)]
    have : isDirS t rootB = true := hr
    rw [this]; rfl
  have hrw := (hD rootB (by simp [dirs3]) hroot).1
  have hrf : ∀ d ∈ dirs3, d ≠ rootB → fileOf u d = fileOf t d := fun d hd hne => by
    unfold fileOf
    rcases List.mem_cons.1 hd with rfl | hd
    · exact absurd rfl hne
    rcases List.mem_cons.1 hd with rfl | hd
    · rw [root_path.1]; exact u2 rootB hrw _
    obtain rfl := List.mem_singleton.1 hd
    rw [root_path.2]; exact u2 rootB hrw _
  intro d hd
  have hp := (dirs_small hd).2
  have hres : findDirRes u d = findDirRes t d := by
    rw [uu.findDir hp, ht.findDir hp, u1]
    by_cases hne : d = rootB
    · rw [if_neg (c := d ≠ rootB ∧ (fileOf u d).isSome = true) (fun h => h.1 hne), if_neg (c := d ≠ rootB ∧ (fileOf t d).isSome = true) (fun h => h.1 hne)]
    · rw [hrf d hd hne]
  by_cases h0 : findDirRes t d = 0
  · obtain ⟨hw, hf⟩ := hD d hd h0
    have hlook := u2 d hw
    have hrow : listX u d = listX t d := by unfold listX; rw [hres, if_pos h0, if_pos h0, listP_same hu ha hlook]
    refine ⟨hres, hrow, fun n hn => ?_⟩
    rw [hrow] at hn
    obtain ⟨i, him⟩ := mem_listX hn
    have hi2 : look t.names ⟨d, n⟩ = some i := look_of_mem ha him
    have hcn := hc.names _ him
    obtain ⟨hn2, hpl⟩ := canon_join hd hcn
    have f1 : fileOf t (joinP d n) = some i := by unfold fileOf; rw [hpl]; exact hi2
    have f2 : fileOf u (joinP d n) = some i := by unfold fileOf; rw [hpl, hlook]; exact hi2
    have e1 := ht.find hn2
    have e2 := uu.find hn2
    rw [u1] at e2
    rw [f1] at e1
    rw [f2] at e2
    refine ⟨by rw [e1, e2], ?_, hcn.small⟩
    cases hdr : isDirS t (joinP d n) with
    | true =>
      rw [hdr] at e1 e2
      unfold readX
      rw [e1, e2]; rfl
    | false =>
      rw [hdr] at e1 e2
      have hfi : u.files i = t.files i := u3 i ((hf n i hi2).resolve_right (by rw [hdr]; simp))
      unfold readX readB
      rw [e1, e2]
      show (u.files i).c = (t.files i).c
      rw [hfi]
  · have hl1 : listX u d = [] := by unfold listX; rw [hres, if_neg h0]
    have hl2 : listX t d = [] := by unfold listX; rw [if_neg h0]
    exact ⟨hres, by rw [hl1, hl2], fun n hn => by rw [hl1] at hn; cases hn⟩
end
end Go.Proofs.YtdbcjiapbehacaaGreatDoor.Vp
