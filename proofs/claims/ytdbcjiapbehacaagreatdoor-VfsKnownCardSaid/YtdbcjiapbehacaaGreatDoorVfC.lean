/-
  Layer 5: VfFile VfRemove VfRename VfRename2, one behind the other.
-/
import Derived.Test.YtdbcjiapbehacaaGreatDoorVfB
/-! What (*clepsydraref05.FS).file and directory answer. -/
namespace Go.Proofs.YtdbcjiapbehacaaGreatDoor.Vf
open Go.RowKit

theorem beginFs_dirs (fs : Fs) : (beginFs fs).dirs = fs.dirs := by
  unfold beginFs
  split
  · rfl
  · split <;> rfl
theorem beginFs_files (fs : Fs) : (beginFs fs).files = fs.files := by
  unfold beginFs
  split
  · rfl
  · split <;> rfl
theorem find_some {path : ByteArray} : ∀ {ds : List Dr} {i k : Nat}, findIn path ds = some (i, k) → ∃ d x, ds[i]? = some d ∧ d.names[k]? = some x
  | [], _, _, h => by cases h
  | d :: ds, i, k, h => by
    unfold findIn at h
    split at h
    · rename_i hl
      injection h with h
      injection h with h1 h2
      subst h1; subst h2
      exact ⟨d, d.names[firstIx (isAt path) d.names], rfl, List.getElem?_eq_getElem hl⟩
    · cases hf : findIn path ds with
      | none => rw [hf] at h; cases h
      | some y =>
        obtain ⟨i', k'⟩ := y
        rw [hf] at h
        injection h with h
        injection h with h1 h2
        subst h1; subst h2
        obtain ⟨d', x, a, b⟩ := find_some hf
        exact ⟨d', x, by simpa using a, b⟩
def fileEnd (fs : Fs) (path : ByteArray) : Int × Int :=
  match findIn path fs.dirs with
  | none => (-1, 50)
  | some (i, k) => ((((fs.dirs[i]?).bind fun d => d.names[k]?).map fun x => (x.f : Int)).getD 0, 0)
/-- Which file, and the error. -/
def fileRes (fs : Fs) (path : ByteArray) : Int × Int :=
  if (beginRes fs path.data.toList false).2 ≠ 0 then (-1, (beginRes fs path.data.toList false).2) else if 0 ≤ dirAt fs path then (-1, 53) else fileEnd fs path
def intsVal (x : Int × Int) : Value := .tuple #[.int .i64 x.1, .int .i64 x.2]
theorem dirAt_begin (fs : Fs) (path : ByteArray) : dirAt (beginFs fs) path = dirAt fs path := by unfold dirAt; rw [beginFs_dirs]

set_option maxHeartbeats 4000000 in
theorem rfile_any (p gd cd : Nat) (fs : Fs) (vf : Value) (dv : List Dv) (path : ByteArray) (w : World) (h : Sees w p fs vf gd cd dv) (hs : path.size ≤ 4294967296) :
    Calls Tryz.prog 65 #[.pointer (some ⟨p, 0, none⟩), .string path] w fun e w' => e = .returned (intsVal (fileRes fs path)) ∧ Sees w' p (beginFs fs) vf gd cd dv ∧ w.grownBy w' (some p) := by
  obtain ⟨R, hR⟩ : ∃ R, fileRes fs path = R := ⟨_, rfl⟩
  obtain ⟨⟨B1, B2⟩, hB⟩ : ∃ B, beginRes fs path.data.toList false = B := ⟨_, rfl⟩
  rw [hR]
  unfold fileRes at hR
  rw [hB] at hR
  have HR := Lib.hid hR
  clear hR
  go_enter Tryz.func65, Tryz.ntmps65
  go_wp2_with fail
  refine (rbegin_any p gd cd fs vf dv path false w h hs).mono ?_
  rintro e w1 ⟨rfl, h1, hg⟩
  rw [hB]
  unfold pairVal
  dsimp only
  by_cases hb2 : B2 = 0
  · subst hb2
    have hr1 : R = if 0 ≤ dirAt fs path then (-1, 53) else fileEnd fs path := by
      rw [← HR.out, if_neg (by simp)]
    clear HR
    have HR := Lib.hid hr1; clear hr1
    go_wp2_with fail
    refine (rdir_any p gd cd (beginFs fs) vf dv path w1 h1).mono ?_
    rintro e w2 ⟨rfl, rfl⟩
    rw [dirAt_begin]
    obtain ⟨D, hD⟩ : ∃ D, dirAt fs path = D := ⟨_, rfl⟩
    rw [hD] at HR ⊢
    clear hD
    by_cases hd0 : 0 ≤ D
    · have hr : R = (-1, 53) := by rw [HR.out, if_pos hd0]
      subst hr
      clear HR
      go_wp2_with fail
      go_ret2
      exact ⟨rfl, h1, hg⟩
    · have hr : R = fileEnd fs path := by rw [HR.out, if_neg hd0]
      clear HR
      have HR := Lib.hid hr; clear hr
      go_wp2_with fail
      refine (rfind_any p gd cd (beginFs fs) vf dv path w1 h1).mono ?_
      rintro e w3 ⟨rfl, rfl⟩
      rw [beginFs_dirs]
      cases hf : findIn path fs.dirs with
      | none =>
        have hr : R = (-1, 50) := by rw [HR.out]; unfold fileEnd; rw [hf]
        subst hr
        clear HR
        unfold findVal
        dsimp only
        go_wp2_with fail
        go_ret2
        exact ⟨rfl, h1, hg⟩
      | some y =>
        obtain ⟨i, k⟩ := y
        obtain ⟨d, x, hd, hx⟩ := find_some hf
        have hr : R = ((x.f : Int), 0) := by rw [HR.out]; unfold fileEnd; rw [hf]; simp [hd, hx]
        subst hr
        clear HR
        have hd1 : (beginFs fs).dirs[i]? = some d := by rw [beginFs_dirs]; exact hd
        have hil := lt_of_get hd1
        obtain ⟨d', v, hd', hv, _, hc, _⟩ := h1.dir hil
        obtain rfl : d = d' := by rw [hd1] at hd'; injection hd'
        obtain ⟨g, cap, hvn, hcap, hcell⟩ := (h1.each i d v hd1 hv).1.at_ (k := k) (cs := x.cells) (by rw [List.getElem?_map, hx]; rfl)
        rw [hvn] at hc
        rw [List.length_map] at hc hcap
        have hkl := lt_of_get hx
        have hc2 : w1.cell? ⟨p, 2, none⟩ = some (.slice (some ⟨gd, 0, none⟩) (beginFs fs).dirs.length cd) := by rw [h1.top.cell]; rfl
        have hc5 : w1.cell? ⟨g, k * 2 + 1, none⟩ = some (.int .i64 x.f) := hcell 1 _ rfl
        have hi0 : (0 : Int) ≤ (i : Int) := by omega
        have hi1 : (i : Int) < ((beginFs fs).dirs.length : Int) := by omega
        have hk0 : (0 : Int) ≤ (k : Int) := by omega
        have hk1 : (k : Int) < (d.names.length : Int) := by omega
        have hfit := h1.dirs.fits
        clear hd hd' hd1 hf hx hcell hvn hv
        unfold findVal
        dsimp only
        go_wp2_with fail
        go_ret2
        exact ⟨rfl, h1, hg⟩
  · have hr : R = (-1, B2) := by rw [← HR.out, if_pos hb2]
    subst hr
    clear HR
    go_wp2_with fail
    go_ret2
    exact ⟨rfl, h1, hg⟩

/-- Which directory, and the error. -/
def dirEnd (fs : Fs) (path : ByteArray) : Int × Int := if dirAt fs path < 0 then (-1, 50) else (dirAt fs path, 0)
def dirRes (fs : Fs) (path : ByteArray) : Int × Int :=
  if (beginRes fs path.data.toList true).2 ≠ 0 then (-1, (beginRes fs path.data.toList true).2) else if (findIn path fs.dirs).isSome then (-1, 53) else dirEnd fs path
set_option maxHeartbeats 4000000 in
theorem rdirectory_any (p gd cd : Nat) (fs : Fs) (vf : Value) (dv : List Dv) (path : ByteArray) (w : World) (h : Sees w p fs vf gd cd dv) (hs : path.size ≤ 4294967296) :
    Calls Tryz.prog 66 #[.pointer (some ⟨p, 0, none⟩), .string path] w fun e w' => e = .returned (intsVal (dirRes fs path)) ∧ Sees w' p (beginFs fs) vf gd cd dv ∧ w.grownBy w' (some p) := by
  obtain ⟨R, hR⟩ : ∃ R, dirRes fs path = R := ⟨_, rfl⟩
  obtain ⟨⟨B1, B2⟩, hB⟩ : ∃ B, beginRes fs path.data.toList true = B := ⟨_, rfl⟩
  rw [hR]
  unfold dirRes at hR
  rw [hB] at hR
  have HR := Lib.hid hR
  clear hR
  go_enter Tryz.func66, Tryz.ntmps66
  go_wp2_with fail
  refine (rbegin_any p gd cd fs vf dv path true w h hs).mono ?_
  rintro e w1 ⟨rfl, h1, hg⟩
  rw [hB]
  unfold pairVal
  dsimp only
  by_cases hb2 : B2 = 0
  · subst hb2
    have hr1 : R = if (findIn path fs.dirs).isSome then (-1, 53) else dirEnd fs path := by
      rw [← HR.out, if_neg (by simp)]
    clear HR
    have HR := Lib.hid hr1; clear hr1
    go_wp2_with fail
    refine (rfind_any p gd cd (beginFs fs) vf dv path w1 h1).mono ?_
    rintro e w3 ⟨rfl, rfl⟩
    rw [beginFs_dirs]
    cases hf : findIn path fs.dirs with
    | some y =>
      have hr : R = (-1, 53) := by rw [HR.out, hf]; rfl
      subst hr
      clear HR
      obtain ⟨i, k⟩ := y
      have hi0 : (0 : Int) ≤ (i : Int) := by omega
      unfold findVal
      dsimp only
      go_wp2_with fail
      go_ret2
      exact ⟨rfl, h1, hg⟩
    | none =>
      have hr : R = dirEnd fs path := by rw [HR.out, hf]; rfl
      clear HR
      have HR := Lib.hid hr; clear hr
      unfold findVal
      dsimp only
      go_wp2_with fail
      refine (rdir_any p gd cd (beginFs fs) vf dv path w1 h1).mono ?_
      rintro e w2 ⟨rfl, rfl⟩
      rw [dirAt_begin]
      obtain ⟨D, hD⟩ : ∃ D, dirAt fs path = D := ⟨_, rfl⟩
      have hr : R = if D < 0 then (-1, 50) else (D, 0) := by rw [HR.out]; unfold dirEnd; rw [hD]
      clear HR
      have HD := Lib.hid hD
      rw [hD]
      clear hD
      by_cases hd0 : D < 0
      · rw [if_pos hd0] at hr
        subst hr
        go_wp2_with fail
        go_ret2
        exact ⟨rfl, h1, hg⟩
      · rw [if_neg hd0] at hr
        subst hr
        go_wp2_with fail
        refine (rdir_any p gd cd (beginFs fs) vf dv path w1 h1).mono ?_
        rintro e w2 ⟨rfl, rfl⟩
        rw [dirAt_begin, HD.out]
        go_wp2_with fail
        go_ret2
        exact ⟨rfl, h1, hg⟩
  · have hr : R = (-1, B2) := by rw [← HR.out, if_pos hb2]
    subst hr
    clear HR
    go_wp2_with fail
    go_ret2
    exact ⟨rfl, h1, hg⟩
end Go.Proofs.YtdbcjiapbehacaaGreatDoor.Vf

/-! What (*clepsydraref05.FS).Remove answers and turns. -/
namespace Go.Proofs.YtdbcjiapbehacaaGreatDoor.Vf
open Go.RowKit

/-- The file system's own cells have turned alone. -/
theorem Owns.turn {w w' : World} {p gd cd : Nat} {fs fs' : Fs} {vf : Value} {dv : List Dv} (h : Owns w p fs vf gd cd dv) (hs : Sees w' p fs' vf gd cd dv) (hg : w.grownBy w' (some p)) (hd : fs'.dirs = fs.dirs) (hf : fs'.files = fs.files) : Owns w' p fs' vf gd cd dv := by
  have ht := h.sees.top
  unfold Hold at ht
  have hk : ∀ (t : TypeId) (v : Value) (s : Nat) (xs : List (List Value)), t ≠ 66 → OwnR w 0 t s v xs → OwnR w' 0 t s v xs := fun t v s xs hne ho => ho.kept hg (by
    cases hv : v.ownBlock with
    | none => exact .inl rfl
    | some k =>
      right
      intro e; injection e with e; subst e
      obtain ⟨cur, hc⟩ := ho.kind hv
      exact kind_ne hc ht hne rfl)
  refine ⟨hs, by rw [hf]; exact hk _ _ _ _ (by decide) h.files, by rw [hd]; exact hk _ _ _ _ (by decide) h.dirs, fun i d v hdd hv => ?_, h.apart⟩
  rw [hd] at hdd
  exact hk _ _ _ _ (by decide) (h.waits i d v hdd hv)

def removeRes (fs : Fs) (path : ByteArray) : Int := (fileRes fs path).2
def removeFs (fs : Fs) (path : ByteArray) : Fs :=
  if (fileRes fs path).2 ≠ 0 then beginFs fs else match findIn path fs.dirs with
  | none => beginFs fs
  | some (i, _) => { beginFs fs with dirs := fs.dirs.modify i fun d => stepD d ⟨path, -1, ⟨#[]⟩⟩ }
theorem begin_err (fs : Fs) (path : List UInt8) (root : Bool) : (beginRes fs path root).2 = 0 ∨ 0 < (beginRes fs path root).2 := by
  unfold beginRes
  split
  · right; decide
  · split
    · right; decide
    · split
      · right; decide
      · split
        · right; decide
        · left; rfl
theorem file_ok {fs : Fs} {path : ByteArray} (h : (fileRes fs path).2 = 0) : ∃ i k, findIn path fs.dirs = some (i, k) := by
  unfold fileRes at h
  split at h
  · rename_i h1; exact absurd h h1
  · split at h
    · cases h
    · unfold fileEnd at h
      cases hf : findIn path fs.dirs with
      | none => rw [hf] at h; cases h
      | some y => exact ⟨y.1, y.2, rfl⟩
theorem mod_set {α : Type} {f : α → α} : ∀ {l : List α} {i : Nat} {a : α}, l[i]? = some a → l.modify i f = l.set i (f a)
  | [], _, _, h => by simp at h
  | b :: l, 0, a, h => by simp at h; subst h; rfl
  | b :: l, i + 1, a, h => by
    rw [List.modify_succ_cons, List.set_cons_succ, mod_set (by simpa using h)]
/-- Short enough to be gone through. -/
def Short (fs : Fs) : Prop := ∀ d ∈ fs.dirs, d.names.length ≤ 1000000 ∧ d.waits.length ≤ 1000000

set_option maxHeartbeats 4000000 in
theorem remove_any (p gd cd : Nat) (fs : Fs) (vf : Value) (dv : List Dv) (path : ByteArray) (w : World) (h : Owns w p fs vf gd cd dv) (hs : path.size ≤ 4294967296) (hsh : Short fs) :
    Calls Tryz.prog 35 #[.pointer (some ⟨p, 0, none⟩), .string path] w fun e w' => e = .returned (.int .i64 (removeRes fs path)) ∧ ∃ dv', Owns w' p (removeFs fs path) vf gd cd dv' ∧ Moves w w' (Foot p gd vf dv) (Foot p gd vf dv') := by
  obtain ⟨⟨B1, B2⟩, hB⟩ : ∃ B, fileRes fs path = B := ⟨_, rfl⟩
  have hR : removeRes fs path = B2 := by unfold removeRes; rw [hB]
  rw [hR]
  go_enter Tryz.func35, Tryz.ntmps35
  go_wp2_with fail
  refine (rfile_any p gd cd fs vf dv path w h.sees hs).mono ?_
  rintro e w1 ⟨rfl, h1, hg⟩
  have ho1 := h.turn h1 hg (beginFs_dirs fs) (beginFs_files fs)
  rw [hB]
  unfold intsVal
  dsimp only
  by_cases hb2 : B2 = 0
  · subst hb2
    obtain ⟨i, k, hf⟩ := file_ok (fs := fs) (path := path) (by rw [hB])
    obtain ⟨d, x, hd, hx⟩ := find_some hf
    have hfs : removeFs fs path = { beginFs fs with dirs := (beginFs fs).dirs.set i (stepD d ⟨path, -1, ⟨#[]⟩⟩) } := by
      unfold removeFs
      rw [if_neg (by rw [hB]; simp), hf, beginFs_dirs]
      dsimp only
      rw [mod_set hd]
    have HFS := Lib.hid hfs
    clear hfs
    go_wp2_with fail
    refine (rfind_any p gd cd (beginFs fs) vf dv path w1 h1).mono ?_
    rintro e w3 ⟨rfl, rfl⟩
    rw [beginFs_dirs, hf]
    unfold findVal
    dsimp only
    have hshd := hsh d (List.mem_of_getElem? hd)
    have HD : Hid ((beginFs fs).dirs[i]? = some d) := Lib.hid (by rw [beginFs_dirs]; exact hd)
    clear hf hx hd
    go_wp2_with fail
    refine (step_any p gd cd (beginFs fs) vf dv i d ⟨path, -1, ⟨#[]⟩⟩ w1 ho1 HD.out hshd.1 hshd.2).mono ?_
    rintro e w4 ⟨⟨r, rfl⟩, dv', ho4, hm⟩
    go_wp2_with fail
    go_ret
    exact ⟨rfl, dv', by rw [HFS.out]; exact ho4, (Moves.of_gb hg).trans hm⟩
  · have hfs : removeFs fs path = beginFs fs := by unfold removeFs; rw [if_pos (by rw [hB]; exact hb2)]
    have HFS := Lib.hid hfs
    clear hfs
    go_wp2_with fail
    go_ret
    exact ⟨rfl, dv, by rw [HFS.out]; exact ho1, Moves.of_gb hg⟩
end Go.Proofs.YtdbcjiapbehacaaGreatDoor.Vf

/-! What (*clepsydraref05.FS).Rename answers and turns. -/
namespace Go.Proofs.YtdbcjiapbehacaaGreatDoor.Vf
open Go.RowKit

def pathUp (s : List UInt8) : List UInt8 := (pathOf s).getD []
/-- The error behind the beginning. -/
def renameEnd (fs : Fs) (src to : ByteArray) (up : List UInt8) : Int :=
  if pathUp to.data.toList = [] then 2 else if 0 ≤ dirAt fs src then 53 else if 0 ≤ dirAt fs to then 53 else match findIn src fs.dirs with
  | none => 50
  | some _ => if up = pathUp to.data.toList then 0 else 2
def renameRes (fs : Fs) (src to : ByteArray) : Int :=
  if (beginRes fs src.data.toList false).2 ≠ 0 then (beginRes fs src.data.toList false).2 else renameEnd fs src to (beginRes fs src.data.toList false).1
def renameFs (fs : Fs) (src to : ByteArray) : Fs :=
  if renameRes fs src to ≠ 0 then beginFs fs else if src.data.toList = to.data.toList then beginFs fs else match findIn src fs.dirs with
  | none => beginFs fs
  | some (i, k) => { beginFs fs with dirs := fs.dirs.modify i fun d => stepD d ⟨to, (((d.names[k]?).map fun x => (x.f : Int)).getD 0), src⟩ }
end Go.Proofs.YtdbcjiapbehacaaGreatDoor.Vf

/-! What (*clepsydraref05.FS).Rename answers and turns: its walk. -/
namespace Go.Proofs.YtdbcjiapbehacaaGreatDoor.Vf
open Go.RowKit

theorem rename_err {fs : Fs} {src to : ByteArray} {r : Int} (h : renameRes fs src to = r) (hr : r ≠ 0) : renameFs fs src to = beginFs fs := by
  unfold renameFs; rw [if_pos (by rw [h]; exact hr)]
set_option maxRecDepth 100000 in
set_option maxHeartbeats 8000000 in
theorem rename_any (p gd cd : Nat) (fs : Fs) (vf : Value) (dv : List Dv) (src to : ByteArray) (w : World) (h : Owns w p fs vf gd cd dv) (hs : src.size ≤ 4294967296) (ht : to.size ≤ 4294967296) (hsh : Short fs) :
    Calls Tryz.prog 34 #[.pointer (some ⟨p, 0, none⟩), .string src, .string to] w fun e w' => e = .returned (.int .i64 (renameRes fs src to)) ∧ ∃ dv', Owns w' p (renameFs fs src to) vf gd cd dv' ∧ Moves w w' (Foot p gd vf dv) (Foot p gd vf dv') := by
  obtain ⟨⟨B1, B2⟩, hB⟩ : ∃ B, beginRes fs src.data.toList false = B := ⟨_, rfl⟩
  obtain ⟨R, hR⟩ : ∃ R, renameRes fs src to = R := ⟨_, rfl⟩
  have hbad : R ≠ 0 → renameFs fs src to = beginFs fs := rename_err hR
  rw [hR]
  have hR2 := hR
  unfold renameRes at hR2
  rw [hB] at hR2
  have HR := Lib.hid hR2; have HBAD := Lib.hid hbad; have HRR := Lib.hid hR
  clear hR2 hR hbad
  go_enter Tryz.func34, Tryz.ntmps34
  go_wp2_with fail
  refine (rbegin_any p gd cd fs vf dv src false w h.sees hs).mono ?_
  rintro e w1 ⟨rfl, h1, hg⟩
  have ho1 := h.turn h1 hg (beginFs_dirs fs) (beginFs_files fs)
  rw [hB]
  unfold pairVal
  dsimp only
  by_cases hb2 : B2 = 0
  · subst hb2
    have hr1 : R = renameEnd fs src to B1 := by rw [← HR.out, if_neg (by simp)]
    unfold renameEnd at hr1
    clear HR
    have HR := Lib.hid hr1; clear hr1
    go_wp2_with fail
    refine (rpath_any to w1 ht).mono ?_
    rintro e w2 ⟨rfl, rfl⟩
    cases hp : pathOf to.data.toList with
    | none =>
      have hr : R = 2 := by rw [HR.out, if_pos (by unfold pathUp; rw [hp]; rfl)]
      have hfs := HBAD.out (by rw [hr]; decide)
      have HFS := Lib.hid hfs
      subst hr
      clear HR HBAD hfs
      unfold pathVal
      dsimp only
      go_wp2_with fail
      go_ret
      exact ⟨rfl, dv, by rw [HFS.out]; exact ho1, Moves.of_gb hg⟩
    | some up =>
      have hpu : pathUp to.data.toList = up := by unfold pathUp; rw [hp]; rfl
      rw [hpu] at HR
      unfold pathVal
      dsimp only
      cases hup : up with
      | nil =>
        have hr : R = 2 := by rw [HR.out, if_pos hup]
        have hfs := HBAD.out (by rw [hr]; decide)
        have HFS := Lib.hid hfs
        subst hr
        clear HR HBAD hfs
        go_wp2_with fail
        go_ret
        exact ⟨rfl, dv, by rw [HFS.out]; exact ho1, Moves.of_gb hg⟩
      | cons u0 ul =>
        have hne : ¬ up = [] := by rw [hup]; simp
        have hr1 := HR.out
        rw [if_neg hne] at hr1
        clear HR
        have HR := Lib.hid hr1
        clear hr1
        have hem : up.isEmpty = false := by rw [hup]; rfl
        rw [← hup]
        have HUP := Lib.hid hup
        clear hup
        go_wp2_with fail
        refine (rdir_any p gd cd (beginFs fs) vf dv src w1 h1).mono ?_
        rintro e w3 ⟨rfl, rfl⟩
        rw [dirAt_begin]
        obtain ⟨D1, hD1⟩ : ∃ D, dirAt fs src = D := ⟨_, rfl⟩
        rw [hD1] at HR ⊢
        clear hD1
        by_cases hd1 : 0 ≤ D1
        · have hr : R = 53 := by rw [HR.out, if_pos hd1]
          have hfs := HBAD.out (by rw [hr]; decide)
          have HFS := Lib.hid hfs
          subst hr
          clear HR HBAD hfs
          go_wp2_with fail
          go_ret
          exact ⟨rfl, dv, by rw [HFS.out]; exact ho1, Moves.of_gb hg⟩
        · have hr1 := HR.out
          rw [if_neg hd1] at hr1
          clear HR
          have HR := Lib.hid hr1
          clear hr1
          go_wp2_with fail
          refine (rdir_any p gd cd (beginFs fs) vf dv to w1 h1).mono ?_
          rintro e w4 ⟨rfl, rfl⟩
          rw [dirAt_begin]
          obtain ⟨D2, hD2⟩ : ∃ D, dirAt fs to = D := ⟨_, rfl⟩
          rw [hD2] at HR ⊢
          clear hD2
          by_cases hd2 : 0 ≤ D2
          · have hr : R = 53 := by rw [HR.out, if_pos hd2]
            have hfs := HBAD.out (by rw [hr]; decide)
            have HFS := Lib.hid hfs
            subst hr
            clear HR HBAD hfs
            go_wp2_with fail
            go_ret
            exact ⟨rfl, dv, by rw [HFS.out]; exact ho1, Moves.of_gb hg⟩
          · have hr1 := HR.out
            rw [if_neg hd2] at hr1
            clear HR
            have HR := Lib.hid hr1
            clear hr1
            go_wp2_with fail
            refine (rfind_any p gd cd (beginFs fs) vf dv src w1 h1).mono ?_
            rintro e w5 ⟨rfl, rfl⟩
            rw [beginFs_dirs]
            cases hf : findIn src fs.dirs with
            | none =>
              have hr : R = 50 := by rw [HR.out, hf]
              have hfs := HBAD.out (by rw [hr]; decide)
              have HFS := Lib.hid hfs
              subst hr
              clear HR HBAD hfs
              unfold findVal
              dsimp only
              go_wp2_with fail
              go_ret
              exact ⟨rfl, dv, by rw [HFS.out]; exact ho1, Moves.of_gb hg⟩
            | some y =>
              obtain ⟨i, k⟩ := y
              have hr1 : R = if B1 = up then 0 else 2 := by rw [HR.out, hf]
              clear HR
              have hi0 : (0 : Int) ≤ (i : Int) := by omega
              unfold findVal
              dsimp only
              by_cases hbu : B1 = up
              · rw [if_pos hbu] at hr1
                have hq1 : (B1 == up) = true := by rw [hbu]; simp
                cases hst : (src.toList == to.toList)
                case true =>
                  have hst2 : src.data.toList = to.data.toList := by rw [← Lib.toList_data, ← Lib.toList_data]; simpa using hst
                  have hfs : renameFs fs src to = beginFs fs := by
                    unfold renameFs
                    rw [HRR.out, hr1, if_neg (by simp), if_pos hst2]
                  have HFS := Lib.hid hfs
                  subst hr1
                  clear HBAD hfs hst2 HRR hbu
                  go_wp2_with fail
                  go_ret
                  exact ⟨rfl, dv, by rw [HFS.out]; exact ho1, Moves.of_gb hg⟩
                case false =>
                  have hst2 : ¬ src.data.toList = to.data.toList := by rw [← Lib.toList_data, ← Lib.toList_data]; simpa using hst
                  obtain ⟨d, x, hd, hx⟩ := find_some hf
                  have hfs : renameFs fs src to = { beginFs fs with dirs := (beginFs fs).dirs.set i (stepD d ⟨to, (x.f : Int), src⟩) } := by
                    unfold renameFs
                    rw [HRR.out, hr1, if_neg (by simp), if_neg hst2, hf, beginFs_dirs]
                    dsimp only
                    rw [mod_set hd, hx]; rfl
                  have HFS := Lib.hid hfs
                  have hshd := hsh d (List.mem_of_getElem? hd)
                  have hd1' : (beginFs fs).dirs[i]? = some d := by rw [beginFs_dirs]; exact hd
                  have hil := lt_of_get hd1'
                  obtain ⟨d', v, hd', hv, _, hc, _⟩ := h1.dir hil
                  obtain rfl : d = d' := by rw [hd1'] at hd'; injection hd'
                  obtain ⟨g, cap, hvn, hcap, hcell⟩ := (h1.each i d v hd1' hv).1.at_ (k := k) (cs := x.cells) (by rw [List.getElem?_map, hx]; rfl)
                  rw [hvn] at hc
                  rw [List.length_map] at hc hcap
                  have hkl := lt_of_get hx
                  have hc2 : w1.cell? ⟨p, 2, none⟩ = some (.slice (some ⟨gd, 0, none⟩) (beginFs fs).dirs.length cd) := by rw [h1.top.cell]; rfl
                  have hc5 : w1.cell? ⟨g, k * 2 + 1, none⟩ = some (.int .i64 x.f) := hcell 1 _ rfl
                  have hi1 : (i : Int) < ((beginFs fs).dirs.length : Int) := by omega
                  have hk0 : (0 : Int) ≤ (k : Int) := by omega
                  have hk1 : (k : Int) < (d.names.length : Int) := by omega
                  have hfit := h1.dirs.fits
                  have HD1 := Lib.hid hd1'
                  have HST : Hid (Calls Tryz.prog 64 #[.pointer (some ⟨p, 0, none⟩), .int .i64 i, .agg #[.string to, .int .i64 x.f, .string src]] w1 fun e w' => (∃ r, e = .returned r) ∧ ∃ dv', Owns w' p { beginFs fs with dirs := (beginFs fs).dirs.set i (stepD d ⟨to, (x.f : Int), src⟩) } vf gd cd dv' ∧ Moves w1 w' (Foot p gd vf dv) (Foot p gd vf dv')) := Lib.hid (step_any p gd cd (beginFs fs) vf dv i d ⟨to, (x.f : Int), src⟩ w1 ho1 hd1' hshd.1 hshd.2)
                  subst hr1
                  clear hd hd' hd1' hf hx hcell hvn hv HBAD hfs hst2 HRR hbu
                  go_wp2_with (first
                    | (go_at_call 64; refine HST.out.mono ?_; rintro e w6 ⟨⟨r, rfl⟩, dv', ho4, hm⟩; have HO4 := Lib.hid ho4; have HM := Lib.hid hm; clear ho4 hm)
                    | fail)
                  go_ret
                  exact ⟨rfl, dv', by rw [HFS.out]; exact HO4.out, (Moves.of_gb hg).trans HM.out⟩
              · rw [if_neg hbu] at hr1
                have hq1 : (B1 == up) = false := by simpa using hbu
                have hfs := HBAD.out (by rw [hr1]; decide)
                have HFS := Lib.hid hfs
                subst hr1
                clear HBAD hfs hbu
                go_wp2_with fail
                go_ret
                exact ⟨rfl, dv, by rw [HFS.out]; exact ho1, Moves.of_gb hg⟩
  · have hr : R = B2 := by rw [← HR.out, if_pos hb2]
    have hfs := HBAD.out (by rw [hr]; exact hb2)
    have HFS := Lib.hid hfs
    subst hr
    clear HR HBAD hfs
    go_wp2_with fail
    go_ret
    exact ⟨rfl, dv, by rw [HFS.out]; exact ho1, Moves.of_gb hg⟩
end Go.Proofs.YtdbcjiapbehacaaGreatDoor.Vf
