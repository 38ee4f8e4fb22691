/-
  Layer 5: each call of a script, on its side of the pair.
-/
import Derived.Test.YtdbcjiapbehacaaGreatDoorVpL
import Derived.Test.YtdbcjiapbehacaaGreatDoorVfsRenameWalk
namespace Go.Proofs.YtdbcjiapbehacaaGreatDoor.Vp
open Go.RowKit Go.Maps
open Go.Proofs.YtdbcjiapbehacaaGreatDoor.Vf (Hold OwnR Owns Fs FineD Moves Moves.refl Moves.trans)

theorem Stay.hold {W W' : World} {g : Nat} {t : TypeId} {cs : List Value} (h : Stay W W') (hH : Hold W g t cs) (ht : alien t = true) : Hold W' g t cs := (h g _ _ _ hH ht).trans hH
section
variable {w W : World} {P p pr : Nat} {s : Pf} {l : Loc} {fs : Fs}
/-- What a call leaves of the program's side. -/
def LeftF (w : World) (P p : Nat) (s' : Pf) (pr : Nat) (fs : Fs) (W W' : World) : Prop := (∃ l', Duo w P p s' l' pr fs W') ∧ Stay W W'
def LeftG (w : World) (P p : Nat) (s : Pf) (l : Loc) (pr : Nat) (fs' : Fs) (W W' : World) : Prop := Duo w P p s l pr fs' W' ∧ Stay W W'
theorem Duo.leftF {s' : Pf} {W' : World} (h : Duo w P p s l pr fs W) (ha : After W p s s' l W') : LeftF w P p s' pr fs W W' := ⟨h.onF ha, stayF h.one.f ha⟩
theorem mkdirF {T : Nat} (h : Duo w P p s l pr fs W) (hf : Fine s T) (path : ByteArray) (ho : okS path) :
    Calls Tryz.prog 23 #[.pointer (some ⟨p, 0, none⟩), .string path] W fun e W' => e = .returned (.int .i64 (mkdirRes s path)) ∧ LeftF w P p (mkdirS s path) pr fs W W' :=
  (mkdir_any p s l T path W h.one.f hf.fits ho).mono fun _ _ ⟨he, ha⟩ => ⟨he, h.leftF ha⟩
theorem writeF {T : Nat} (h : Duo w P p s l pr fs W) (hf : Fine s T) (hT : T ≤ 100000) (path b : ByteArray) (v : Value) (ho : okS path) (hv : BytesAt W v b) :
    Calls Tryz.prog 16 #[.pointer (some ⟨p, 0, none⟩), .string path, v] W fun e W' => e = .returned (.int .i64 (writeRes s path b)) ∧ LeftF w P p (writeS s path b) pr fs W W' :=
  (write_any p s l T path b v W h.one.f hf.fits hT ho hv).mono fun _ _ ⟨he, ha⟩ => ⟨he, h.leftF ha⟩
theorem syncF {T : Nat} (h : Duo w P p s l pr fs W) (hf : Fine s T) (path : ByteArray) (ho : okS path) :
    Calls Tryz.prog 17 #[.pointer (some ⟨p, 0, none⟩), .string path] W fun e W' => e = .returned (.int .i64 (findRes s path).2) ∧ LeftF w P p (syncS s path) pr fs W W' :=
  (sync_any p s l path W h.one.f hf.fits.left ho).mono fun _ _ ⟨he, ha⟩ => ⟨he, h.leftF ha⟩
theorem syncDirF {T : Nat} (h : Duo w P p s l pr fs W) (hf : Fine s T) (hT : T ≤ 100000) (path : ByteArray) (ho : okS path) :
    Calls Tryz.prog 18 #[.pointer (some ⟨p, 0, none⟩), .string path] W fun e W' => e = .returned (.int .i64 (findDirRes s path)) ∧ LeftF w P p (syncDirS s path) pr fs W W' :=
  (syncDir_any p s l path W h.one.f hf.fits.left ho (fun x hx => by
    obtain ⟨xs, h1, h2⟩ := mem_waitsOf hx
    exact hf.fits.strs _ h1 x h2) (by have := hf.fits.dur; have := waitsOf_le s path; omega) (by have := hf.fits.dirs; omega)).mono fun _ _ ⟨he, ha⟩ => ⟨he, h.leftF ha⟩
theorem renameF {T : Nat} (h : Duo w P p s l pr fs W) (hf : Fine s T) (hT : T ≤ 100000) (a b : ByteArray) (ha : okS a) (hb : okS b) :
    Calls Tryz.prog 21 #[.pointer (some ⟨p, 0, none⟩), .string a, .string b] W fun e W' => e = .returned (.int .i64 (renameRes s a b)) ∧ LeftF w P p (renameS s a b) pr fs W W' :=
  (rename_any p s l T a b W h.one.f hf.fits hT ha hb).mono fun _ _ ⟨he, ha⟩ => ⟨he, h.leftF ha⟩
theorem removeF {T : Nat} (h : Duo w P p s l pr fs W) (hf : Fine s T) (hT : T ≤ 100000) (path : ByteArray) (ho : okS path) :
    Calls Tryz.prog 27 #[.pointer (some ⟨p, 0, none⟩), .string path] W fun e W' => e = .returned (.int .i64 (findRes s path).2) ∧ LeftF w P p (removeS s path) pr fs W W' :=
  (remove_any p s l T path W h.one.f hf.fits hT ho).mono fun _ _ ⟨he, ha⟩ => ⟨he, h.leftF ha⟩
theorem readF {T : Nat} (h : Duo w P p s l pr fs W) (hf : Fine s T) (path : ByteArray) (ho : okS path) :
    Calls Tryz.prog 20 #[.pointer (some ⟨p, 0, none⟩), .string path] W fun e W' => (∃ v, e = .returned (.tuple #[v, .int .i64 (findRes s path).2]) ∧ (((findRes s path).2 ≠ 0 ∧ v = .slice none 0 0) ∨ ((findRes s path).2 = 0 ∧ NewB W' W.heap.size v (readB s path)))) ∧ LeftF w P p (tickS s) pr fs W W' :=
  (read_any p s l path W h.one.f hf.fits.left ho).mono fun _ _ ⟨he, hA, hg⟩ => ⟨he, h.leftF (read_after hA hg)⟩
theorem listF {T : Nat} (h : Duo w P p s l pr fs W) (hf : Fine s T) (hT : T ≤ 100000) (path : ByteArray) (ho : okS path) :
    Calls Tryz.prog 26 #[.pointer (some ⟨p, 0, none⟩), .string path] W fun e W' => (∃ v, e = .returned (.tuple #[v, .int .i64 (findDirRes s path)]) ∧ ((findDirRes s path ≠ 0 ∧ v = .slice none 0 0) ∨ (findDirRes s path = 0 ∧ OwnR W' W.heap.size 9 1 v ((listP s path).map fun x => [encStr x])))) ∧ LeftF w P p (tickS s) pr fs W W' :=
  (list_any p s l path W h.one.f hf.fits.left ho (by have := hf.fits.names; omega)).mono fun _ _ ⟨he, hA, hg⟩ => ⟨he, h.leftF (read_after hA hg)⟩
theorem crashF (h : Duo w P p s l pr fs W) (n : Int) :
    Calls Tryz.prog 15 #[.pointer (some ⟨p, 0, none⟩), .int .i64 n] W fun e W' => (∃ r, e = .returned r) ∧ LeftF w P p { s with left := max n 0 } pr fs W W' :=
  (crashAt_any p s l n W h.one.f).mono fun _ _ ⟨he, hA, hg⟩ => ⟨he, h.leftF (after_p hA hg)⟩
theorem rebootF {T : Nat} (h : Duo w P p s l pr fs W) (hf : Fine s T) (hT : T ≤ 100000) (n : Int) :
    Calls Tryz.prog 19 #[.pointer (some ⟨p, 0, none⟩), .int .i64 n] W fun e W' => (∃ r, e = .returned r) ∧ LeftF w P p (rebootS s n) pr fs W W' ∧ Fine (rebootS s n) T :=
  (reboot_any p s l T n W h.one.f hf.fits hT hf.canon).mono fun _ _ ⟨he, ha, h1, h2⟩ => ⟨he, h.leftF ha, h1, h2, wapart_reboot hf.apart n⟩

/-! The document's. -/
theorem Duo.leftG {fs' : Fs} {W' : World} {vf vf' : Value} {gd cd gd' cd' : Nat} {dv dv' : List Vf.Dv} (h : Duo w P p s l pr fs W) (hO : Owns W pr fs vf gd cd dv) (hn : ∀ b, Vf.Foot pr gd vf dv b → w.heap.size ≤ b) (hO' : Owns W' pr fs' vf' gd' cd' dv') (hm : Moves W W' (Vf.Foot pr gd vf dv) (Vf.Foot pr gd' vf' dv')) : LeftG w P p s l pr fs' W W' := by
  refine ⟨⟨h.box.keep (hm.stay P h.box.lt fun hg => box_not_doc h.box (foot_doc hO hg)), ⟨h.one.f.keep fun g hg => hm.stay g (h.one.f.lt hg) fun hf => foot_not_doc h.one.f hg (foot_doc hO hf), h.one.fn, below_moves h.one.below hm hn⟩, ⟨vf', gd', cd', dv', hO', fun b hb => ?_⟩, h.pn⟩, stayG hO hm⟩
  rcases hm.new b hb with e | e
  · exact hn b e
  · exact Nat.le_trans h.one.below.size e
theorem mkdirG {t : Nat} (h : Duo w P p s l pr fs W) (hf : FineD fs t) (ht : t ≤ 200) (path : ByteArray) (ho : okS path) :
    Calls Tryz.prog 30 #[.pointer (some ⟨pr, 0, none⟩), .string path] W fun e W' => e = .returned (.int .i64 (Vf.mkdirRes fs path)) ∧ LeftG w P p s l pr (Vf.mkdirFs fs path) W W' := by
  obtain ⟨vf, gd, cd, dv, hO, hn⟩ := h.doc
  exact (Vf.mkdir_any pr gd cd fs vf dv path W hO (by unfold okS at ho; omega) (by have := hf.nd; omega)).mono fun _ _ ⟨he, _, _, _, h1, hm⟩ => ⟨he, h.leftG hO hn h1 hm⟩
theorem writeG {t : Nat} (h : Duo w P p s l pr fs W) (hf : FineD fs t) (ht : t ≤ 200) (hm : -9223372036854775808 ≤ fs.most ∧ fs.most ≤ 9223372036854775807) (path b : ByteArray) (v : Value) (ho : okS path) (hb : okS b) (hv : Vf.Text W v b) :
    Calls Tryz.prog 31 #[.pointer (some ⟨pr, 0, none⟩), .string path, v] W fun e W' => e = .returned (.int .i64 (Vf.writeRes fs path b)) ∧ LeftG w P p s l pr (Vf.writeFs fs path b) W W' := by
  obtain ⟨vf, gd, cd, dv, hO, hn⟩ := h.doc
  exact (Vf.write_any pr gd cd fs vf dv path b v W hO (by unfold okS at ho; omega) (hf.rfit ht) (by unfold okS at hb; omega) hm hv).mono fun _ _ ⟨he, _, _, h1, hm⟩ => ⟨he, h.leftG hO hn h1 hm⟩
theorem syncG {t : Nat} (h : Duo w P p s l pr fs W) (hf : FineD fs t) (ht : t ≤ 200) (path : ByteArray) (ho : okS path) :
    Calls Tryz.prog 32 #[.pointer (some ⟨pr, 0, none⟩), .string path] W fun e W' => e = .returned (.int .i64 (Vf.fileRes fs path).2) ∧ LeftG w P p s l pr (Vf.syncFs fs path) W W' := by
  obtain ⟨vf, gd, cd, dv, hO, hn⟩ := h.doc
  exact (Vf.sync_any pr gd cd fs vf dv path W hO (by unfold okS at ho; omega) (hf.rfit ht).named (hf.rfit ht).files).mono fun _ _ ⟨he, h1, hm⟩ => ⟨he, h.leftG hO hn h1 hm⟩
theorem syncDirG {t : Nat} (h : Duo w P p s l pr fs W) (hf : FineD fs t) (ht : t ≤ 200) (path : ByteArray) (ho : okS path) :
    Calls Tryz.prog 33 #[.pointer (some ⟨pr, 0, none⟩), .string path] W fun e W' => e = .returned (.int .i64 (Vf.dirRes fs path).2) ∧ LeftG w P p s l pr (Vf.syncDirFs fs path) W W' := by
  obtain ⟨vf, gd, cd, dv, hO, hn⟩ := h.doc
  exact (Vf.syncDir_any pr gd cd fs vf dv path W hO (by unfold okS at ho; omega) (hf.rfit ht).short).mono fun _ _ ⟨he, _, h1, hm⟩ => ⟨he, h.leftG hO hn h1 hm⟩
theorem renameG {t : Nat} (h : Duo w P p s l pr fs W) (hf : FineD fs t) (ht : t ≤ 200) (a b : ByteArray) (ha : okS a) (hb : okS b) :
    Calls Tryz.prog 34 #[.pointer (some ⟨pr, 0, none⟩), .string a, .string b] W fun e W' => e = .returned (.int .i64 (Vf.renameRes fs a b)) ∧ LeftG w P p s l pr (Vf.renameFs fs a b) W W' := by
  obtain ⟨vf, gd, cd, dv, hO, hn⟩ := h.doc
  exact (Vf.rename_any pr gd cd fs vf dv a b W hO (by unfold okS at ha; omega) (by unfold okS at hb; omega) (hf.rfit ht).short).mono fun _ _ ⟨he, _, h1, hm⟩ => ⟨he, h.leftG hO hn h1 hm⟩
theorem removeG {t : Nat} (h : Duo w P p s l pr fs W) (hf : FineD fs t) (ht : t ≤ 200) (path : ByteArray) (ho : okS path) :
    Calls Tryz.prog 35 #[.pointer (some ⟨pr, 0, none⟩), .string path] W fun e W' => e = .returned (.int .i64 (Vf.removeRes fs path)) ∧ LeftG w P p s l pr (Vf.removeFs fs path) W W' := by
  obtain ⟨vf, gd, cd, dv, hO, hn⟩ := h.doc
  exact (Vf.remove_any pr gd cd fs vf dv path W hO (by unfold okS at ho; omega) (hf.rfit ht).short).mono fun _ _ ⟨he, _, h1, hm⟩ => ⟨he, h.leftG hO hn h1 hm⟩
theorem readG {t : Nat} (h : Duo w P p s l pr fs W) (hf : FineD fs t) (ht : t ≤ 200) (path : ByteArray) (ho : okS path) :
    Calls Tryz.prog 36 #[.pointer (some ⟨pr, 0, none⟩), .string path] W fun e W' => e = .returned (.tuple #[.string (Vf.readRes fs path).1, .int .i64 (Vf.readRes fs path).2]) ∧ LeftG w P p s l pr (Vf.beginFs fs) W W' := by
  obtain ⟨vf, gd, cd, dv, hO, hn⟩ := h.doc
  exact (Vf.read_any pr gd cd fs vf dv path W hO (by unfold okS at ho; omega) (hf.rfit ht).named (hf.rfit ht).files).mono fun _ _ ⟨he, h1, hm⟩ => ⟨he, h.leftG hO hn h1 hm⟩
theorem listG {t : Nat} (h : Duo w P p s l pr fs W) (hf : FineD fs t) (ht : t ≤ 200) (path : ByteArray) (ho : okS path) :
    Calls Tryz.prog 37 #[.pointer (some ⟨pr, 0, none⟩), .string path] W fun e W' => (∃ v, e = .returned (.tuple #[v, .int .i64 (Vf.listRes fs path).2]) ∧ Vf.Reads W' 9 1 v ((Vf.listRes fs path).1.map fun x => [.string x])) ∧ LeftG w P p s l pr (Vf.beginFs fs) W W' := by
  obtain ⟨vf, gd, cd, dv, hO, hn⟩ := h.doc
  exact (Vf.list_any pr gd cd fs vf dv path W hO (by unfold okS at ho; omega) (hf.rfit ht).short hf.cuts).mono fun _ _ ⟨v, he, hr, h1, hm⟩ => ⟨⟨v, he, hr⟩, h.leftG hO hn h1 hm⟩
theorem rebootG {t : Nat} (h : Duo w P p s l pr fs W) (hf : FineD fs t) (ht : t ≤ 200) (n : Int) :
    Calls Tryz.prog 39 #[.pointer (some ⟨pr, 0, none⟩), .int .i64 n] W fun e W' => (∃ r, e = .returned r) ∧ LeftG w P p s l pr (Vf.rebootFs fs n) W W' := by
  obtain ⟨vf, gd, cd, dv, hO, hn⟩ := h.doc
  exact (Vf.reboot_any pr gd cd fs vf dv n t W hO hf ht).mono fun _ _ ⟨he, _, h1, hm⟩ => ⟨he, h.leftG hO hn h1 hm⟩
end
end Go.Proofs.YtdbcjiapbehacaaGreatDoor.Vp
