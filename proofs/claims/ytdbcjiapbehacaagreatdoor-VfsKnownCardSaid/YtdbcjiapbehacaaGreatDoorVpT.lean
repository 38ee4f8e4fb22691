/-
  Layer 5: the pair's do: any call (written by gen_do4.py).
-/
import Derived.Test.YtdbcjiapbehacaaGreatDoorVpS
namespace Go.Proofs.YtdbcjiapbehacaaGreatDoor.Vp
open Go.RowKit Go.Maps
open Go.Proofs.YtdbcjiapbehacaaGreatDoor.Vf (Fs FineD)

/-- What do answers. -/
def doRes (s : Pf) (fs : Fs) (o : Op) : Bool := match (o.kind % 11).toNat with
  | 0 => decide (mkdirRes s o.a = Vf.mkdirRes fs o.a)
  | 1 => decide (writeRes s o.a o.b = Vf.writeRes fs o.a o.b)
  | 2 => decide ((findRes s o.a).2 = (Vf.fileRes fs o.a).2)
  | 3 => decide (findDirRes s o.a = (Vf.dirRes fs o.a).2)
  | 4 => decide (renameRes s o.a o.b = Vf.renameRes fs o.a o.b)
  | 5 => decide ((findRes s o.a).2 = Vf.removeRes fs o.a)
  | 6 => decide ((findRes s o.a).2 = (Vf.readRes fs o.a).2) && ((readX s o.a).toList == (Vf.readRes fs o.a).1.toList)
  | 7 => decide (findDirRes s o.a = (Vf.listRes fs o.a).2) && sameL (listX s o.a) (Vf.listRes fs o.a).1
  | _ => true
theorem room_do (s : Pf) (o : Op) : (doS s o).room = s.room := by
  have hc : ∀ (s : Pf) (d : ByteArray) (x : Stp), (changeS s d x).room = s.room := fun _ _ _ => rfl
  have hr : (rebootS s o.n).room = s.room := by
    unfold rebootS lateS
    show (List.foldl stepF (cloneS (midS s o.n).1, (midS s o.n).2) _).1.room = _
    rw [(late_frame _ _).2.2.2.2]
    have key : ∀ (ds : List ByteArray) (x : Pf × Nat), (ds.foldl stepD x).1.room = x.1.room := by
      intro ds
      induction ds with
      | nil => intro x; rfl
      | cons d ds ih => intro x; rw [List.foldl_cons, ih]; rfl
    exact key (dirB s) (s, cntOf o.n)
  unfold doS
  split
  · unfold mkdirS; split
    · exact tick_room s
    · exact tick_room s
  · unfold writeS
    repeat' split
    all_goals exact tick_room s
  · unfold syncS; split
    all_goals exact tick_room s
  · unfold syncDirS; split
    all_goals exact tick_room s
  · unfold renameS; split
    all_goals exact tick_room s
  · unfold removeS; split
    all_goals exact tick_room s
  · exact tick_room s
  · exact tick_room s
  · rfl
  · exact hr
  · rfl
theorem begin_most (fs : Fs) : (Vf.beginFs fs).most = fs.most := by unfold Vf.beginFs; split <;> (try split) <;> rfl
theorem most_do (fs : Fs) (o : Op) : (doG fs o).most = fs.most := by
  unfold doG
  split
  · unfold Vf.mkdirFs; split <;> exact begin_most fs
  · unfold Vf.writeFs
    repeat' split
    all_goals exact begin_most fs
  · unfold Vf.syncFs
    repeat' split
    all_goals exact begin_most fs
  · unfold Vf.syncDirFs; split <;> exact begin_most fs
  · unfold Vf.renameFs
    repeat' split
    all_goals exact begin_most fs
  · unfold Vf.removeFs
    repeat' split
    all_goals exact begin_most fs
  · exact begin_most fs
  · exact begin_most fs
  · rfl
  · rfl
  · rfl
section
variable {w W : World} {P p pr : Nat} {s : Pf} {l : Loc} {fs : Fs}
/-- What a call of a script leaves. -/
structure Did (w : World) (P : Nat) (s : Pf) (fs : Fs) (T t : Nat) (W W' : World) : Prop where
  duo : ∃ p l pr, Duo w P p s l pr fs W'
  stay : Stay W W'
  fine : Fine s T
  fineD : FineD fs t
theorem do_any {T t : Nat} (o : Op) (hok : o.Ok) (ha : okS o.a) (hb : okS o.b) (h : Duo w P p s l pr fs W) (hf : Fine s T) (hT : T ≤ 90000) (hfd : FineD fs t) (ht : t ≤ 200) (hr : 0 ≤ s.room) (hm : -9223372036854775808 ≤ fs.most ∧ fs.most ≤ 9223372036854775807) :
    Calls Tryz.prog 13 #[.pointer (some ⟨P, 0, none⟩), opV o] W fun e W' => e = .returned (.bool (doRes s fs o)) ∧ Did w P (doS s o) (doG fs o) (T + 2) (t + 2) W W' := by
  have ha4 : o.a.size ≤ 4294967296 := by unfold okS at ha; omega
  have hb4 : o.b.size ≤ 4294967296 := by unfold okS at hb; omega
  have hkt : o.kind.tmod 11 = o.kind % 11 := Int.tmod_eq_emod_of_nonneg hok.kind.1
  have hlt : o.kind % 11 < 11 := Int.emod_lt_of_pos _ (by decide)
  have hge : 0 ≤ o.kind % 11 := Int.emod_nonneg _ (by decide)
  obtain ⟨n, hn⟩ : ∃ n : Nat, o.kind % 11 = (n : Int) := ⟨(o.kind % 11).toNat, (Int.toNat_of_nonneg hge).symm⟩
  have hn11 : n < 11 := by omega
  have hnt : (o.kind % 11).toNat = n := by omega
  rw [hn] at hkt
  clear hlt hge hn
  match n, hn11 with
  | 0, _ =>
    have hk : o.kind.tmod 11 = 0 := hkt
    rw [show doRes s fs o = (decide (mkdirRes s o.a = Vf.mkdirRes fs o.a)) from by unfold doRes; rw [hnt]; rfl, show doS s o = mkdirS s o.a from by unfold doS; rw [hnt]; rfl, show doG fs o = Vf.mkdirFs fs o.a from by unfold doG; rw [hnt]; rfl]
    refine (do_mkdir o hk ha h hf hfd ht).mono ?_
    rintro e W' ⟨he, ⟨l', hd⟩, hst⟩
    exact ⟨he, ⟨⟨_, l', _, hd⟩, hst, hf.mkdir.mono (by omega), (hfd.mkdir o.a).mono (by omega)⟩⟩
  | 1, _ =>
    have hk : o.kind.tmod 11 = 1 := hkt
    rw [show doRes s fs o = (decide (writeRes s o.a o.b = Vf.writeRes fs o.a o.b)) from by unfold doRes; rw [hnt]; rfl, show doS s o = writeS s o.a o.b from by unfold doS; rw [hnt]; rfl, show doG fs o = Vf.writeFs fs o.a o.b from by unfold doG; rw [hnt]; rfl]
    refine (do_write o hk ha hb h hf (by omega) hfd ht hm).mono ?_
    rintro e W' ⟨he, ⟨l', hd⟩, hst⟩
    exact ⟨he, ⟨⟨_, l', _, hd⟩, hst, hf.write ha, hfd.write ha4⟩⟩
  | 2, _ =>
    have hk : o.kind.tmod 11 = 2 := hkt
    rw [show doRes s fs o = (decide ((findRes s o.a).2 = (Vf.fileRes fs o.a).2)) from by unfold doRes; rw [hnt]; rfl, show doS s o = syncS s o.a from by unfold doS; rw [hnt]; rfl, show doG fs o = Vf.syncFs fs o.a from by unfold doG; rw [hnt]; rfl]
    refine (do_sync o hk ha h hf hfd ht).mono ?_
    rintro e W' ⟨he, ⟨l', hd⟩, hst⟩
    exact ⟨he, ⟨⟨_, l', _, hd⟩, hst, (hf.sync o.a).mono (by omega), (hfd.sync o.a).mono (by omega)⟩⟩
  | 3, _ =>
    have hk : o.kind.tmod 11 = 3 := hkt
    rw [show doRes s fs o = (decide (findDirRes s o.a = (Vf.dirRes fs o.a).2)) from by unfold doRes; rw [hnt]; rfl, show doS s o = syncDirS s o.a from by unfold doS; rw [hnt]; rfl, show doG fs o = Vf.syncDirFs fs o.a from by unfold doG; rw [hnt]; rfl]
    refine (do_syncDir o hk ha h hf (by omega) hfd ht).mono ?_
    rintro e W' ⟨he, ⟨l', hd⟩, hst⟩
    exact ⟨he, ⟨⟨_, l', _, hd⟩, hst, hf.syncDir.mono (by omega), (hfd.syncDir o.a).mono (by omega)⟩⟩
  | 4, _ =>
    have hk : o.kind.tmod 11 = 4 := hkt
    rw [show doRes s fs o = (decide (renameRes s o.a o.b = Vf.renameRes fs o.a o.b)) from by unfold doRes; rw [hnt]; rfl, show doS s o = renameS s o.a o.b from by unfold doS; rw [hnt]; rfl, show doG fs o = Vf.renameFs fs o.a o.b from by unfold doG; rw [hnt]; rfl]
    refine (do_rename o hk ha hb h hf (by omega) hfd ht).mono ?_
    rintro e W' ⟨he, ⟨l', hd⟩, hst⟩
    exact ⟨he, ⟨⟨_, l', _, hd⟩, hst, (hf.rename ha hb).mono (by omega), (hfd.rename ha4 hb4).mono (by omega)⟩⟩
  | 5, _ =>
    have hk : o.kind.tmod 11 = 5 := hkt
    rw [show doRes s fs o = (decide ((findRes s o.a).2 = Vf.removeRes fs o.a)) from by unfold doRes; rw [hnt]; rfl, show doS s o = removeS s o.a from by unfold doS; rw [hnt]; rfl, show doG fs o = Vf.removeFs fs o.a from by unfold doG; rw [hnt]; rfl]
    refine (do_remove o hk ha h hf (by omega) hfd ht).mono ?_
    rintro e W' ⟨he, ⟨l', hd⟩, hst⟩
    exact ⟨he, ⟨⟨_, l', _, hd⟩, hst, (hf.remove ha).mono (by omega), (hfd.remove o.a).mono (by omega)⟩⟩
  | 6, _ =>
    have hk : o.kind.tmod 11 = 6 := hkt
    rw [show doRes s fs o = (decide ((findRes s o.a).2 = (Vf.readRes fs o.a).2) && ((readX s o.a).toList == (Vf.readRes fs o.a).1.toList)) from by unfold doRes; rw [hnt]; rfl, show doS s o = tickS s from by unfold doS; rw [hnt]; rfl, show doG fs o = Vf.beginFs fs from by unfold doG; rw [hnt]; rfl]
    refine (do_read o hk ha h hf hfd ht).mono ?_
    rintro e W' ⟨he, ⟨l', hd⟩, hst⟩
    exact ⟨he, ⟨⟨_, l', _, hd⟩, hst, hf.tick.mono (by omega), hfd.tick.mono (by omega)⟩⟩
  | 7, _ =>
    have hk : o.kind.tmod 11 = 7 := hkt
    rw [show doRes s fs o = (decide (findDirRes s o.a = (Vf.listRes fs o.a).2) && sameL (listX s o.a) (Vf.listRes fs o.a).1) from by unfold doRes; rw [hnt]; rfl, show doS s o = tickS s from by unfold doS; rw [hnt]; rfl, show doG fs o = Vf.beginFs fs from by unfold doG; rw [hnt]; rfl]
    refine (do_list o hk ha h hf (by omega) hfd ht).mono ?_
    rintro e W' ⟨he, ⟨l', hd⟩, hst⟩
    exact ⟨he, ⟨⟨_, l', _, hd⟩, hst, hf.tick.mono (by omega), hfd.tick.mono (by omega)⟩⟩
  | 8, _ =>
    have hk : o.kind.tmod 11 = 8 := hkt
    rw [show doRes s fs o = (true) from by unfold doRes; rw [hnt]; rfl, show doS s o = { s with left := max o.n 0 } from by unfold doS; rw [hnt]; rfl, show doG fs o = { fs with crash := max o.n 0 } from by unfold doG; rw [hnt]; rfl]
    refine (do_crash o hk hok.n h).mono ?_
    rintro e W' ⟨he, ⟨l', hd⟩, hst⟩
    exact ⟨he, ⟨⟨_, l', _, hd⟩, hst, (hf.crash o.n hok.n.2).mono (by omega), hfd.mono (by omega)⟩⟩
  | 9, _ =>
    have hk : o.kind.tmod 11 = 9 := hkt
    rw [show doRes s fs o = (true) from by unfold doRes; rw [hnt]; rfl, show doS s o = rebootS s o.n from by unfold doS; rw [hnt]; rfl, show doG fs o = Vf.rebootFs fs o.n from by unfold doG; rw [hnt]; rfl]
    refine (do_reboot o hk h hf (by omega) hfd ht).mono ?_
    rintro e W' ⟨he, ⟨l', hd⟩, hst, hfi⟩
    exact ⟨he, ⟨⟨_, l', _, hd⟩, hst, hfi.mono (by omega), (hfd.reboot o.n).mono (by omega)⟩⟩
  | 10, _ =>
    have hk : o.kind.tmod 11 = 10 := hkt
    rw [show doRes s fs o = (true) from by unfold doRes; rw [hnt]; rfl, show doS s o = s from by unfold doS; rw [hnt]; rfl, show doG fs o = fs from by unfold doG; rw [hnt]; rfl]
    refine (do_copy o hk h hf hT hfd ht hr).mono ?_
    rintro e W' ⟨he, hd, hst⟩
    exact ⟨he, ⟨hd, hst, hf.mono (by omega), hfd.mono (by omega)⟩⟩
end
end Go.Proofs.YtdbcjiapbehacaaGreatDoor.Vp
