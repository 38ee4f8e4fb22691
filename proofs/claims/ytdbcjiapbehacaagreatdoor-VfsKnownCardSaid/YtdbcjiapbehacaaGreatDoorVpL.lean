/-
  Layer 5: what a call of a script does to both sides, told plainly.
-/
import Derived.Test.YtdbcjiapbehacaaGreatDoorVpK
namespace Go.Proofs.YtdbcjiapbehacaaGreatDoor.Vp
open Go.RowKit Go.Maps
open Go.Proofs.YtdbcjiapbehacaaGreatDoor.Vf (Fs FineD)

/-- The program's side behind a call. -/
def doS (s : Pf) (o : Op) : Pf := match (o.kind % 11).toNat with
  | 0 => mkdirS s o.a
  | 1 => writeS s o.a o.b
  | 2 => syncS s o.a
  | 3 => syncDirS s o.a
  | 4 => renameS s o.a o.b
  | 5 => removeS s o.a
  | 6 => tickS s
  | 7 => tickS s
  | 8 => { s with left := max o.n 0 }
  | 9 => rebootS s o.n
  | _ => s
/-- The document's. -/
def doG (fs : Fs) (o : Op) : Fs := match (o.kind % 11).toNat with
  | 0 => Vf.mkdirFs fs o.a
  | 1 => Vf.writeFs fs o.a o.b
  | 2 => Vf.syncFs fs o.a
  | 3 => Vf.syncDirFs fs o.a
  | 4 => Vf.renameFs fs o.a o.b
  | 5 => Vf.removeFs fs o.a
  | 6 => Vf.beginFs fs
  | 7 => Vf.beginFs fs
  | 8 => { fs with crash := max o.n 0 }
  | 9 => Vf.rebootFs fs o.n
  | _ => fs
theorem wapart_mid : ∀ (ds : List ByteArray) (x : Pf × Nat), WApart x.1 → WApart (ds.foldl stepD x).1
  | [], _, h => h
  | d :: ds, x, h => wapart_mid ds (stepD x d) (store_apart h d [])
theorem wapart_reboot {s : Pf} (h : WApart s) (choice : Int) : WApart (rebootS s choice) := by
  unfold rebootS lateS
  show WApart _
  unfold WApart
  show List.Pairwise _ ((List.foldl stepF (cloneS (midS s choice).1, (midS s choice).2) _).1).waits
  rw [(late_frame _ _).2.2.1]
  exact wapart_mid (dirB s) (s, cntOf choice) h
theorem fine_do {s : Pf} {T : Nat} {o : Op} (h : Fine s T) (hr : ∀ n, Fits (rebootS s n) T ∧ CanonS (rebootS s n)) (hn : o.n ≤ 9223372036854775807) (ha : okS o.a) (hb : okS o.b) : Fine (doS s o) (T + 2) := by
  unfold doS
  split
  · exact h.mkdir.mono (by omega)
  · exact h.write ha
  · exact (h.sync o.a).mono (by omega)
  · exact h.syncDir.mono (by omega)
  · exact (h.rename ha hb).mono (by omega)
  · exact (h.remove ha).mono (by omega)
  · exact h.tick.mono (by omega)
  · exact h.tick.mono (by omega)
  · exact (h.crash o.n hn).mono (by omega)
  · exact ⟨(hr o.n).1.mono (by omega), (hr o.n).2, wapart_reboot h.apart o.n⟩
  · exact h.mono (by omega)
theorem inv_do {s : Pf} (h : Inv s) (o : Op) : Inv (doS s o) := by
  unfold doS
  split
  · exact h.mkdir o.a
  · exact h.write o.a o.b
  · exact h.sync o.a
  · exact h.syncDir o.a
  · exact h.rename o.a o.b
  · exact h.remove o.a
  · exact h.tick
  · exact h.tick
  · exact h.crash o.n
  · exact h.reboot o.n
  · exact h
theorem fineD_do {fs : Fs} {t : Nat} {o : Op} (h : FineD fs t) (ha : okS o.a) (hb : okS o.b) : FineD (doG fs o) (t + 2) := by
  unfold okS at ha hb
  unfold doG
  split
  · exact (h.mkdir o.a).mono (by omega)
  · exact h.write (by omega)
  · exact (h.sync o.a).mono (by omega)
  · exact (h.syncDir o.a).mono (by omega)
  · exact (h.rename (by omega) (by omega)).mono (by omega)
  · exact (h.remove o.a).mono (by omega)
  · exact h.tick.mono (by omega)
  · exact h.tick.mono (by omega)
  · exact h.mono (by omega)
  · exact (h.reboot o.n).mono (by omega)
  · exact h.mono (by omega)
end Go.Proofs.YtdbcjiapbehacaaGreatDoor.Vp
