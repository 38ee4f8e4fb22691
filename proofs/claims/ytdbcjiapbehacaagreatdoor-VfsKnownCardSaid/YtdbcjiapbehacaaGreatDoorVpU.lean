/-
  Layer 5: a new pair; what the laws of the pair begin with.
-/
import Derived.Test.YtdbcjiapbehacaaGreatDoorVpT
namespace Go.Proofs.YtdbcjiapbehacaaGreatDoor.Vp
open Go.RowKit Go.Maps
open Go.Proofs.YtdbcjiapbehacaaGreatDoor.Vf (Hold Owns Fs FineD bl_drewN)

theorem duo_new {w w1 w2 : World} {room most : Int} (hA : At w1 w.heap.size (newS room) (newL (w.heap.size + 1))) (hb1 : Below w.heap.size w w1) (hO : Owns w2 (w1.heap.size + 1) (Vf.newFs most) (.slice none 0 0) w1.heap.size 1 [Vf.nilDv]) (hb2 : Below w1.heap.size w1 w2) :
    Duo w w2.heap.size w.heap.size (newS room) (newL (w.heap.size + 1)) (w1.heap.size + 1) (Vf.newFs most) (w2.alloc (.cells #[.pointer (some ⟨w.heap.size, 0, none⟩), .pointer (some ⟨w1.heap.size + 1, 0, none⟩)] 30)) := by
  have hb3 : Below w2.heap.size w2 (w2.alloc (.cells #[.pointer (some ⟨w.heap.size, 0, none⟩), .pointer (some ⟨w1.heap.size + 1, 0, none⟩)] 30)) := (Below.refl _ _).alloc (Nat.le_refl _) _
  have hw1 : w.heap.size ≤ w1.heap.size := hb1.size
  have hw2 : w1.heap.size ≤ w2.heap.size := hb2.size
  refine ⟨heap_alloc_new w2 _, ((one_new hA hb1).keep hb2).keep hb3, ⟨_, _, _, _, hO.below hb3, fun b hb => ?_⟩, Nat.le_trans hw1 hw2⟩
  rcases hb with rfl | rfl | e | ⟨v, hv, e⟩
  · omega
  · exact hw1
  · cases e
  · rw [List.mem_singleton.1 hv] at e; cases e
/-- What is known of a pair of which a script has been asked so far. -/
structure Run (w : World) (P : Nat) (room most : Int) (T t : Nat) (p : Nat) (s : Pf) (l : Loc) (pr : Nat) (fs : Fs) (W : World) : Prop where
  duo : Duo w P p s l pr fs W
  fine : Fine s T
  fineD : FineD fs t
  inv : Inv s
  room : s.room = room
  most : fs.most = most
theorem Run.keep {w W W' : World} {P p pr T t : Nat} {room most : Int} {s : Pf} {l : Loc} {fs : Fs} (h : Run w P room most T t p s l pr fs W) (hb : Below W.heap.size W W') : Run w P room most T t p s l pr fs W' := ⟨h.duo.keep hb, h.fine, h.fineD, h.inv, h.room, h.most⟩
theorem run_new {w w1 w2 : World} {room most : Int} (hA : At w1 w.heap.size (newS room) (newL (w.heap.size + 1))) (hb1 : Below w.heap.size w w1) (hO : Owns w2 (w1.heap.size + 1) (Vf.newFs most) (.slice none 0 0) w1.heap.size 1 [Vf.nilDv]) (hb2 : Below w1.heap.size w1 w2) (hm : max most 0 = most) :
    Run w w2.heap.size room most 1 1 w.heap.size (newS room) (newL (w.heap.size + 1)) (w1.heap.size + 1) (Vf.newFs most) (w2.alloc (.cells #[.pointer (some ⟨w.heap.size, 0, none⟩), .pointer (some ⟨w1.heap.size + 1, 0, none⟩)] 30)) :=
  ⟨duo_new hA hb1 hO hb2, fine_new room, Vf.fine_newD most, inv_new room, rfl, by unfold Vf.newFs; show max 0 most = most; rw [Int.max_comm]; exact hm⟩
/-- One call more. -/
theorem run_do {w W : World} {P p pr T t : Nat} {room most : Int} {s : Pf} {l : Loc} {fs : Fs} (o : Op) (hok : o.Ok) (hs : o.a.size ≤ 300 ∧ o.b.size ≤ 300) (h : Run w P room most T t p s l pr fs W) (hT : T ≤ 90000) (ht : t ≤ 200) (hr : 0 ≤ room) (hm : -9223372036854775808 ≤ most ∧ most ≤ 9223372036854775807) :
    Calls Tryz.prog 13 #[.pointer (some ⟨P, 0, none⟩), .agg #[.int .u8 o.kind, .string o.a, .string o.b, .int .i64 o.n]] W fun e W' => e = .returned (.bool (doRes s fs o)) ∧ ∃ p' l' pr', Run w P room most (T + 2) (t + 2) p' (doS s o) l' pr' (doG fs o) W' := by
  refine (do_any o hok (by unfold okS; omega) (by unfold okS; omega) h.duo h.fine hT h.fineD ht (by rw [h.room]; exact hr) (by rw [h.most]; exact hm)).mono ?_
  rintro e W' ⟨he, ⟨⟨p', l', pr', hd⟩, _, hf, hfd⟩⟩
  exact ⟨he, p', l', pr', hd, hf, hfd, inv_do h.inv o, (room_do s o).trans h.room, (most_do fs o).trans h.most⟩
end Go.Proofs.YtdbcjiapbehacaaGreatDoor.Vp
