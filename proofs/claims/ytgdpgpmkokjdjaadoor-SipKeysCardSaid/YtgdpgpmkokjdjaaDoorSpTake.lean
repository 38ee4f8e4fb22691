/-
  What (*clepsydra/sip.numbers).take does, and clepsydra/sip.New: eight bytes more; a hash to which nothing was added.
-/
import Derived.Test.YtgdpgpmkokjdjaaDoorSpRounds
import Derived.Test.YtgdpgpmkokjdjaaDoorSpNum
import Derived.Lib.QuietBelow
import Derived.Deep.QuietTactic
import Derived.BigQuiet
namespace Go.Proofs.YtgdpgpmkokjdjaaDoor.Sp
open Go.RowKit

theorem rounds_two (g : Nat) (t : TypeId) (q : Q) (tl : List Value) (w : World) (hg : Hold w g t (q.cells ++ tl)) :
    Calls Tryd.prog 21 #[.pointer (some ⟨g, 0, none⟩), .int .i64 2] w fun e w' => e = .returned (.tuple #[]) ∧ Ob w g t ((rnds 2 q).cells ++ tl) w' :=
  rounds_any g t q tl 2 w (by omega) hg
theorem rounds_four (g : Nat) (t : TypeId) (q : Q) (tl : List Value) (w : World) (hg : Hold w g t (q.cells ++ tl)) :
    Calls Tryd.prog 21 #[.pointer (some ⟨g, 0, none⟩), .int .i64 4] w fun e w' => e = .returned (.tuple #[]) ∧ Ob w g t ((rnds 4 q).cells ++ tl) w' :=
  rounds_any g t q tl 4 w (by omega) hg

set_option maxHeartbeats 1000000 in
theorem take_any (g : Nat) (t : TypeId) (q : Q) (tl : List Value) (m : Int) (w : World) (hg : Hold w g t (q.cells ++ tl)) :
    Calls Tryd.prog 20 #[.pointer (some ⟨g, 0, none⟩), .int .u64 m] w fun e w' => e = .returned (.tuple #[]) ∧ Ob w g t ((eat q m).cells ++ tl) w' := by
  obtain ⟨a, b, c, d⟩ := q
  obtain ⟨x, hx⟩ : ∃ r, bits .xor .u64 d m = r := ⟨_, rfl⟩
  obtain ⟨q2, h2⟩ : ∃ r, rnds 2 ⟨a, b, c, x⟩ = r := ⟨_, rfl⟩
  obtain ⟨a2, b2, c2, d2⟩ := q2
  obtain ⟨y, hy⟩ : ∃ r, bits .xor .u64 a2 m = r := ⟨_, rfl⟩
  have HE : Hid (eat ⟨a, b, c, d⟩ m = ⟨y, b2, c2, d2⟩) := by
    show (⟨xr (rnds 2 ⟨a, b, c, bits .xor .u64 d m⟩).a m, (rnds 2 ⟨a, b, c, bits .xor .u64 d m⟩).b, (rnds 2 ⟨a, b, c, bits .xor .u64 d m⟩).c, (rnds 2 ⟨a, b, c, bits .xor .u64 d m⟩).d⟩ : Q) = _
    rw [hx, h2, ← hy]; rfl
  have H2 := Lib.hid h2; clear h2
  obtain ⟨c0, c1, c2', c3⟩ := Q.cell4 hg
  obtain ⟨f0, f1, f2, f3⟩ := Q.free4 hg
  have HG := Lib.hid hg; clear hg
  go_enter Tryd.func20, Tryd.ntmps20
  go_wp2_with fail
  refine (rounds_two g t ⟨a, b, c, x⟩ tl _ (HG.out.set 3 _)).mono ?_
  rintro e w1 ⟨rfl, ho⟩
  rw [H2.out] at ho
  have HO := Lib.hid ((HG.out.ob.set 3 _).trans ho); clear ho c0 c1 c2' c3 f0 f1 f2 f3
  obtain ⟨c0, c1, c2', c3⟩ := Q.cell4 HO.out.hold
  obtain ⟨f0, f1, f2, f3⟩ := Q.free4 HO.out.hold
  go_wp2_with fail
  go_end0
  exact ⟨rfl, (HO.out.set 0 _).cast (by rw [HE.out]; rfl)⟩

theorem q_same {P : Program} {f : FuncId} {args : Array Value} {w : World} {n : Nat} {v : Value}
    (h : Calls P f args (w.drewN n) fun e w' => e = .returned v ∧ w.drewN n = w') : Calls P f args (w.drewN n) fun e w'' => e = .returned v ∧ ∃ m, w'' = w.drewN m :=
  h.mono fun _ _ ⟨he, hm⟩ => ⟨he, n, hm.symm⟩
/-- The cells of a hash: the numbers, what is left, how many. -/
def hcells (q : Q) (l : List Int) (c : Int) : List Value := q.cells ++ (l.map by8 ++ [by8 c])
/-- A key, as a value. -/
def kval (k : List Int) : Value := .agg (k.map by8).toArray

def NewPost (k : List Int) (w : World) (e : Ending) (w' : World) : Prop := ∃ g, e = .returned (.pointer (some ⟨g, 0, none⟩)) ∧ Hold w' g 51 (hcells (init k) (List.replicate 8 0) 0) ∧ Below w.heap.size w w' ∧ w.heap.size ≤ g
set_option maxHeartbeats 1000000 in
theorem new_any (k : List Int) (w : World) (hk : k.length = 16) (hb : Bytes k) :
    Calls Tryd.prog 11 #[kval k] w fun e w' => NewPost k w e w' := by
  unfold kval
  go_enter Tryd.func11, Tryd.ntmps11
  go_wp2_with fail
  refine wp_world (fun W => Hold W w.heap.size 23 (k.map by8) ∧ Below w.heap.size w W ∧ w.heap.size < W.heap.size) ⟨Hold.new _ _ _, (Below.refl _ _).alloc (Nat.le_refl _) _, by simp⟩ ?_
  rintro W ⟨hk1, hb1, hz⟩
  have hr1 : Row W (w.heap.size + 1) (some ⟨w.heap.size, 0, none⟩) 8 (k.take 8) := Row.of_hold hk1 (by omega) (by rw [List.length_take]; omega) (fun j z hj => by
    rw [List.getElem?_take] at hj
    split at hj
    · rw [List.getElem?_map, show 0 + j = j by omega, hj]; rfl
    · cases hj)
  have hr2 : Row W (w.heap.size + 1) (some ⟨w.heap.size, 8, none⟩) 8 (k.drop 8) := Row.of_hold hk1 (by omega) (by rw [List.length_drop]; omega) (fun j z hj => by
    rw [List.getElem?_drop] at hj
    rw [List.getElem?_map, hj]; rfl)
  have HK := Lib.hid hk; clear hk
  go_quiet ((first
    | (go_at_call 19; exact q_same (number_any _ 8 _ _ _ _ (hr1.drewN _) (hb.take 8) (by omega)))
    | (go_at_call 19; exact q_same (number_any _ 8 _ _ _ _ (hr2.drewN _) (hb.drop 8) (by omega)))))
  go_wp2
  go_ret
  exact ⟨W.heap.size, rfl, Hold.new (W.drewN nq) _ _, (bl_drewN hb1 nq).alloc (by simp; omega) _, by omega⟩
end Go.Proofs.YtgdpgpmkokjdjaaDoor.Sp
