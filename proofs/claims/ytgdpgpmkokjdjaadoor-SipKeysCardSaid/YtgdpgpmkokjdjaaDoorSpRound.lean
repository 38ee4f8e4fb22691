/-
  What clepsydraref04.round answers: a round of four numbers.
-/
import Derived.Test.YtgdpgpmkokjdjaaDoorSpRot
import Derived.Outline
import Derived.Deep.QuietTactic
import Derived.BigQuiet
import Derived.Lib.Hide
namespace Go.Proofs.YtgdpgpmkokjdjaaDoor.Sp
open Go.RowKit

/-- Four numbers in an array. -/
def Q.val (q : Q) : Value := .agg #[wd q.a, wd q.b, wd q.c, wd q.d]
set_option maxHeartbeats 2000000 in
theorem round_any (q p : Q) (w : World) (hp : rnd q = p) :
    Calls Tryd.prog 18 #[q.val] w fun e w' => e = .returned p.val ∧ Below w.heap.size w w' := by
  have HP := Lib.hid hp; clear hp
  obtain ⟨a, b, c, d⟩ := q
  obtain ⟨pa, pb, pc, pd⟩ := p
  obtain ⟨x1, hx1⟩ : ∃ r, IntKind.u64.wrap (a + b) = r := ⟨_, rfl⟩
  obtain ⟨r1, hr1⟩ : ∃ r, rot13 b = r := ⟨_, rfl⟩
  obtain ⟨x3, hx3⟩ : ∃ r, bits .xor .u64 r1 x1 = r := ⟨_, rfl⟩
  obtain ⟨r2, hr2⟩ : ∃ r, rot32 x1 = r := ⟨_, rfl⟩
  obtain ⟨x5, hx5⟩ : ∃ r, IntKind.u64.wrap (c + d) = r := ⟨_, rfl⟩
  obtain ⟨r3, hr3⟩ : ∃ r, rot16 d = r := ⟨_, rfl⟩
  obtain ⟨x7, hx7⟩ : ∃ r, bits .xor .u64 r3 x5 = r := ⟨_, rfl⟩
  obtain ⟨x8, hx8⟩ : ∃ r, IntKind.u64.wrap (r2 + x7) = r := ⟨_, rfl⟩
  obtain ⟨r4, hr4⟩ : ∃ r, rot21 x7 = r := ⟨_, rfl⟩
  obtain ⟨x10, hx10⟩ : ∃ r, bits .xor .u64 r4 x8 = r := ⟨_, rfl⟩
  obtain ⟨x11, hx11⟩ : ∃ r, IntKind.u64.wrap (x5 + x3) = r := ⟨_, rfl⟩
  obtain ⟨r5, hr5⟩ : ∃ r, rot17 x3 = r := ⟨_, rfl⟩
  obtain ⟨x13, hx13⟩ : ∃ r, bits .xor .u64 r5 x11 = r := ⟨_, rfl⟩
  obtain ⟨r6, hr6⟩ : ∃ r, rot32 x11 = r := ⟨_, rfl⟩
  have HE : Hid (rnd ⟨a, b, c, d⟩ = ⟨x8, x13, r6, x10⟩) := by subst hx1 hr1 hx3 hr2 hx5 hr3 hx7 hx8 hr4 hx10 hx11 hr5 hx13 hr6; rfl
  have HRr1 := Lib.hid hr1; clear hr1
  have HRr2 := Lib.hid hr2; clear hr2
  have HRr3 := Lib.hid hr3; clear hr3
  have HRr4 := Lib.hid hr4; clear hr4
  have HRr5 := Lib.hid hr5; clear hr5
  have HRr6 := Lib.hid hr6; clear hr6
  show Calls Tryd.prog 18 #[.agg #[.int .u64 a, .int .u64 b, .int .u64 c, .int .u64 d]] w _
  go_enter Tryd.func18, Tryd.ntmps18
  go_wp2_with fail
  go_quiet (fail)
  go_wp2_with (first
    | (go_at_call 25; ((with_reducible refine (turn13 b r1 _ HRr1.out).mono ?_); rintro e w' ⟨rfl, n, rfl⟩))
    | (go_at_call 25; ((with_reducible refine (turn32 x1 r2 _ HRr2.out).mono ?_); rintro e w' ⟨rfl, n, rfl⟩))
    | (go_at_call 25; ((with_reducible refine (turn16 d r3 _ HRr3.out).mono ?_); rintro e w' ⟨rfl, n, rfl⟩))
    | (go_at_call 25; ((with_reducible refine (turn21 x7 r4 _ HRr4.out).mono ?_); rintro e w' ⟨rfl, n, rfl⟩))
    | (go_at_call 25; ((with_reducible refine (turn17 x3 r5 _ HRr5.out).mono ?_); rintro e w' ⟨rfl, n, rfl⟩))
    | (go_at_call 25; ((with_reducible refine (turn32 x11 r6 _ HRr6.out).mono ?_); rintro e w' ⟨rfl, n, rfl⟩)))
  have e : ({ a := pa, b := pb, c := pc, d := pd } : Q) = ⟨x8, x13, r6, x10⟩ := by rw [← HP.out, HE.out]
  rw [e]
  refine bodyPost_ret (v := .agg #[.int .u64 x8, .int .u64 x13, .int .u64 r6, .int .u64 x10]) (by simp [results, Tryd.results18, go_sem]) rfl ⟨rfl, ?_⟩
  exact (((((bl_drewN (((Below.refl _ _).alloc (Nat.le_refl _) _).alloc (by simp) _) _).setCell (by simp) _).setCell (by simp) _).setCell (by simp) _).setCell (by simp) _)

theorem round_v {a b c d a' b' c' d' : Int} (w : World) (h : rnd ⟨a, b, c, d⟩ = ⟨a', b', c', d'⟩) :
    Calls Tryd.prog 18 #[.agg #[.int .u64 a, .int .u64 b, .int .u64 c, .int .u64 d]] w fun e w' => e = .returned (.agg #[.int .u64 a', .int .u64 b', .int .u64 c', .int .u64 d']) ∧ Below w.heap.size w w' :=
  round_any _ _ w h
/-- A walk from any world of which the same is known. -/
theorem wp_at {P : Program} {c : Code} {Q : Exit → Act → World → Prop} {a : Act} {W : World} (R : World → Prop) (h : R W) (k : ∀ W, R W → Code.wp P c Q a W) : Code.wp P c Q a W := k W h
theorem wpl_at {P : Program} {ops : Array Oper} {Q : Exit → Act → World → Prop} {l : List Oper} {a : Act} {W : World} (R : World → Prop) (h : R W) (k : ∀ W, R W → wpList P ops Q l a W) : wpList P ops Q l a W := k W h
theorem cells4 {w : World} {g : Nat} {t : TypeId} {a b c d : Value} {tl : List Value} (h : Hold w g t (a :: b :: c :: d :: tl)) :
    w.cell? ⟨g, 0, none⟩ = some a ∧ w.cell? ⟨g, 1, none⟩ = some b ∧ w.cell? ⟨g, 2, none⟩ = some c ∧ w.cell? ⟨g, 3, none⟩ = some d :=
  ⟨h.cell 0, h.cell 1, h.cell 2, h.cell 3⟩
theorem frees4 {w : World} {g : Nat} {t : TypeId} {cs : List Value} (h : Hold w g t cs) :
    w.frozen? ⟨g, 0, none⟩ = false ∧ w.frozen? ⟨g, 1, none⟩ = false ∧ w.frozen? ⟨g, 2, none⟩ = false ∧ w.frozen? ⟨g, 3, none⟩ = false :=
  ⟨h.frozen 0, h.frozen 1, h.frozen 2, h.frozen 3⟩

set_option maxHeartbeats 2000000 in
theorem eats_any (q p : Q) (m : Int) (w : World) (hp : eat q m = p) :
    Calls Tryd.prog 17 #[q.val, .int .u64 m] w fun e w' => e = .returned p.val ∧ Below w.heap.size w w' := by
  have HP := Lib.hid hp; clear hp
  obtain ⟨a, b, c, d⟩ := q
  obtain ⟨x, hx⟩ : ∃ r, bits .xor .u64 d m = r := ⟨_, rfl⟩
  obtain ⟨q1, h1⟩ : ∃ r, rnd ⟨a, b, c, x⟩ = r := ⟨_, rfl⟩
  obtain ⟨q2, h2⟩ : ∃ r, rnd q1 = r := ⟨_, rfl⟩
  obtain ⟨a1, b1, c1, d1⟩ := q1
  obtain ⟨a2, b2, c2, d2⟩ := q2
  obtain ⟨y, hy⟩ : ∃ r, bits .xor .u64 a2 m = r := ⟨_, rfl⟩
  have HE : Hid (p = ⟨y, b2, c2, d2⟩) := by
    rw [← HP.out]
    have e2 : rnds 2 ⟨a, b, c, bits .xor .u64 d m⟩ = ⟨a2, b2, c2, d2⟩ := by rw [hx]; show rnd (rnd ⟨a, b, c, x⟩) = _; rw [h1, h2]
    show (⟨xr (rnds 2 ⟨a, b, c, bits .xor .u64 d m⟩).a m, (rnds 2 ⟨a, b, c, bits .xor .u64 d m⟩).b, (rnds 2 ⟨a, b, c, bits .xor .u64 d m⟩).c, (rnds 2 ⟨a, b, c, bits .xor .u64 d m⟩).d⟩ : Q) = _
    rw [e2, ← hy]; rfl
  clear HP
  have H1 := Lib.hid h1; clear h1
  have H2 := Lib.hid h2; clear h2
  show Calls Tryd.prog 17 #[.agg #[.int .u64 a, .int .u64 b, .int .u64 c, .int .u64 d], .int .u64 m] w _
  go_enter Tryd.func17, Tryd.ntmps17
  go_wp2_with fail
  refine (round_v _ H1.out).mono ?_
  rintro e w1 ⟨rfl, hb1⟩
  go_wp2_with fail
  refine (round_v _ H2.out).mono ?_
  rintro e w2 ⟨rfl, hb2⟩
  have HB := Lib.hid (hb1.trans (hb2.mono hb1.size)); clear hb1 hb2
  have HH : Hid (Hold w2 w.heap.size 44 [.int .u64 a, .int .u64 b, .int .u64 c, .int .u64 x] ∧ Hold w2 (w.heap.size + 1) 44 [.int .u64 0, .int .u64 0, .int .u64 0, .int .u64 0] ∧ Below w.heap.size w w2) := by
    refine ⟨Hold.below (((Hold.new w 44 [.int .u64 a, .int .u64 b, .int .u64 c, .int .u64 x]).alloc _)) HB.out (by simp; omega), Hold.below (g := w.heap.size + 1) ?_ HB.out (by simp), ?_⟩
    · have := Hold.new (w.alloc (.cells #[.int .u64 a, .int .u64 b, .int .u64 c, .int .u64 x] 44)) 44 [.int .u64 0, .int .u64 0, .int .u64 0, .int .u64 0]
      simpa using this
    · exact (((Below.refl _ _).alloc (Nat.le_refl _) _).alloc (by simp) _).trans (HB.out.mono (by simp; omega))
  clear HB
  obtain ⟨c0, c1', c2', c3⟩ := cells4 HH.out.1
  obtain ⟨f0, f1, f2, f3⟩ := frees4 HH.out.1
  obtain ⟨k0, k1, k2, k3⟩ := cells4 HH.out.2.1
  obtain ⟨g0, g1, g2, g3⟩ := frees4 HH.out.2.1
  go_wp2_with fail
  rw [HE.out]
  refine bodyPost_ret (v := .agg #[.int .u64 y, .int .u64 b2, .int .u64 c2, .int .u64 d2]) (by simp [results, Tryd.results17, go_sem, k0, k1, k2, k3]) rfl ⟨rfl, ?_⟩
  exact (((((((((HH.out.2.2).setCell (by simp) _).setCell (by simp) _).setCell (by simp) _).setCell (by simp) _).setCell (by simp) _).setCell (by simp) _).setCell (by simp) _).setCell (by simp) _).setCell (by simp) _
theorem eats_v {a b c d a' b' c' d' m : Int} (w : World) (h : eat ⟨a, b, c, d⟩ m = ⟨a', b', c', d'⟩) :
    Calls Tryd.prog 17 #[.agg #[.int .u64 a, .int .u64 b, .int .u64 c, .int .u64 d], .int .u64 m] w fun e w' => e = .returned (.agg #[.int .u64 a', .int .u64 b', .int .u64 c', .int .u64 d']) ∧ Below w.heap.size w w' :=
  eats_any _ _ m w h
end Go.Proofs.YtgdpgpmkokjdjaaDoor.Sp

