/-
  What (*clepsydra/sip.numbers).rounds does: so many rounds of the four numbers that a block begins with.
-/
import Derived.Test.YtgdpgpmkokjdjaaDoorSpRot
import Derived.Deep.RegionHeld3
import Derived.LoopTactic
import Derived.StillTailTactics
import Derived.Outline
namespace Go.Proofs.YtgdpgpmkokjdjaaDoor.Sp
open Go.RowKit

/-- A walk from any world of which the same is known. -/
theorem wp_world {P : Program} {c : Code} {Q : Exit → Act → World → Prop} {a : Act} {W : World} (R : World → Prop) (h : R W) (k : ∀ W, R W → Code.wp P c Q a W) : Code.wp P c Q a W := k W h
theorem Q.cell4 {w : World} {g : Nat} {t : TypeId} {a b c d : Int} {tl : List Value} (h : Hold w g t (Q.cells ⟨a, b, c, d⟩ ++ tl)) :
    w.cell? ⟨g, 0, none⟩ = some (.int .u64 a) ∧ w.cell? ⟨g, 1, none⟩ = some (.int .u64 b) ∧ w.cell? ⟨g, 2, none⟩ = some (.int .u64 c) ∧ w.cell? ⟨g, 3, none⟩ = some (.int .u64 d) :=
  ⟨h.cell 0, h.cell 1, h.cell 2, h.cell 3⟩
theorem Q.free4 {w : World} {g : Nat} {t : TypeId} {cs : List Value} (h : Hold w g t cs) :
    w.frozen? ⟨g, 0, none⟩ = false ∧ w.frozen? ⟨g, 1, none⟩ = false ∧ w.frozen? ⟨g, 2, none⟩ = false ∧ w.frozen? ⟨g, 3, none⟩ = false :=
  ⟨h.frozen 0, h.frozen 1, h.frozen 2, h.frozen 3⟩

theorem wpl_world {P : Program} {ops : Array Oper} {Q : Exit → Act → World → Prop} {l : List Oper} {a : Act} {W : World} (R : World → Prop) (h : R W) (k : ∀ W, R W → wpList P ops Q l a W) : wpList P ops Q l a W := k W h
theorem still_l13 (x : Int) (w : World) : Calls Tryd.prog 26 #[.int .u64 x, .int .i64 13] w fun e w' => e = .returned (.int .u64 (rot13 x)) ∧ w' = w := (left13 x _ w rfl).mono fun _ _ ⟨he, hw⟩ => ⟨he, hw.symm⟩
theorem still_l16 (x : Int) (w : World) : Calls Tryd.prog 26 #[.int .u64 x, .int .i64 16] w fun e w' => e = .returned (.int .u64 (rot16 x)) ∧ w' = w := (left16 x _ w rfl).mono fun _ _ ⟨he, hw⟩ => ⟨he, hw.symm⟩
theorem still_l17 (x : Int) (w : World) : Calls Tryd.prog 26 #[.int .u64 x, .int .i64 17] w fun e w' => e = .returned (.int .u64 (rot17 x)) ∧ w' = w := (left17 x _ w rfl).mono fun _ _ ⟨he, hw⟩ => ⟨he, hw.symm⟩
theorem still_l21 (x : Int) (w : World) : Calls Tryd.prog 26 #[.int .u64 x, .int .i64 21] w fun e w' => e = .returned (.int .u64 (rot21 x)) ∧ w' = w := (left21 x _ w rfl).mono fun _ _ ⟨he, hw⟩ => ⟨he, hw.symm⟩
theorem still_l32 (x : Int) (w : World) : Calls Tryd.prog 26 #[.int .u64 x, .int .i64 32] w fun e w' => e = .returned (.int .u64 (rot32 x)) ∧ w' = w := (left32 x _ w rfl).mono fun _ _ ⟨he, hw⟩ => ⟨he, hw.symm⟩
set_option maxHeartbeats 8000000 in
set_option maxRecDepth 100000 in
set_option maxHeartbeats 8000000 in
set_option maxRecDepth 100000 in
set_option maxHeartbeats 8000000 in
set_option maxRecDepth 100000 in
theorem rounds_any (g : Nat) (t : TypeId) (q : Q) (tl : List Value) (N : Nat) (w : World) (hN : N ≤ 100) (hg : Hold w g t (q.cells ++ tl)) :
    Calls Tryd.prog 21 #[.pointer (some ⟨g, 0, none⟩), .int .i64 N] w fun e w' => e = .returned (.tuple #[]) ∧ Ob w g t ((rnds N q).cells ++ tl) w' := by
  have HG := Lib.hid hg; clear hg
  go_enter Tryd.func21, Tryd.ntmps21
  go_wp2
  go_loopw [5] (fun i wr => ∃ k : Nat, k ≤ N ∧ i = .int .i64 k ∧ Ob w g t ((rnds k q).cells ++ tl) wr) (fun i _ => N - (intOf i).toNat)
  case atStart => exact ⟨0, by omega, rfl, HG.out.ob⟩
  case round =>
    obtain ⟨k, hk, rfl, ho⟩ := hrel
    by_cases hlt : k < N
    · obtain ⟨q1, hq⟩ : ∃ q1, rnds k q = q1 := ⟨_, rfl⟩
      have hq' : rnds (k + 1) q = rnd q1 := by rw [← hq]; rfl
      rw [hq] at ho
      have HQ := Lib.hid hq'; clear hq hq'
      obtain ⟨a, b, c, d⟩ := q1
      obtain ⟨x1, hx1⟩ : ∃ r, IntKind.u64.wrap (a + b) = r := ⟨_, rfl⟩
      obtain ⟨x2, hx2⟩ : ∃ r, bits .xor .u64 (rot13 b) x1 = r := ⟨_, rfl⟩
      obtain ⟨x3, hx3⟩ : ∃ r, rot32 x1 = r := ⟨_, rfl⟩
      obtain ⟨x4, hx4⟩ : ∃ r, IntKind.u64.wrap (c + d) = r := ⟨_, rfl⟩
      obtain ⟨x5, hx5⟩ : ∃ r, bits .xor .u64 (rot16 d) x4 = r := ⟨_, rfl⟩
      obtain ⟨x6, hx6⟩ : ∃ r, IntKind.u64.wrap (x3 + x5) = r := ⟨_, rfl⟩
      obtain ⟨x7, hx7⟩ : ∃ r, bits .xor .u64 (rot21 x5) x6 = r := ⟨_, rfl⟩
      obtain ⟨x8, hx8⟩ : ∃ r, IntKind.u64.wrap (x4 + x2) = r := ⟨_, rfl⟩
      obtain ⟨x9, hx9⟩ : ∃ r, bits .xor .u64 (rot17 x2) x8 = r := ⟨_, rfl⟩
      obtain ⟨x10, hx10⟩ : ∃ r, rot32 x8 = r := ⟨_, rfl⟩
      have HE : Hid (rnd ⟨a, b, c, d⟩ = ⟨x6, x9, x10, x7⟩) := by subst hx1 hx2 hx3 hx4 hx5 hx6 hx7 hx8 hx9 hx10; rfl
      obtain ⟨c0, c1, c2, c3⟩ := Q.cell4 ho.hold
      obtain ⟨f0, f1, f2, f3⟩ := Q.free4 ho.hold
      have HO := Lib.hid ho; clear ho
      go_wp2_with fail
      refine wp_region_still_tail 11 (by kernel_rfl) (by kernel_rfl) ?_
      simp only [List.take_succ_cons, List.take_zero, List.drop_succ_cons, List.drop_zero]
      repeat still_step
      refine wpStill_nil ?_
      change wpList _ _ _ _ _ wr.drew
      refine wpl_world (Ob w g t (Q.cells ⟨a, b, c, d⟩ ++ tl)) HO.out.drew ?_
      clear c0 c1 c2 c3 f0 f1 f2 f3 HO wr
      intro wr ho
      obtain ⟨c0, c1, c2, c3⟩ := Q.cell4 ho.hold
      obtain ⟨f0, f1, f2, f3⟩ := Q.free4 ho.hold
      have HO := Lib.hid ho; clear ho
      go_wp2_with (fail)
      refine wp_world (Ob w g t (Q.cells ⟨x1, b, c, d⟩ ++ tl)) (HO.out.set 0 _) ?_
      clear c0 c1 c2 c3 f0 f1 f2 f3 HO hx1 wr
      intro wr ho
      obtain ⟨c0, c1, c2, c3⟩ := Q.cell4 ho.hold
      obtain ⟨f0, f1, f2, f3⟩ := Q.free4 ho.hold
      have HO := Lib.hid ho; clear ho
      refine wp_region_still_tail 13 (by kernel_rfl) (by kernel_rfl) ?_
      simp only [List.take_succ_cons, List.take_zero, List.drop_succ_cons, List.drop_zero]
      repeat still_step
      still_call (still_l13 _ _)
      repeat still_step
      refine wpStill_nil ?_
      change wpList _ _ _ _ _ wr.drew
      refine wpl_world (Ob w g t (Q.cells ⟨x1, b, c, d⟩ ++ tl)) HO.out.drew ?_
      clear c0 c1 c2 c3 f0 f1 f2 f3 HO wr
      intro wr ho
      obtain ⟨c0, c1, c2, c3⟩ := Q.cell4 ho.hold
      obtain ⟨f0, f1, f2, f3⟩ := Q.free4 ho.hold
      have HO := Lib.hid ho; clear ho
      have HR := Lib.hid hx3; clear hx3
      go_wp2_with (go_at_call 26; refine (left32 x1 x3 _ HR.out).mono ?_; rintro e w' ⟨rfl, rfl⟩)
      refine wp_world (Ob w g t (Q.cells ⟨x3, x2, c, d⟩ ++ tl)) ((HO.out.set 1 _).set 0 _) ?_
      clear c0 c1 c2 c3 f0 f1 f2 f3 HO hx2 HR wr
      intro wr ho
      obtain ⟨c0, c1, c2, c3⟩ := Q.cell4 ho.hold
      obtain ⟨f0, f1, f2, f3⟩ := Q.free4 ho.hold
      have HO := Lib.hid ho; clear ho
      refine wp_region_still_tail 11 (by kernel_rfl) (by kernel_rfl) ?_
      simp only [List.take_succ_cons, List.take_zero, List.drop_succ_cons, List.drop_zero]
      repeat still_step
      refine wpStill_nil ?_
      change wpList _ _ _ _ _ wr.drew
      refine wpl_world (Ob w g t (Q.cells ⟨x3, x2, c, d⟩ ++ tl)) HO.out.drew ?_
      clear c0 c1 c2 c3 f0 f1 f2 f3 HO wr
      intro wr ho
      obtain ⟨c0, c1, c2, c3⟩ := Q.cell4 ho.hold
      obtain ⟨f0, f1, f2, f3⟩ := Q.free4 ho.hold
      have HO := Lib.hid ho; clear ho
      go_wp2_with (fail)
      refine wp_world (Ob w g t (Q.cells ⟨x3, x2, x4, d⟩ ++ tl)) (HO.out.set 2 _) ?_
      clear c0 c1 c2 c3 f0 f1 f2 f3 HO hx4 wr
      intro wr ho
      obtain ⟨c0, c1, c2, c3⟩ := Q.cell4 ho.hold
      obtain ⟨f0, f1, f2, f3⟩ := Q.free4 ho.hold
      have HO := Lib.hid ho; clear ho
      refine wp_region_still_tail 13 (by kernel_rfl) (by kernel_rfl) ?_
      simp only [List.take_succ_cons, List.take_zero, List.drop_succ_cons, List.drop_zero]
      repeat still_step
      still_call (still_l16 _ _)
      repeat still_step
      refine wpStill_nil ?_
      change wpList _ _ _ _ _ wr.drew
      refine wpl_world (Ob w g t (Q.cells ⟨x3, x2, x4, d⟩ ++ tl)) HO.out.drew ?_
      clear c0 c1 c2 c3 f0 f1 f2 f3 HO wr
      intro wr ho
      obtain ⟨c0, c1, c2, c3⟩ := Q.cell4 ho.hold
      obtain ⟨f0, f1, f2, f3⟩ := Q.free4 ho.hold
      have HO := Lib.hid ho; clear ho
      go_wp2_with (fail)
      refine wp_world (Ob w g t (Q.cells ⟨x3, x2, x4, x5⟩ ++ tl)) (HO.out.set 3 _) ?_
      clear c0 c1 c2 c3 f0 f1 f2 f3 HO hx5 wr
      intro wr ho
      obtain ⟨c0, c1, c2, c3⟩ := Q.cell4 ho.hold
      obtain ⟨f0, f1, f2, f3⟩ := Q.free4 ho.hold
      have HO := Lib.hid ho; clear ho
      refine wp_region_still_tail 11 (by kernel_rfl) (by kernel_rfl) ?_
      simp only [List.take_succ_cons, List.take_zero, List.drop_succ_cons, List.drop_zero]
      repeat still_step
      refine wpStill_nil ?_
      change wpList _ _ _ _ _ wr.drew
      refine wpl_world (Ob w g t (Q.cells ⟨x3, x2, x4, x5⟩ ++ tl)) HO.out.drew ?_
      clear c0 c1 c2 c3 f0 f1 f2 f3 HO wr
      intro wr ho
      obtain ⟨c0, c1, c2, c3⟩ := Q.cell4 ho.hold
      obtain ⟨f0, f1, f2, f3⟩ := Q.free4 ho.hold
      have HO := Lib.hid ho; clear ho
      go_wp2_with (fail)
      refine wp_world (Ob w g t (Q.cells ⟨x6, x2, x4, x5⟩ ++ tl)) (HO.out.set 0 _) ?_
      clear c0 c1 c2 c3 f0 f1 f2 f3 HO hx6 wr
      intro wr ho
      obtain ⟨c0, c1, c2, c3⟩ := Q.cell4 ho.hold
      obtain ⟨f0, f1, f2, f3⟩ := Q.free4 ho.hold
      have HO := Lib.hid ho; clear ho
      refine wp_region_still_tail 13 (by kernel_rfl) (by kernel_rfl) ?_
      simp only [List.take_succ_cons, List.take_zero, List.drop_succ_cons, List.drop_zero]
      repeat still_step
      still_call (still_l21 _ _)
      repeat still_step
      refine wpStill_nil ?_
      change wpList _ _ _ _ _ wr.drew
      refine wpl_world (Ob w g t (Q.cells ⟨x6, x2, x4, x5⟩ ++ tl)) HO.out.drew ?_
      clear c0 c1 c2 c3 f0 f1 f2 f3 HO wr
      intro wr ho
      obtain ⟨c0, c1, c2, c3⟩ := Q.cell4 ho.hold
      obtain ⟨f0, f1, f2, f3⟩ := Q.free4 ho.hold
      have HO := Lib.hid ho; clear ho
      go_wp2_with (fail)
      refine wp_world (Ob w g t (Q.cells ⟨x6, x2, x4, x7⟩ ++ tl)) (HO.out.set 3 _) ?_
      clear c0 c1 c2 c3 f0 f1 f2 f3 HO hx7 wr
      intro wr ho
      obtain ⟨c0, c1, c2, c3⟩ := Q.cell4 ho.hold
      obtain ⟨f0, f1, f2, f3⟩ := Q.free4 ho.hold
      have HO := Lib.hid ho; clear ho
      refine wp_region_still_tail 11 (by kernel_rfl) (by kernel_rfl) ?_
      simp only [List.take_succ_cons, List.take_zero, List.drop_succ_cons, List.drop_zero]
      repeat still_step
      refine wpStill_nil ?_
      change wpList _ _ _ _ _ wr.drew
      refine wpl_world (Ob w g t (Q.cells ⟨x6, x2, x4, x7⟩ ++ tl)) HO.out.drew ?_
      clear c0 c1 c2 c3 f0 f1 f2 f3 HO wr
      intro wr ho
      obtain ⟨c0, c1, c2, c3⟩ := Q.cell4 ho.hold
      obtain ⟨f0, f1, f2, f3⟩ := Q.free4 ho.hold
      have HO := Lib.hid ho; clear ho
      go_wp2_with (fail)
      refine wp_world (Ob w g t (Q.cells ⟨x6, x2, x8, x7⟩ ++ tl)) (HO.out.set 2 _) ?_
      clear c0 c1 c2 c3 f0 f1 f2 f3 HO hx8 wr
      intro wr ho
      obtain ⟨c0, c1, c2, c3⟩ := Q.cell4 ho.hold
      obtain ⟨f0, f1, f2, f3⟩ := Q.free4 ho.hold
      have HO := Lib.hid ho; clear ho
      refine wp_region_still_tail 13 (by kernel_rfl) (by kernel_rfl) ?_
      simp only [List.take_succ_cons, List.take_zero, List.drop_succ_cons, List.drop_zero]
      repeat still_step
      still_call (still_l17 _ _)
      repeat still_step
      refine wpStill_nil ?_
      change wpList _ _ _ _ _ wr.drew
      refine wpl_world (Ob w g t (Q.cells ⟨x6, x2, x8, x7⟩ ++ tl)) HO.out.drew ?_
      clear c0 c1 c2 c3 f0 f1 f2 f3 HO wr
      intro wr ho
      obtain ⟨c0, c1, c2, c3⟩ := Q.cell4 ho.hold
      obtain ⟨f0, f1, f2, f3⟩ := Q.free4 ho.hold
      have HO := Lib.hid ho; clear ho
      have HR := Lib.hid hx10; clear hx10
      go_wp2_with (go_at_call 26; refine (left32 x8 x10 _ HR.out).mono ?_; rintro e w' ⟨rfl, rfl⟩)
      exact ⟨⟨k + 1, by omega, by go_num, ((HO.out.set 1 _).set 2 _).cast (by rw [HQ.out, HE.out]; rfl)⟩, by simp [intOf]; omega⟩
    · obtain rfl : k = N := by omega
      have HO := Lib.hid ho; clear ho
      go_wp2
      go_end0
      exact ⟨rfl, HO.out⟩
end Go.Proofs.YtgdpgpmkokjdjaaDoor.Sp
