/-
  Layer 7 (footer): the law FooterTurns, on (ways by gen_fo7n.py).
-/
import Derived.Test.YtkfhipkcnocokaaDoorFooterTurnsWalkA
namespace Go.Proofs.YtkfhipkcnocokaaDoor.Fo
open Go.RowKit
set_option maxRecDepth 100000

set_option maxHeartbeats 8000000 in
theorem turns_s0 (r : Rl) (yr off q y sA sB A B lo hi g g1 v t ta tb : Int) (N : Tn r yr off q y sA sB A B lo hi g g1 v t ta tb) (hr : rightR r = true) (hs : r.dst.toList.isEmpty = false) (p1 : plainB r.start = false) (de : (r.dstOff != r.off) = false)
    (c1 : ∀ V, Cv.Tab V → Calls Tryd.prog 19 #[dyV r.start, .int .i64 y] V fun e w' => e = .returned (.tuple #[.int .i64 sA, .int .i64 0]) ∧ Below V.heap.size V w') (c2 : ∀ V, Cv.Tab V → Calls Tryd.prog 19 #[dyV r.end_, .int .i64 y] V fun e w' => e = .returned (.tuple #[.int .i64 sB, .int .i64 0]) ∧ Below V.heap.size V w')
    (c3 : ∀ V, Cv.Tab V → Calls Tryd.prog 17 #[rlV r, .int .i64 t] V fun e w' => e = .returned (.tuple #[.int .i64 r.dstOff, .bool true]) ∧ Below V.heap.size V w') (c4 : ∀ V, Cv.Tab V → Calls Tryd.prog 17 #[rlV r, .int .i64 tb] V fun e w' => e = .returned (.tuple #[.int .i64 r.dstOff, .bool true]) ∧ Below V.heap.size V w')
    (w : World) (her : Er w) (ht : Cv.Tab w) : Calls Tryd.prog 7 #[rlV r, .int .u16 yr, .int .u32 off] w fun e w' => e = .returned (.bool true) ∧ Below w.heap.size w w' := by
  have HR : Hid (∀ V, Tk w V r → Calls Tryd.prog 13 #[rlV r] V fun e w' => e = .returned (.bool true) ∧ Tk w w' r) := Lib.hid (Tk.lift fun V _ => by have := right_any r V; rwa [hr] at this)
  have HW : Hid (∀ V, Tk w V r → Calls Tryd.prog 9 #[] V fun e w' => e = .returned (.bool true) ∧ Tk w w' r) := Lib.hid (Tk.lift fun V hV => works_any V hV.e)
  have HS1 : Hid (∀ V, Tk w V r → Calls Tryd.prog 19 #[dyV r.start, .int .i64 y] V fun e w' => e = .returned (.tuple #[.int .i64 sA, .int .i64 0]) ∧ Tk w w' r) := Lib.hid (Tk.lift fun V hV => c1 V hV.t)
  have HS2 : Hid (∀ V, Tk w V r → Calls Tryd.prog 19 #[dyV r.end_, .int .i64 y] V fun e w' => e = .returned (.tuple #[.int .i64 sB, .int .i64 0]) ∧ Tk w w' r) := Lib.hid (Tk.lift fun V hV => c2 V hV.t)
  have HA1 : Hid (∀ V, Tk w V r → Calls Tryd.prog 17 #[rlV r, .int .i64 t] V fun e w' => e = .returned (.tuple #[.int .i64 r.dstOff, .bool true]) ∧ Tk w w' r) := Lib.hid (Tk.lift fun V hV => c3 V hV.t)
  have HA2 : Hid (∀ V, Tk w V r → Calls Tryd.prog 17 #[rlV r, .int .i64 tb] V fun e w' => e = .returned (.tuple #[.int .i64 r.dstOff, .bool true]) ∧ Tk w w' r) := Lib.hid (Tk.lift fun V hV => c4 V hV.t)
  have HP1 : Hid (∀ V, Tk w V r → Calls Tryd.prog 21 #[dyV r.start] V fun e w' => e = .returned (.bool false) ∧ Tk w w' r) := Lib.hid (Tk.lift fun V _ => by have := plainDay_any r.start V; rwa [p1] at this)
  have K0 := Lib.hid (Tk.start her ht r 25)
  obtain ⟨hq, wy, wA, wB, hmin, hmax, wg, wg1, pos, big, hv, wt, wa, wb, yb, ob⟩ := N
  have yb0 := yb.1
  have yb1 := yb.2
  have ob0 := ob.1
  have ob1 := ob.2
  clear hr her ht c1 c2 c3 c4 yb ob p1
  obtain ⟨std, dst, oo, dstOff, ⟨k1, m1, e1, d1, t1⟩, ⟨k2, m2, e2, d2, t2⟩⟩ := r
  simp only at *
  go_enter Tryd.func7, Tryd.ntmps7
  go_wp2_with (first
    | (go_at_call 13; refine (HR.out _ K0.out).mono ?_; clear HR; rintro e V1 ⟨rfl, hk⟩; have K1 := Lib.hid hk; clear hk; have a0 := K1.out.r.c0; have a1 := K1.out.r.c1; have a2 := K1.out.r.c2; have a3 := K1.out.r.c3; have a4 := K1.out.r.c4; have a5 := K1.out.r.c5; have a6 := K1.out.r.c6; have a7 := K1.out.r.c7; have a8 := K1.out.r.c8; have a9 := K1.out.r.c9; have a10 := K1.out.r.c10; have a11 := K1.out.r.c11; have a12 := K1.out.r.c12; have a13 := K1.out.r.c13)
    | (go_at_call 19; refine (HS1.out _ K1.out).mono ?_; clear HS1 a0 a1 a2 a3 a4 a5 a6 a7 a8 a9 a10 a11 a12 a13; rintro e V2 ⟨rfl, hk⟩; have K2 := Lib.hid hk; clear hk; have a0 := K2.out.r.c0; have a1 := K2.out.r.c1; have a2 := K2.out.r.c2; have a3 := K2.out.r.c3; have a4 := K2.out.r.c4; have a5 := K2.out.r.c5; have a6 := K2.out.r.c6; have a7 := K2.out.r.c7; have a8 := K2.out.r.c8; have a9 := K2.out.r.c9; have a10 := K2.out.r.c10; have a11 := K2.out.r.c11; have a12 := K2.out.r.c12; have a13 := K2.out.r.c13)
    | (go_at_call 19; refine (HS2.out _ K2.out).mono ?_; clear HS2 a0 a1 a2 a3 a4 a5 a6 a7 a8 a9 a10 a11 a12 a13; rintro e V3 ⟨rfl, hk⟩; have K3 := Lib.hid hk; clear hk; have a0 := K3.out.r.c0; have a1 := K3.out.r.c1; have a2 := K3.out.r.c2; have a3 := K3.out.r.c3; have a4 := K3.out.r.c4; have a5 := K3.out.r.c5; have a6 := K3.out.r.c6; have a7 := K3.out.r.c7; have a8 := K3.out.r.c8; have a9 := K3.out.r.c9; have a10 := K3.out.r.c10; have a11 := K3.out.r.c11; have a12 := K3.out.r.c12; have a13 := K3.out.r.c13)
    | (go_at_call 17; refine (HA1.out _ K3.out).mono ?_; clear HA1 a0 a1 a2 a3 a4 a5 a6 a7 a8 a9 a10 a11 a12 a13; rintro e V4 ⟨rfl, hk⟩; have K4 := Lib.hid hk; clear hk; have a0 := K4.out.r.c0; have a1 := K4.out.r.c1; have a2 := K4.out.r.c2; have a3 := K4.out.r.c3; have a4 := K4.out.r.c4; have a5 := K4.out.r.c5; have a6 := K4.out.r.c6; have a7 := K4.out.r.c7; have a8 := K4.out.r.c8; have a9 := K4.out.r.c9; have a10 := K4.out.r.c10; have a11 := K4.out.r.c11; have a12 := K4.out.r.c12; have a13 := K4.out.r.c13)
    | (go_at_call 17; refine (HA2.out _ K4.out).mono ?_; clear HA2 a0 a1 a2 a3 a4 a5 a6 a7 a8 a9 a10 a11 a12 a13; rintro e V5 ⟨rfl, hk⟩; have K5 := Lib.hid hk; clear hk; have a0 := K5.out.r.c0; have a1 := K5.out.r.c1; have a2 := K5.out.r.c2; have a3 := K5.out.r.c3; have a4 := K5.out.r.c4; have a5 := K5.out.r.c5; have a6 := K5.out.r.c6; have a7 := K5.out.r.c7; have a8 := K5.out.r.c8; have a9 := K5.out.r.c9; have a10 := K5.out.r.c10; have a11 := K5.out.r.c11; have a12 := K5.out.r.c12; have a13 := K5.out.r.c13)
    | (go_at_call 21; refine (HP1.out _ K5.out).mono ?_; clear HP1 a0 a1 a2 a3 a4 a5 a6 a7 a8 a9 a10 a11 a12 a13; rintro e V6 ⟨rfl, hk⟩; have K6 := Lib.hid hk; clear hk; have a0 := K6.out.r.c0; have a1 := K6.out.r.c1; have a2 := K6.out.r.c2; have a3 := K6.out.r.c3; have a4 := K6.out.r.c4; have a5 := K6.out.r.c5; have a6 := K6.out.r.c6; have a7 := K6.out.r.c7; have a8 := K6.out.r.c8; have a9 := K6.out.r.c9; have a10 := K6.out.r.c10; have a11 := K6.out.r.c11; have a12 := K6.out.r.c12; have a13 := K6.out.r.c13)
    | (go_at_call 9; refine (HW.out _ K6.out).mono ?_; clear HW a0 a1 a2 a3 a4 a5 a6 a7 a8 a9 a10 a11 a12 a13; rintro e V8 ⟨rfl, hk⟩; have K8 := Lib.hid hk; clear hk)
    | fail)
  go_ret
  exact ⟨rfl, K8.out.b⟩
set_option maxHeartbeats 8000000 in
theorem turns_s1 (r : Rl) (yr off q y sA sB A B lo hi g g1 v t ta tb : Int) (N : Tn r yr off q y sA sB A B lo hi g g1 v t ta tb) (hr : rightR r = true) (hs : r.dst.toList.isEmpty = false) (p1 : plainB r.start = true) (p2 : plainB r.end_ = false) (de : (r.dstOff != r.off) = false)
    (c1 : ∀ V, Cv.Tab V → Calls Tryd.prog 19 #[dyV r.start, .int .i64 y] V fun e w' => e = .returned (.tuple #[.int .i64 sA, .int .i64 0]) ∧ Below V.heap.size V w') (c2 : ∀ V, Cv.Tab V → Calls Tryd.prog 19 #[dyV r.end_, .int .i64 y] V fun e w' => e = .returned (.tuple #[.int .i64 sB, .int .i64 0]) ∧ Below V.heap.size V w')
    (c3 : ∀ V, Cv.Tab V → Calls Tryd.prog 17 #[rlV r, .int .i64 t] V fun e w' => e = .returned (.tuple #[.int .i64 r.dstOff, .bool true]) ∧ Below V.heap.size V w') (c4 : ∀ V, Cv.Tab V → Calls Tryd.prog 17 #[rlV r, .int .i64 tb] V fun e w' => e = .returned (.tuple #[.int .i64 r.dstOff, .bool true]) ∧ Below V.heap.size V w')
    (w : World) (her : Er w) (ht : Cv.Tab w) : Calls Tryd.prog 7 #[rlV r, .int .u16 yr, .int .u32 off] w fun e w' => e = .returned (.bool true) ∧ Below w.heap.size w w' := by
  have HR : Hid (∀ V, Tk w V r → Calls Tryd.prog 13 #[rlV r] V fun e w' => e = .returned (.bool true) ∧ Tk w w' r) := Lib.hid (Tk.lift fun V _ => by have := right_any r V; rwa [hr] at this)
  have HW : Hid (∀ V, Tk w V r → Calls Tryd.prog 9 #[] V fun e w' => e = .returned (.bool true) ∧ Tk w w' r) := Lib.hid (Tk.lift fun V hV => works_any V hV.e)
  have HS1 : Hid (∀ V, Tk w V r → Calls Tryd.prog 19 #[dyV r.start, .int .i64 y] V fun e w' => e = .returned (.tuple #[.int .i64 sA, .int .i64 0]) ∧ Tk w w' r) := Lib.hid (Tk.lift fun V hV => c1 V hV.t)
  have HS2 : Hid (∀ V, Tk w V r → Calls Tryd.prog 19 #[dyV r.end_, .int .i64 y] V fun e w' => e = .returned (.tuple #[.int .i64 sB, .int .i64 0]) ∧ Tk w w' r) := Lib.hid (Tk.lift fun V hV => c2 V hV.t)
  have HA1 : Hid (∀ V, Tk w V r → Calls Tryd.prog 17 #[rlV r, .int .i64 t] V fun e w' => e = .returned (.tuple #[.int .i64 r.dstOff, .bool true]) ∧ Tk w w' r) := Lib.hid (Tk.lift fun V hV => c3 V hV.t)
  have HA2 : Hid (∀ V, Tk w V r → Calls Tryd.prog 17 #[rlV r, .int .i64 tb] V fun e w' => e = .returned (.tuple #[.int .i64 r.dstOff, .bool true]) ∧ Tk w w' r) := Lib.hid (Tk.lift fun V hV => c4 V hV.t)
  have HP1 : Hid (∀ V, Tk w V r → Calls Tryd.prog 21 #[dyV r.start] V fun e w' => e = .returned (.bool true) ∧ Tk w w' r) := Lib.hid (Tk.lift fun V _ => by have := plainDay_any r.start V; rwa [p1] at this)
  have HP2 : Hid (∀ V, Tk w V r → Calls Tryd.prog 21 #[dyV r.end_] V fun e w' => e = .returned (.bool false) ∧ Tk w w' r) := Lib.hid (Tk.lift fun V _ => by have := plainDay_any r.end_ V; rwa [p2] at this)
  have K0 := Lib.hid (Tk.start her ht r 25)
  obtain ⟨hq, wy, wA, wB, hmin, hmax, wg, wg1, pos, big, hv, wt, wa, wb, yb, ob⟩ := N
  have yb0 := yb.1
  have yb1 := yb.2
  have ob0 := ob.1
  have ob1 := ob.2
  clear hr her ht c1 c2 c3 c4 yb ob p1 p2
  obtain ⟨std, dst, oo, dstOff, ⟨k1, m1, e1, d1, t1⟩, ⟨k2, m2, e2, d2, t2⟩⟩ := r
  simp only at *
  go_enter Tryd.func7, Tryd.ntmps7
  go_wp2_with (first
    | (go_at_call 13; refine (HR.out _ K0.out).mono ?_; clear HR; rintro e V1 ⟨rfl, hk⟩; have K1 := Lib.hid hk; clear hk; have a0 := K1.out.r.c0; have a1 := K1.out.r.c1; have a2 := K1.out.r.c2; have a3 := K1.out.r.c3; have a4 := K1.out.r.c4; have a5 := K1.out.r.c5; have a6 := K1.out.r.c6; have a7 := K1.out.r.c7; have a8 := K1.out.r.c8; have a9 := K1.out.r.c9; have a10 := K1.out.r.c10; have a11 := K1.out.r.c11; have a12 := K1.out.r.c12; have a13 := K1.out.r.c13)
    | (go_at_call 19; refine (HS1.out _ K1.out).mono ?_; clear HS1 a0 a1 a2 a3 a4 a5 a6 a7 a8 a9 a10 a11 a12 a13; rintro e V2 ⟨rfl, hk⟩; have K2 := Lib.hid hk; clear hk; have a0 := K2.out.r.c0; have a1 := K2.out.r.c1; have a2 := K2.out.r.c2; have a3 := K2.out.r.c3; have a4 := K2.out.r.c4; have a5 := K2.out.r.c5; have a6 := K2.out.r.c6; have a7 := K2.out.r.c7; have a8 := K2.out.r.c8; have a9 := K2.out.r.c9; have a10 := K2.out.r.c10; have a11 := K2.out.r.c11; have a12 := K2.out.r.c12; have a13 := K2.out.r.c13)
    | (go_at_call 19; refine (HS2.out _ K2.out).mono ?_; clear HS2 a0 a1 a2 a3 a4 a5 a6 a7 a8 a9 a10 a11 a12 a13; rintro e V3 ⟨rfl, hk⟩; have K3 := Lib.hid hk; clear hk; have a0 := K3.out.r.c0; have a1 := K3.out.r.c1; have a2 := K3.out.r.c2; have a3 := K3.out.r.c3; have a4 := K3.out.r.c4; have a5 := K3.out.r.c5; have a6 := K3.out.r.c6; have a7 := K3.out.r.c7; have a8 := K3.out.r.c8; have a9 := K3.out.r.c9; have a10 := K3.out.r.c10; have a11 := K3.out.r.c11; have a12 := K3.out.r.c12; have a13 := K3.out.r.c13)
    | (go_at_call 17; refine (HA1.out _ K3.out).mono ?_; clear HA1 a0 a1 a2 a3 a4 a5 a6 a7 a8 a9 a10 a11 a12 a13; rintro e V4 ⟨rfl, hk⟩; have K4 := Lib.hid hk; clear hk; have a0 := K4.out.r.c0; have a1 := K4.out.r.c1; have a2 := K4.out.r.c2; have a3 := K4.out.r.c3; have a4 := K4.out.r.c4; have a5 := K4.out.r.c5; have a6 := K4.out.r.c6; have a7 := K4.out.r.c7; have a8 := K4.out.r.c8; have a9 := K4.out.r.c9; have a10 := K4.out.r.c10; have a11 := K4.out.r.c11; have a12 := K4.out.r.c12; have a13 := K4.out.r.c13)
    | (go_at_call 17; refine (HA2.out _ K4.out).mono ?_; clear HA2 a0 a1 a2 a3 a4 a5 a6 a7 a8 a9 a10 a11 a12 a13; rintro e V5 ⟨rfl, hk⟩; have K5 := Lib.hid hk; clear hk; have a0 := K5.out.r.c0; have a1 := K5.out.r.c1; have a2 := K5.out.r.c2; have a3 := K5.out.r.c3; have a4 := K5.out.r.c4; have a5 := K5.out.r.c5; have a6 := K5.out.r.c6; have a7 := K5.out.r.c7; have a8 := K5.out.r.c8; have a9 := K5.out.r.c9; have a10 := K5.out.r.c10; have a11 := K5.out.r.c11; have a12 := K5.out.r.c12; have a13 := K5.out.r.c13)
    | (go_at_call 21; refine (HP1.out _ K5.out).mono ?_; clear HP1 a0 a1 a2 a3 a4 a5 a6 a7 a8 a9 a10 a11 a12 a13; rintro e V6 ⟨rfl, hk⟩; have K6 := Lib.hid hk; clear hk; have a0 := K6.out.r.c0; have a1 := K6.out.r.c1; have a2 := K6.out.r.c2; have a3 := K6.out.r.c3; have a4 := K6.out.r.c4; have a5 := K6.out.r.c5; have a6 := K6.out.r.c6; have a7 := K6.out.r.c7; have a8 := K6.out.r.c8; have a9 := K6.out.r.c9; have a10 := K6.out.r.c10; have a11 := K6.out.r.c11; have a12 := K6.out.r.c12; have a13 := K6.out.r.c13)
    | (go_at_call 21; refine (HP2.out _ K6.out).mono ?_; clear HP2 a0 a1 a2 a3 a4 a5 a6 a7 a8 a9 a10 a11 a12 a13; rintro e V7 ⟨rfl, hk⟩; have K7 := Lib.hid hk; clear hk; have a0 := K7.out.r.c0; have a1 := K7.out.r.c1; have a2 := K7.out.r.c2; have a3 := K7.out.r.c3; have a4 := K7.out.r.c4; have a5 := K7.out.r.c5; have a6 := K7.out.r.c6; have a7 := K7.out.r.c7; have a8 := K7.out.r.c8; have a9 := K7.out.r.c9; have a10 := K7.out.r.c10; have a11 := K7.out.r.c11; have a12 := K7.out.r.c12; have a13 := K7.out.r.c13)
    | (go_at_call 9; refine (HW.out _ K7.out).mono ?_; clear HW a0 a1 a2 a3 a4 a5 a6 a7 a8 a9 a10 a11 a12 a13; rintro e V8 ⟨rfl, hk⟩; have K8 := Lib.hid hk; clear hk)
    | fail)
  go_ret
  exact ⟨rfl, K8.out.b⟩
set_option maxHeartbeats 8000000 in
theorem turns_s2 (r : Rl) (yr off q y sA sB A B lo hi g g1 v t ta tb : Int) (N : Tn r yr off q y sA sB A B lo hi g g1 v t ta tb) (hr : rightR r = true) (hs : r.dst.toList.isEmpty = false) (p1 : plainB r.start = true) (p2 : plainB r.end_ = true) (p3 : ¬ (1728000 : Int) < g) (de : (r.dstOff != r.off) = false)
    (c1 : ∀ V, Cv.Tab V → Calls Tryd.prog 19 #[dyV r.start, .int .i64 y] V fun e w' => e = .returned (.tuple #[.int .i64 sA, .int .i64 0]) ∧ Below V.heap.size V w') (c2 : ∀ V, Cv.Tab V → Calls Tryd.prog 19 #[dyV r.end_, .int .i64 y] V fun e w' => e = .returned (.tuple #[.int .i64 sB, .int .i64 0]) ∧ Below V.heap.size V w')
    (c3 : ∀ V, Cv.Tab V → Calls Tryd.prog 17 #[rlV r, .int .i64 t] V fun e w' => e = .returned (.tuple #[.int .i64 r.dstOff, .bool true]) ∧ Below V.heap.size V w') (c4 : ∀ V, Cv.Tab V → Calls Tryd.prog 17 #[rlV r, .int .i64 tb] V fun e w' => e = .returned (.tuple #[.int .i64 r.dstOff, .bool true]) ∧ Below V.heap.size V w')
    (w : World) (her : Er w) (ht : Cv.Tab w) : Calls Tryd.prog 7 #[rlV r, .int .u16 yr, .int .u32 off] w fun e w' => e = .returned (.bool true) ∧ Below w.heap.size w w' := by
  have HR : Hid (∀ V, Tk w V r → Calls Tryd.prog 13 #[rlV r] V fun e w' => e = .returned (.bool true) ∧ Tk w w' r) := Lib.hid (Tk.lift fun V _ => by have := right_any r V; rwa [hr] at this)
  have HW : Hid (∀ V, Tk w V r → Calls Tryd.prog 9 #[] V fun e w' => e = .returned (.bool true) ∧ Tk w w' r) := Lib.hid (Tk.lift fun V hV => works_any V hV.e)
  have HS1 : Hid (∀ V, Tk w V r → Calls Tryd.prog 19 #[dyV r.start, .int .i64 y] V fun e w' => e = .returned (.tuple #[.int .i64 sA, .int .i64 0]) ∧ Tk w w' r) := Lib.hid (Tk.lift fun V hV => c1 V hV.t)
  have HS2 : Hid (∀ V, Tk w V r → Calls Tryd.prog 19 #[dyV r.end_, .int .i64 y] V fun e w' => e = .returned (.tuple #[.int .i64 sB, .int .i64 0]) ∧ Tk w w' r) := Lib.hid (Tk.lift fun V hV => c2 V hV.t)
  have HA1 : Hid (∀ V, Tk w V r → Calls Tryd.prog 17 #[rlV r, .int .i64 t] V fun e w' => e = .returned (.tuple #[.int .i64 r.dstOff, .bool true]) ∧ Tk w w' r) := Lib.hid (Tk.lift fun V hV => c3 V hV.t)
  have HA2 : Hid (∀ V, Tk w V r → Calls Tryd.prog 17 #[rlV r, .int .i64 tb] V fun e w' => e = .returned (.tuple #[.int .i64 r.dstOff, .bool true]) ∧ Tk w w' r) := Lib.hid (Tk.lift fun V hV => c4 V hV.t)
  have HP1 : Hid (∀ V, Tk w V r → Calls Tryd.prog 21 #[dyV r.start] V fun e w' => e = .returned (.bool true) ∧ Tk w w' r) := Lib.hid (Tk.lift fun V _ => by have := plainDay_any r.start V; rwa [p1] at this)
  have HP2 : Hid (∀ V, Tk w V r → Calls Tryd.prog 21 #[dyV r.end_] V fun e w' => e = .returned (.bool true) ∧ Tk w w' r) := Lib.hid (Tk.lift fun V _ => by have := plainDay_any r.end_ V; rwa [p2] at this)
  have Hp3 := Lib.hid p3
  have K0 := Lib.hid (Tk.start her ht r 25)
  obtain ⟨hq, wy, wA, wB, hmin, hmax, wg, wg1, pos, big, hv, wt, wa, wb, yb, ob⟩ := N
  have yb0 := yb.1
  have yb1 := yb.2
  have ob0 := ob.1
  have ob1 := ob.2
  clear hr her ht c1 c2 c3 c4 yb ob p1 p2 p3
  obtain ⟨std, dst, oo, dstOff, ⟨k1, m1, e1, d1, t1⟩, ⟨k2, m2, e2, d2, t2⟩⟩ := r
  simp only at *
  go_enter Tryd.func7, Tryd.ntmps7
  go_wp2_with (first
    | (go_at_call 13; refine (HR.out _ K0.out).mono ?_; clear HR; rintro e V1 ⟨rfl, hk⟩; have K1 := Lib.hid hk; clear hk; have a0 := K1.out.r.c0; have a1 := K1.out.r.c1; have a2 := K1.out.r.c2; have a3 := K1.out.r.c3; have a4 := K1.out.r.c4; have a5 := K1.out.r.c5; have a6 := K1.out.r.c6; have a7 := K1.out.r.c7; have a8 := K1.out.r.c8; have a9 := K1.out.r.c9; have a10 := K1.out.r.c10; have a11 := K1.out.r.c11; have a12 := K1.out.r.c12; have a13 := K1.out.r.c13)
    | (go_at_call 19; refine (HS1.out _ K1.out).mono ?_; clear HS1 a0 a1 a2 a3 a4 a5 a6 a7 a8 a9 a10 a11 a12 a13; rintro e V2 ⟨rfl, hk⟩; have K2 := Lib.hid hk; clear hk; have a0 := K2.out.r.c0; have a1 := K2.out.r.c1; have a2 := K2.out.r.c2; have a3 := K2.out.r.c3; have a4 := K2.out.r.c4; have a5 := K2.out.r.c5; have a6 := K2.out.r.c6; have a7 := K2.out.r.c7; have a8 := K2.out.r.c8; have a9 := K2.out.r.c9; have a10 := K2.out.r.c10; have a11 := K2.out.r.c11; have a12 := K2.out.r.c12; have a13 := K2.out.r.c13)
    | (go_at_call 19; refine (HS2.out _ K2.out).mono ?_; clear HS2 a0 a1 a2 a3 a4 a5 a6 a7 a8 a9 a10 a11 a12 a13; rintro e V3 ⟨rfl, hk⟩; have K3 := Lib.hid hk; clear hk; have a0 := K3.out.r.c0; have a1 := K3.out.r.c1; have a2 := K3.out.r.c2; have a3 := K3.out.r.c3; have a4 := K3.out.r.c4; have a5 := K3.out.r.c5; have a6 := K3.out.r.c6; have a7 := K3.out.r.c7; have a8 := K3.out.r.c8; have a9 := K3.out.r.c9; have a10 := K3.out.r.c10; have a11 := K3.out.r.c11; have a12 := K3.out.r.c12; have a13 := K3.out.r.c13)
    | (go_at_call 17; refine (HA1.out _ K3.out).mono ?_; clear HA1 a0 a1 a2 a3 a4 a5 a6 a7 a8 a9 a10 a11 a12 a13; rintro e V4 ⟨rfl, hk⟩; have K4 := Lib.hid hk; clear hk; have a0 := K4.out.r.c0; have a1 := K4.out.r.c1; have a2 := K4.out.r.c2; have a3 := K4.out.r.c3; have a4 := K4.out.r.c4; have a5 := K4.out.r.c5; have a6 := K4.out.r.c6; have a7 := K4.out.r.c7; have a8 := K4.out.r.c8; have a9 := K4.out.r.c9; have a10 := K4.out.r.c10; have a11 := K4.out.r.c11; have a12 := K4.out.r.c12; have a13 := K4.out.r.c13)
    | (go_at_call 17; refine (HA2.out _ K4.out).mono ?_; clear HA2 a0 a1 a2 a3 a4 a5 a6 a7 a8 a9 a10 a11 a12 a13; rintro e V5 ⟨rfl, hk⟩; have K5 := Lib.hid hk; clear hk; have a0 := K5.out.r.c0; have a1 := K5.out.r.c1; have a2 := K5.out.r.c2; have a3 := K5.out.r.c3; have a4 := K5.out.r.c4; have a5 := K5.out.r.c5; have a6 := K5.out.r.c6; have a7 := K5.out.r.c7; have a8 := K5.out.r.c8; have a9 := K5.out.r.c9; have a10 := K5.out.r.c10; have a11 := K5.out.r.c11; have a12 := K5.out.r.c12; have a13 := K5.out.r.c13)
    | (go_at_call 21; refine (HP1.out _ K5.out).mono ?_; clear HP1 a0 a1 a2 a3 a4 a5 a6 a7 a8 a9 a10 a11 a12 a13; rintro e V6 ⟨rfl, hk⟩; have K6 := Lib.hid hk; clear hk; have a0 := K6.out.r.c0; have a1 := K6.out.r.c1; have a2 := K6.out.r.c2; have a3 := K6.out.r.c3; have a4 := K6.out.r.c4; have a5 := K6.out.r.c5; have a6 := K6.out.r.c6; have a7 := K6.out.r.c7; have a8 := K6.out.r.c8; have a9 := K6.out.r.c9; have a10 := K6.out.r.c10; have a11 := K6.out.r.c11; have a12 := K6.out.r.c12; have a13 := K6.out.r.c13)
    | (go_at_call 21; refine (HP2.out _ K6.out).mono ?_; clear HP2 a0 a1 a2 a3 a4 a5 a6 a7 a8 a9 a10 a11 a12 a13; rintro e V7 ⟨rfl, hk⟩; have K7 := Lib.hid hk; clear hk; have a0 := K7.out.r.c0; have a1 := K7.out.r.c1; have a2 := K7.out.r.c2; have a3 := K7.out.r.c3; have a4 := K7.out.r.c4; have a5 := K7.out.r.c5; have a6 := K7.out.r.c6; have a7 := K7.out.r.c7; have a8 := K7.out.r.c8; have a9 := K7.out.r.c9; have a10 := K7.out.r.c10; have a11 := K7.out.r.c11; have a12 := K7.out.r.c12; have a13 := K7.out.r.c13; have p3 := Hp3.out)
    | (go_at_call 9; refine (HW.out _ K7.out).mono ?_; clear HW a0 a1 a2 a3 a4 a5 a6 a7 a8 a9 a10 a11 a12 a13; rintro e V8 ⟨rfl, hk⟩; have K8 := Lib.hid hk; clear hk)
    | fail)
  go_ret
  exact ⟨rfl, K8.out.b⟩
set_option maxHeartbeats 8000000 in
theorem turns_s3 (r : Rl) (yr off q y sA sB A B lo hi g g1 v t ta tb : Int) (N : Tn r yr off q y sA sB A B lo hi g g1 v t ta tb) (hr : rightR r = true) (hs : r.dst.toList.isEmpty = false) (p1 : plainB r.start = true) (p2 : plainB r.end_ = true) (p3 : (1728000 : Int) < g) (p4 : ¬ g < 29376000) (de : (r.dstOff != r.off) = false)
    (c1 : ∀ V, Cv.Tab V → Calls Tryd.prog 19 #[dyV r.start, .int .i64 y] V fun e w' => e = .returned (.tuple #[.int .i64 sA, .int .i64 0]) ∧ Below V.heap.size V w') (c2 : ∀ V, Cv.Tab V → Calls Tryd.prog 19 #[dyV r.end_, .int .i64 y] V fun e w' => e = .returned (.tuple #[.int .i64 sB, .int .i64 0]) ∧ Below V.heap.size V w')
    (c3 : ∀ V, Cv.Tab V → Calls Tryd.prog 17 #[rlV r, .int .i64 t] V fun e w' => e = .returned (.tuple #[.int .i64 r.dstOff, .bool true]) ∧ Below V.heap.size V w') (c4 : ∀ V, Cv.Tab V → Calls Tryd.prog 17 #[rlV r, .int .i64 tb] V fun e w' => e = .returned (.tuple #[.int .i64 r.dstOff, .bool true]) ∧ Below V.heap.size V w')
    (w : World) (her : Er w) (ht : Cv.Tab w) : Calls Tryd.prog 7 #[rlV r, .int .u16 yr, .int .u32 off] w fun e w' => e = .returned (.bool true) ∧ Below w.heap.size w w' := by
  have HR : Hid (∀ V, Tk w V r → Calls Tryd.prog 13 #[rlV r] V fun e w' => e = .returned (.bool true) ∧ Tk w w' r) := Lib.hid (Tk.lift fun V _ => by have := right_any r V; rwa [hr] at this)
  have HW : Hid (∀ V, Tk w V r → Calls Tryd.prog 9 #[] V fun e w' => e = .returned (.bool true) ∧ Tk w w' r) := Lib.hid (Tk.lift fun V hV => works_any V hV.e)
  have HS1 : Hid (∀ V, Tk w V r → Calls Tryd.prog 19 #[dyV r.start, .int .i64 y] V fun e w' => e = .returned (.tuple #[.int .i64 sA, .int .i64 0]) ∧ Tk w w' r) := Lib.hid (Tk.lift fun V hV => c1 V hV.t)
  have HS2 : Hid (∀ V, Tk w V r → Calls Tryd.prog 19 #[dyV r.end_, .int .i64 y] V fun e w' => e = .returned (.tuple #[.int .i64 sB, .int .i64 0]) ∧ Tk w w' r) := Lib.hid (Tk.lift fun V hV => c2 V hV.t)
  have HA1 : Hid (∀ V, Tk w V r → Calls Tryd.prog 17 #[rlV r, .int .i64 t] V fun e w' => e = .returned (.tuple #[.int .i64 r.dstOff, .bool true]) ∧ Tk w w' r) := Lib.hid (Tk.lift fun V hV => c3 V hV.t)
  have HA2 : Hid (∀ V, Tk w V r → Calls Tryd.prog 17 #[rlV r, .int .i64 tb] V fun e w' => e = .returned (.tuple #[.int .i64 r.dstOff, .bool true]) ∧ Tk w w' r) := Lib.hid (Tk.lift fun V hV => c4 V hV.t)
  have HP1 : Hid (∀ V, Tk w V r → Calls Tryd.prog 21 #[dyV r.start] V fun e w' => e = .returned (.bool true) ∧ Tk w w' r) := Lib.hid (Tk.lift fun V _ => by have := plainDay_any r.start V; rwa [p1] at this)
  have HP2 : Hid (∀ V, Tk w V r → Calls Tryd.prog 21 #[dyV r.end_] V fun e w' => e = .returned (.bool true) ∧ Tk w w' r) := Lib.hid (Tk.lift fun V _ => by have := plainDay_any r.end_ V; rwa [p2] at this)
  have Hp3 := Lib.hid p3
  have Hp4 := Lib.hid p4
  have K0 := Lib.hid (Tk.start her ht r 25)
  obtain ⟨hq, wy, wA, wB, hmin, hmax, wg, wg1, pos, big, hv, wt, wa, wb, yb, ob⟩ := N
  have yb0 := yb.1
  have yb1 := yb.2
  have ob0 := ob.1
  have ob1 := ob.2
  clear hr her ht c1 c2 c3 c4 yb ob p1 p2 p3 p4
  obtain ⟨std, dst, oo, dstOff, ⟨k1, m1, e1, d1, t1⟩, ⟨k2, m2, e2, d2, t2⟩⟩ := r
  simp only at *
  go_enter Tryd.func7, Tryd.ntmps7
  go_wp2_with (first
    | (go_at_call 13; refine (HR.out _ K0.out).mono ?_; clear HR; rintro e V1 ⟨rfl, hk⟩; have K1 := Lib.hid hk; clear hk; have a0 := K1.out.r.c0; have a1 := K1.out.r.c1; have a2 := K1.out.r.c2; have a3 := K1.out.r.c3; have a4 := K1.out.r.c4; have a5 := K1.out.r.c5; have a6 := K1.out.r.c6; have a7 := K1.out.r.c7; have a8 := K1.out.r.c8; have a9 := K1.out.r.c9; have a10 := K1.out.r.c10; have a11 := K1.out.r.c11; have a12 := K1.out.r.c12; have a13 := K1.out.r.c13)
    | (go_at_call 19; refine (HS1.out _ K1.out).mono ?_; clear HS1 a0 a1 a2 a3 a4 a5 a6 a7 a8 a9 a10 a11 a12 a13; rintro e V2 ⟨rfl, hk⟩; have K2 := Lib.hid hk; clear hk; have a0 := K2.out.r.c0; have a1 := K2.out.r.c1; have a2 := K2.out.r.c2; have a3 := K2.out.r.c3; have a4 := K2.out.r.c4; have a5 := K2.out.r.c5; have a6 := K2.out.r.c6; have a7 := K2.out.r.c7; have a8 := K2.out.r.c8; have a9 := K2.out.r.c9; have a10 := K2.out.r.c10; have a11 := K2.out.r.c11; have a12 := K2.out.r.c12; have a13 := K2.out.r.c13)
    | (go_at_call 19; refine (HS2.out _ K2.out).mono ?_; clear HS2 a0 a1 a2 a3 a4 a5 a6 a7 a8 a9 a10 a11 a12 a13; rintro e V3 ⟨rfl, hk⟩; have K3 := Lib.hid hk; clear hk; have a0 := K3.out.r.c0; have a1 := K3.out.r.c1; have a2 := K3.out.r.c2; have a3 := K3.out.r.c3; have a4 := K3.out.r.c4; have a5 := K3.out.r.c5; have a6 := K3.out.r.c6; have a7 := K3.out.r.c7; have a8 := K3.out.r.c8; have a9 := K3.out.r.c9; have a10 := K3.out.r.c10; have a11 := K3.out.r.c11; have a12 := K3.out.r.c12; have a13 := K3.out.r.c13)
    | (go_at_call 17; refine (HA1.out _ K3.out).mono ?_; clear HA1 a0 a1 a2 a3 a4 a5 a6 a7 a8 a9 a10 a11 a12 a13; rintro e V4 ⟨rfl, hk⟩; have K4 := Lib.hid hk; clear hk; have a0 := K4.out.r.c0; have a1 := K4.out.r.c1; have a2 := K4.out.r.c2; have a3 := K4.out.r.c3; have a4 := K4.out.r.c4; have a5 := K4.out.r.c5; have a6 := K4.out.r.c6; have a7 := K4.out.r.c7; have a8 := K4.out.r.c8; have a9 := K4.out.r.c9; have a10 := K4.out.r.c10; have a11 := K4.out.r.c11; have a12 := K4.out.r.c12; have a13 := K4.out.r.c13)
    | (go_at_call 17; refine (HA2.out _ K4.out).mono ?_; clear HA2 a0 a1 a2 a3 a4 a5 a6 a7 a8 a9 a10 a11 a12 a13; rintro e V5 ⟨rfl, hk⟩; have K5 := Lib.hid hk; clear hk; have a0 := K5.out.r.c0; have a1 := K5.out.r.c1; have a2 := K5.out.r.c2; have a3 := K5.out.r.c3; have a4 := K5.out.r.c4; have a5 := K5.out.r.c5; have a6 := K5.out.r.c6; have a7 := K5.out.r.c7; have a8 := K5.out.r.c8; have a9 := K5.out.r.c9; have a10 := K5.out.r.c10; have a11 := K5.out.r.c11; have a12 := K5.out.r.c12; have a13 := K5.out.r.c13)
    | (go_at_call 21; refine (HP1.out _ K5.out).mono ?_; clear HP1 a0 a1 a2 a3 a4 a5 a6 a7 a8 a9 a10 a11 a12 a13; rintro e V6 ⟨rfl, hk⟩; have K6 := Lib.hid hk; clear hk; have a0 := K6.out.r.c0; have a1 := K6.out.r.c1; have a2 := K6.out.r.c2; have a3 := K6.out.r.c3; have a4 := K6.out.r.c4; have a5 := K6.out.r.c5; have a6 := K6.out.r.c6; have a7 := K6.out.r.c7; have a8 := K6.out.r.c8; have a9 := K6.out.r.c9; have a10 := K6.out.r.c10; have a11 := K6.out.r.c11; have a12 := K6.out.r.c12; have a13 := K6.out.r.c13)
    | (go_at_call 21; refine (HP2.out _ K6.out).mono ?_; clear HP2 a0 a1 a2 a3 a4 a5 a6 a7 a8 a9 a10 a11 a12 a13; rintro e V7 ⟨rfl, hk⟩; have K7 := Lib.hid hk; clear hk; have a0 := K7.out.r.c0; have a1 := K7.out.r.c1; have a2 := K7.out.r.c2; have a3 := K7.out.r.c3; have a4 := K7.out.r.c4; have a5 := K7.out.r.c5; have a6 := K7.out.r.c6; have a7 := K7.out.r.c7; have a8 := K7.out.r.c8; have a9 := K7.out.r.c9; have a10 := K7.out.r.c10; have a11 := K7.out.r.c11; have a12 := K7.out.r.c12; have a13 := K7.out.r.c13; have p3 := Hp3.out; have p4 := Hp4.out)
    | (go_at_call 9; refine (HW.out _ K7.out).mono ?_; clear HW a0 a1 a2 a3 a4 a5 a6 a7 a8 a9 a10 a11 a12 a13; rintro e V8 ⟨rfl, hk⟩; have K8 := Lib.hid hk; clear hk)
    | fail)
  go_ret
  exact ⟨rfl, K8.out.b⟩
set_option maxHeartbeats 8000000 in
theorem turns_s4 (r : Rl) (yr off q y sA sB A B lo hi g g1 v t ta tb : Int) (N : Tn r yr off q y sA sB A B lo hi g g1 v t ta tb) (hr : rightR r = true) (hs : r.dst.toList.isEmpty = false) (p1 : plainB r.start = true) (p2 : plainB r.end_ = true) (p3 : (1728000 : Int) < g) (p4 : g < 29376000) (p5 : ¬ t < hi) (de : (r.dstOff != r.off) = false)
    (c1 : ∀ V, Cv.Tab V → Calls Tryd.prog 19 #[dyV r.start, .int .i64 y] V fun e w' => e = .returned (.tuple #[.int .i64 sA, .int .i64 0]) ∧ Below V.heap.size V w') (c2 : ∀ V, Cv.Tab V → Calls Tryd.prog 19 #[dyV r.end_, .int .i64 y] V fun e w' => e = .returned (.tuple #[.int .i64 sB, .int .i64 0]) ∧ Below V.heap.size V w')
    (c3 : ∀ V, Cv.Tab V → Calls Tryd.prog 17 #[rlV r, .int .i64 t] V fun e w' => e = .returned (.tuple #[.int .i64 r.dstOff, .bool true]) ∧ Below V.heap.size V w') (c4 : ∀ V, Cv.Tab V → Calls Tryd.prog 17 #[rlV r, .int .i64 tb] V fun e w' => e = .returned (.tuple #[.int .i64 r.dstOff, .bool true]) ∧ Below V.heap.size V w')
    (w : World) (her : Er w) (ht : Cv.Tab w) : Calls Tryd.prog 7 #[rlV r, .int .u16 yr, .int .u32 off] w fun e w' => e = .returned (.bool true) ∧ Below w.heap.size w w' := by
  have HR : Hid (∀ V, Tk w V r → Calls Tryd.prog 13 #[rlV r] V fun e w' => e = .returned (.bool true) ∧ Tk w w' r) := Lib.hid (Tk.lift fun V _ => by have := right_any r V; rwa [hr] at this)
  have HW : Hid (∀ V, Tk w V r → Calls Tryd.prog 9 #[] V fun e w' => e = .returned (.bool true) ∧ Tk w w' r) := Lib.hid (Tk.lift fun V hV => works_any V hV.e)
  have HS1 : Hid (∀ V, Tk w V r → Calls Tryd.prog 19 #[dyV r.start, .int .i64 y] V fun e w' => e = .returned (.tuple #[.int .i64 sA, .int .i64 0]) ∧ Tk w w' r) := Lib.hid (Tk.lift fun V hV => c1 V hV.t)
  have HS2 : Hid (∀ V, Tk w V r → Calls Tryd.prog 19 #[dyV r.end_, .int .i64 y] V fun e w' => e = .returned (.tuple #[.int .i64 sB, .int .i64 0]) ∧ Tk w w' r) := Lib.hid (Tk.lift fun V hV => c2 V hV.t)
  have HA1 : Hid (∀ V, Tk w V r → Calls Tryd.prog 17 #[rlV r, .int .i64 t] V fun e w' => e = .returned (.tuple #[.int .i64 r.dstOff, .bool true]) ∧ Tk w w' r) := Lib.hid (Tk.lift fun V hV => c3 V hV.t)
  have HA2 : Hid (∀ V, Tk w V r → Calls Tryd.prog 17 #[rlV r, .int .i64 tb] V fun e w' => e = .returned (.tuple #[.int .i64 r.dstOff, .bool true]) ∧ Tk w w' r) := Lib.hid (Tk.lift fun V hV => c4 V hV.t)
  have HP1 : Hid (∀ V, Tk w V r → Calls Tryd.prog 21 #[dyV r.start] V fun e w' => e = .returned (.bool true) ∧ Tk w w' r) := Lib.hid (Tk.lift fun V _ => by have := plainDay_any r.start V; rwa [p1] at this)
  have HP2 : Hid (∀ V, Tk w V r → Calls Tryd.prog 21 #[dyV r.end_] V fun e w' => e = .returned (.bool true) ∧ Tk w w' r) := Lib.hid (Tk.lift fun V _ => by have := plainDay_any r.end_ V; rwa [p2] at this)
  have Hp3 := Lib.hid p3
  have Hp4 := Lib.hid p4
  have Hp5 := Lib.hid p5
  have K0 := Lib.hid (Tk.start her ht r 25)
  obtain ⟨hq, wy, wA, wB, hmin, hmax, wg, wg1, pos, big, hv, wt, wa, wb, yb, ob⟩ := N
  have yb0 := yb.1
  have yb1 := yb.2
  have ob0 := ob.1
  have ob1 := ob.2
  clear hr her ht c1 c2 c3 c4 yb ob p1 p2 p3 p4 p5
  obtain ⟨std, dst, oo, dstOff, ⟨k1, m1, e1, d1, t1⟩, ⟨k2, m2, e2, d2, t2⟩⟩ := r
  simp only at *
  go_enter Tryd.func7, Tryd.ntmps7
  go_wp2_with (first
    | (go_at_call 13; refine (HR.out _ K0.out).mono ?_; clear HR; rintro e V1 ⟨rfl, hk⟩; have K1 := Lib.hid hk; clear hk; have a0 := K1.out.r.c0; have a1 := K1.out.r.c1; have a2 := K1.out.r.c2; have a3 := K1.out.r.c3; have a4 := K1.out.r.c4; have a5 := K1.out.r.c5; have a6 := K1.out.r.c6; have a7 := K1.out.r.c7; have a8 := K1.out.r.c8; have a9 := K1.out.r.c9; have a10 := K1.out.r.c10; have a11 := K1.out.r.c11; have a12 := K1.out.r.c12; have a13 := K1.out.r.c13)
    | (go_at_call 19; refine (HS1.out _ K1.out).mono ?_; clear HS1 a0 a1 a2 a3 a4 a5 a6 a7 a8 a9 a10 a11 a12 a13; rintro e V2 ⟨rfl, hk⟩; have K2 := Lib.hid hk; clear hk; have a0 := K2.out.r.c0; have a1 := K2.out.r.c1; have a2 := K2.out.r.c2; have a3 := K2.out.r.c3; have a4 := K2.out.r.c4; have a5 := K2.out.r.c5; have a6 := K2.out.r.c6; have a7 := K2.out.r.c7; have a8 := K2.out.r.c8; have a9 := K2.out.r.c9; have a10 := K2.out.r.c10; have a11 := K2.out.r.c11; have a12 := K2.out.r.c12; have a13 := K2.out.r.c13)
    | (go_at_call 19; refine (HS2.out _ K2.out).mono ?_; clear HS2 a0 a1 a2 a3 a4 a5 a6 a7 a8 a9 a10 a11 a12 a13; rintro e V3 ⟨rfl, hk⟩; have K3 := Lib.hid hk; clear hk; have a0 := K3.out.r.c0; have a1 := K3.out.r.c1; have a2 := K3.out.r.c2; have a3 := K3.out.r.c3; have a4 := K3.out.r.c4; have a5 := K3.out.r.c5; have a6 := K3.out.r.c6; have a7 := K3.out.r.c7; have a8 := K3.out.r.c8; have a9 := K3.out.r.c9; have a10 := K3.out.r.c10; have a11 := K3.out.r.c11; have a12 := K3.out.r.c12; have a13 := K3.out.r.c13)
    | (go_at_call 17; refine (HA1.out _ K3.out).mono ?_; clear HA1 a0 a1 a2 a3 a4 a5 a6 a7 a8 a9 a10 a11 a12 a13; rintro e V4 ⟨rfl, hk⟩; have K4 := Lib.hid hk; clear hk; have a0 := K4.out.r.c0; have a1 := K4.out.r.c1; have a2 := K4.out.r.c2; have a3 := K4.out.r.c3; have a4 := K4.out.r.c4; have a5 := K4.out.r.c5; have a6 := K4.out.r.c6; have a7 := K4.out.r.c7; have a8 := K4.out.r.c8; have a9 := K4.out.r.c9; have a10 := K4.out.r.c10; have a11 := K4.out.r.c11; have a12 := K4.out.r.c12; have a13 := K4.out.r.c13)
    | (go_at_call 17; refine (HA2.out _ K4.out).mono ?_; clear HA2 a0 a1 a2 a3 a4 a5 a6 a7 a8 a9 a10 a11 a12 a13; rintro e V5 ⟨rfl, hk⟩; have K5 := Lib.hid hk; clear hk; have a0 := K5.out.r.c0; have a1 := K5.out.r.c1; have a2 := K5.out.r.c2; have a3 := K5.out.r.c3; have a4 := K5.out.r.c4; have a5 := K5.out.r.c5; have a6 := K5.out.r.c6; have a7 := K5.out.r.c7; have a8 := K5.out.r.c8; have a9 := K5.out.r.c9; have a10 := K5.out.r.c10; have a11 := K5.out.r.c11; have a12 := K5.out.r.c12; have a13 := K5.out.r.c13)
    | (go_at_call 21; refine (HP1.out _ K5.out).mono ?_; clear HP1 a0 a1 a2 a3 a4 a5 a6 a7 a8 a9 a10 a11 a12 a13; rintro e V6 ⟨rfl, hk⟩; have K6 := Lib.hid hk; clear hk; have a0 := K6.out.r.c0; have a1 := K6.out.r.c1; have a2 := K6.out.r.c2; have a3 := K6.out.r.c3; have a4 := K6.out.r.c4; have a5 := K6.out.r.c5; have a6 := K6.out.r.c6; have a7 := K6.out.r.c7; have a8 := K6.out.r.c8; have a9 := K6.out.r.c9; have a10 := K6.out.r.c10; have a11 := K6.out.r.c11; have a12 := K6.out.r.c12; have a13 := K6.out.r.c13)
    | (go_at_call 21; refine (HP2.out _ K6.out).mono ?_; clear HP2 a0 a1 a2 a3 a4 a5 a6 a7 a8 a9 a10 a11 a12 a13; rintro e V7 ⟨rfl, hk⟩; have K7 := Lib.hid hk; clear hk; have a0 := K7.out.r.c0; have a1 := K7.out.r.c1; have a2 := K7.out.r.c2; have a3 := K7.out.r.c3; have a4 := K7.out.r.c4; have a5 := K7.out.r.c5; have a6 := K7.out.r.c6; have a7 := K7.out.r.c7; have a8 := K7.out.r.c8; have a9 := K7.out.r.c9; have a10 := K7.out.r.c10; have a11 := K7.out.r.c11; have a12 := K7.out.r.c12; have a13 := K7.out.r.c13; have p3 := Hp3.out; have p4 := Hp4.out; have p5 := Hp5.out)
    | (go_at_call 9; refine (HW.out _ K7.out).mono ?_; clear HW a0 a1 a2 a3 a4 a5 a6 a7 a8 a9 a10 a11 a12 a13; rintro e V8 ⟨rfl, hk⟩; have K8 := Lib.hid hk; clear hk)
    | fail)
  go_ret
  exact ⟨rfl, K8.out.b⟩
set_option maxHeartbeats 8000000 in
theorem turns_s5 (r : Rl) (yr off q y sA sB A B lo hi g g1 v t ta tb : Int) (N : Tn r yr off q y sA sB A B lo hi g g1 v t ta tb) (hr : rightR r = true) (hs : r.dst.toList.isEmpty = false) (p1 : plainB r.start = true) (p2 : plainB r.end_ = true) (p3 : (1728000 : Int) < g) (p4 : g < 29376000) (p5 : t < hi) (p6 : lo = A) (de : (r.dstOff != r.off) = false)
    (c1 : ∀ V, Cv.Tab V → Calls Tryd.prog 19 #[dyV r.start, .int .i64 y] V fun e w' => e = .returned (.tuple #[.int .i64 sA, .int .i64 0]) ∧ Below V.heap.size V w') (c2 : ∀ V, Cv.Tab V → Calls Tryd.prog 19 #[dyV r.end_, .int .i64 y] V fun e w' => e = .returned (.tuple #[.int .i64 sB, .int .i64 0]) ∧ Below V.heap.size V w')
    (c3 : ∀ V, Cv.Tab V → Calls Tryd.prog 17 #[rlV r, .int .i64 t] V fun e w' => e = .returned (.tuple #[.int .i64 r.dstOff, .bool true]) ∧ Below V.heap.size V w') (c4 : ∀ V, Cv.Tab V → Calls Tryd.prog 17 #[rlV r, .int .i64 tb] V fun e w' => e = .returned (.tuple #[.int .i64 r.dstOff, .bool true]) ∧ Below V.heap.size V w')
    (w : World) (her : Er w) (ht : Cv.Tab w) : Calls Tryd.prog 7 #[rlV r, .int .u16 yr, .int .u32 off] w fun e w' => e = .returned (.bool true) ∧ Below w.heap.size w w' := by
  have HR : Hid (∀ V, Tk w V r → Calls Tryd.prog 13 #[rlV r] V fun e w' => e = .returned (.bool true) ∧ Tk w w' r) := Lib.hid (Tk.lift fun V _ => by have := right_any r V; rwa [hr] at this)
  have HW : Hid (∀ V, Tk w V r → Calls Tryd.prog 9 #[] V fun e w' => e = .returned (.bool true) ∧ Tk w w' r) := Lib.hid (Tk.lift fun V hV => works_any V hV.e)
  have HS1 : Hid (∀ V, Tk w V r → Calls Tryd.prog 19 #[dyV r.start, .int .i64 y] V fun e w' => e = .returned (.tuple #[.int .i64 sA, .int .i64 0]) ∧ Tk w w' r) := Lib.hid (Tk.lift fun V hV => c1 V hV.t)
  have HS2 : Hid (∀ V, Tk w V r → Calls Tryd.prog 19 #[dyV r.end_, .int .i64 y] V fun e w' => e = .returned (.tuple #[.int .i64 sB, .int .i64 0]) ∧ Tk w w' r) := Lib.hid (Tk.lift fun V hV => c2 V hV.t)
  have HA1 : Hid (∀ V, Tk w V r → Calls Tryd.prog 17 #[rlV r, .int .i64 t] V fun e w' => e = .returned (.tuple #[.int .i64 r.dstOff, .bool true]) ∧ Tk w w' r) := Lib.hid (Tk.lift fun V hV => c3 V hV.t)
  have HA2 : Hid (∀ V, Tk w V r → Calls Tryd.prog 17 #[rlV r, .int .i64 tb] V fun e w' => e = .returned (.tuple #[.int .i64 r.dstOff, .bool true]) ∧ Tk w w' r) := Lib.hid (Tk.lift fun V hV => c4 V hV.t)
  have HP1 : Hid (∀ V, Tk w V r → Calls Tryd.prog 21 #[dyV r.start] V fun e w' => e = .returned (.bool true) ∧ Tk w w' r) := Lib.hid (Tk.lift fun V _ => by have := plainDay_any r.start V; rwa [p1] at this)
  have HP2 : Hid (∀ V, Tk w V r → Calls Tryd.prog 21 #[dyV r.end_] V fun e w' => e = .returned (.bool true) ∧ Tk w w' r) := Lib.hid (Tk.lift fun V _ => by have := plainDay_any r.end_ V; rwa [p2] at this)
  have Hp3 := Lib.hid p3
  have Hp4 := Lib.hid p4
  have Hp5 := Lib.hid p5
  have K0 := Lib.hid (Tk.start her ht r 25)
  obtain ⟨hq, wy, wA, wB, hmin, hmax, wg, wg1, pos, big, hv, wt, wa, wb, yb, ob⟩ := N
  have yb0 := yb.1
  have yb1 := yb.2
  have ob0 := ob.1
  have ob1 := ob.2
  clear hr her ht c1 c2 c3 c4 yb ob p1 p2 p3 p4 p5
  subst p6
  obtain ⟨std, dst, oo, dstOff, ⟨k1, m1, e1, d1, t1⟩, ⟨k2, m2, e2, d2, t2⟩⟩ := r
  simp only at *
  go_enter Tryd.func7, Tryd.ntmps7
  go_wp2_with (first
    | (go_at_call 13; refine (HR.out _ K0.out).mono ?_; clear HR; rintro e V1 ⟨rfl, hk⟩; have K1 := Lib.hid hk; clear hk; have a0 := K1.out.r.c0; have a1 := K1.out.r.c1; have a2 := K1.out.r.c2; have a3 := K1.out.r.c3; have a4 := K1.out.r.c4; have a5 := K1.out.r.c5; have a6 := K1.out.r.c6; have a7 := K1.out.r.c7; have a8 := K1.out.r.c8; have a9 := K1.out.r.c9; have a10 := K1.out.r.c10; have a11 := K1.out.r.c11; have a12 := K1.out.r.c12; have a13 := K1.out.r.c13)
    | (go_at_call 19; refine (HS1.out _ K1.out).mono ?_; clear HS1 a0 a1 a2 a3 a4 a5 a6 a7 a8 a9 a10 a11 a12 a13; rintro e V2 ⟨rfl, hk⟩; have K2 := Lib.hid hk; clear hk; have a0 := K2.out.r.c0; have a1 := K2.out.r.c1; have a2 := K2.out.r.c2; have a3 := K2.out.r.c3; have a4 := K2.out.r.c4; have a5 := K2.out.r.c5; have a6 := K2.out.r.c6; have a7 := K2.out.r.c7; have a8 := K2.out.r.c8; have a9 := K2.out.r.c9; have a10 := K2.out.r.c10; have a11 := K2.out.r.c11; have a12 := K2.out.r.c12; have a13 := K2.out.r.c13)
    | (go_at_call 19; refine (HS2.out _ K2.out).mono ?_; clear HS2 a0 a1 a2 a3 a4 a5 a6 a7 a8 a9 a10 a11 a12 a13; rintro e V3 ⟨rfl, hk⟩; have K3 := Lib.hid hk; clear hk; have a0 := K3.out.r.c0; have a1 := K3.out.r.c1; have a2 := K3.out.r.c2; have a3 := K3.out.r.c3; have a4 := K3.out.r.c4; have a5 := K3.out.r.c5; have a6 := K3.out.r.c6; have a7 := K3.out.r.c7; have a8 := K3.out.r.c8; have a9 := K3.out.r.c9; have a10 := K3.out.r.c10; have a11 := K3.out.r.c11; have a12 := K3.out.r.c12; have a13 := K3.out.r.c13)
    | (go_at_call 17; refine (HA1.out _ K3.out).mono ?_; clear HA1 a0 a1 a2 a3 a4 a5 a6 a7 a8 a9 a10 a11 a12 a13; rintro e V4 ⟨rfl, hk⟩; have K4 := Lib.hid hk; clear hk; have a0 := K4.out.r.c0; have a1 := K4.out.r.c1; have a2 := K4.out.r.c2; have a3 := K4.out.r.c3; have a4 := K4.out.r.c4; have a5 := K4.out.r.c5; have a6 := K4.out.r.c6; have a7 := K4.out.r.c7; have a8 := K4.out.r.c8; have a9 := K4.out.r.c9; have a10 := K4.out.r.c10; have a11 := K4.out.r.c11; have a12 := K4.out.r.c12; have a13 := K4.out.r.c13)
    | (go_at_call 17; refine (HA2.out _ K4.out).mono ?_; clear HA2 a0 a1 a2 a3 a4 a5 a6 a7 a8 a9 a10 a11 a12 a13; rintro e V5 ⟨rfl, hk⟩; have K5 := Lib.hid hk; clear hk; have a0 := K5.out.r.c0; have a1 := K5.out.r.c1; have a2 := K5.out.r.c2; have a3 := K5.out.r.c3; have a4 := K5.out.r.c4; have a5 := K5.out.r.c5; have a6 := K5.out.r.c6; have a7 := K5.out.r.c7; have a8 := K5.out.r.c8; have a9 := K5.out.r.c9; have a10 := K5.out.r.c10; have a11 := K5.out.r.c11; have a12 := K5.out.r.c12; have a13 := K5.out.r.c13)
    | (go_at_call 21; refine (HP1.out _ K5.out).mono ?_; clear HP1 a0 a1 a2 a3 a4 a5 a6 a7 a8 a9 a10 a11 a12 a13; rintro e V6 ⟨rfl, hk⟩; have K6 := Lib.hid hk; clear hk; have a0 := K6.out.r.c0; have a1 := K6.out.r.c1; have a2 := K6.out.r.c2; have a3 := K6.out.r.c3; have a4 := K6.out.r.c4; have a5 := K6.out.r.c5; have a6 := K6.out.r.c6; have a7 := K6.out.r.c7; have a8 := K6.out.r.c8; have a9 := K6.out.r.c9; have a10 := K6.out.r.c10; have a11 := K6.out.r.c11; have a12 := K6.out.r.c12; have a13 := K6.out.r.c13)
    | (go_at_call 21; refine (HP2.out _ K6.out).mono ?_; clear HP2 a0 a1 a2 a3 a4 a5 a6 a7 a8 a9 a10 a11 a12 a13; rintro e V7 ⟨rfl, hk⟩; have K7 := Lib.hid hk; clear hk; have a0 := K7.out.r.c0; have a1 := K7.out.r.c1; have a2 := K7.out.r.c2; have a3 := K7.out.r.c3; have a4 := K7.out.r.c4; have a5 := K7.out.r.c5; have a6 := K7.out.r.c6; have a7 := K7.out.r.c7; have a8 := K7.out.r.c8; have a9 := K7.out.r.c9; have a10 := K7.out.r.c10; have a11 := K7.out.r.c11; have a12 := K7.out.r.c12; have a13 := K7.out.r.c13; have p3 := Hp3.out; have p4 := Hp4.out; have p5 := Hp5.out)
    | (go_at_call 9; refine (HW.out _ K7.out).mono ?_; clear HW a0 a1 a2 a3 a4 a5 a6 a7 a8 a9 a10 a11 a12 a13; rintro e V8 ⟨rfl, hk⟩; have K8 := Lib.hid hk; clear hk)
    | fail)
  go_ret
  exact ⟨rfl, K8.out.b⟩
end Go.Proofs.YtkfhipkcnocokaaDoor.Fo
