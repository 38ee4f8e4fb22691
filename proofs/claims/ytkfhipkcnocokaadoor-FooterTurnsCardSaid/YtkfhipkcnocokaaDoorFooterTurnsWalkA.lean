/-
  Layer 7 (footer): the law FooterTurns: the short ways (ways by gen_fo7n.py).
-/
import Derived.Test.YtkfhipkcnocokaaDoorFoSummer
import Derived.Test.YtkfhipkcnocokaaDoorFoWorks
namespace Go.Proofs.YtkfhipkcnocokaaDoor.Fo
open Go.RowKit
set_option maxRecDepth 100000

/-- What FooterTurns keeps. -/
structure Tk (w V : World) (r : Rl) : Prop where
  r : RlAt V w.heap.size r
  b : Below w.heap.size w V
  e : Er V
  t : Cv.Tab V
theorem Tk.keep {w V V' : World} {r : Rl} (h : Tk w V r) (hb : Below V.heap.size V V') : Tk w V' r := ⟨h.r.below hb h.r.lt, h.b.trans (hb.mono h.b.size), h.e.below hb h.e.hi, tab_keep h.t hb⟩
theorem Tk.start {w : World} (he : Er w) (ht : Cv.Tab w) (r : Rl) (ty : TypeId) : Tk w (w.alloc (.cells #[.string r.std, .string r.dst, .int .i64 r.off, .int .i64 r.dstOff, .int .u8 r.start.kind, .int .i64 r.start.month, .int .i64 r.start.week, .int .i64 r.start.day, .int .i64 r.start.time, .int .u8 r.end_.kind, .int .i64 r.end_.month, .int .i64 r.end_.week, .int .i64 r.end_.day, .int .i64 r.end_.time] ty)) r :=
  have hb := (Below.refl w.heap.size w).alloc (Nat.le_refl _) (.cells #[.string r.std, .string r.dst, .int .i64 r.off, .int .i64 r.dstOff, .int .u8 r.start.kind, .int .i64 r.start.month, .int .i64 r.start.week, .int .i64 r.start.day, .int .i64 r.start.time, .int .u8 r.end_.kind, .int .i64 r.end_.month, .int .i64 r.end_.week, .int .i64 r.end_.day, .int .i64 r.end_.time] ty)
  ⟨RlAt.new w r ty, hb, he.below hb he.hi, tab_keep ht hb⟩
theorem Tk.lift {w : World} {r : Rl} {P : Program} {f : FuncId} {args : Array Value} {v : Ending} (h : ∀ V, Tk w V r → Calls P f args V fun e w' => e = v ∧ Below V.heap.size V w') : ∀ V, Tk w V r → Calls P f args V fun e w' => e = v ∧ Tk w w' r :=
  fun V hV => (h V hV).mono fun _ _ ⟨he, hb⟩ => ⟨he, hV.keep hb⟩
set_option maxHeartbeats 400000 in
theorem plainDay_0 (d : Dy) (w : World)  (h0 : decide ((0 : Int) ≤ d.time) = false) : Calls Tryd.prog 21 #[dyV d] w fun e w' => e = .returned (.bool false) ∧ Below w.heap.size w w' := by
  obtain ⟨kind, month, week, day, time⟩ := d
  simp only at *
  go_enter Tryd.func21, Tryd.ntmps21
  go_wp2
  go_ret
  exact ⟨rfl, (Below.refl _ _).alloc (Nat.le_refl _) _⟩
set_option maxHeartbeats 400000 in
theorem plainDay_1 (d : Dy) (w : World) (h0 : decide ((0 : Int) ≤ d.time) = true) (h1 : decide (d.time < 86400) = false) : Calls Tryd.prog 21 #[dyV d] w fun e w' => e = .returned (.bool false) ∧ Below w.heap.size w w' := by
  obtain ⟨kind, month, week, day, time⟩ := d
  simp only at *
  go_enter Tryd.func21, Tryd.ntmps21
  go_wp2
  go_ret
  exact ⟨rfl, (Below.refl _ _).alloc (Nat.le_refl _) _⟩
set_option maxHeartbeats 400000 in
theorem plainDay_2 (d : Dy) (w : World) (h0 : decide ((0 : Int) ≤ d.time) = true) (h1 : decide (d.time < 86400) = true) (h2 : decide (d.kind = 3) = false) : Calls Tryd.prog 21 #[dyV d] w fun e w' => e = .returned (.bool false) ∧ Below w.heap.size w w' := by
  have j2 : (d.kind == 3) = false := h2
  obtain ⟨kind, month, week, day, time⟩ := d
  simp only at *
  go_enter Tryd.func21, Tryd.ntmps21
  go_wp2
  go_ret
  exact ⟨rfl, (Below.refl _ _).alloc (Nat.le_refl _) _⟩
set_option maxHeartbeats 400000 in
theorem plainDay_3 (d : Dy) (w : World) (h0 : decide ((0 : Int) ≤ d.time) = true) (h1 : decide (d.time < 86400) = true) (h2 : decide (d.kind = 3) = true) (h3 : decide ((1 : Int) < d.month) = false) : Calls Tryd.prog 21 #[dyV d] w fun e w' => e = .returned (.bool false) ∧ Below w.heap.size w w' := by
  have j2 : (d.kind == 3) = true := h2
  obtain ⟨kind, month, week, day, time⟩ := d
  simp only at *
  go_enter Tryd.func21, Tryd.ntmps21
  go_wp2
  go_ret
  exact ⟨rfl, (Below.refl _ _).alloc (Nat.le_refl _) _⟩
set_option maxHeartbeats 400000 in
theorem plainDay_4 (d : Dy) (c : Bool) (w : World) (h0 : decide ((0 : Int) ≤ d.time) = true) (h1 : decide (d.time < 86400) = true) (h2 : decide (d.kind = 3) = true) (h3 : decide ((1 : Int) < d.month) = true) (h4 : decide (d.month < 12) = c) : Calls Tryd.prog 21 #[dyV d] w fun e w' => e = .returned (.bool c) ∧ Below w.heap.size w w' := by
  have j2 : (d.kind == 3) = true := h2
  obtain ⟨kind, month, week, day, time⟩ := d
  simp only at *
  subst h4
  go_enter Tryd.func21, Tryd.ntmps21
  go_wp2
  go_ret
  exact ⟨rfl, (Below.refl _ _).alloc (Nat.le_refl _) _⟩
theorem plainDay_any (d : Dy) (w : World) : Calls Tryd.prog 21 #[dyV d] w fun e w' => e = .returned (.bool (plainB d)) ∧ Below w.heap.size w w' := by
  unfold plainB
  cases h0 : decide ((0 : Int) ≤ d.time) with
  | false => exact plainDay_0 d w h0
  | true =>
    cases h1 : decide (d.time < 86400) with
    | false => exact plainDay_1 d w h0 h1
    | true =>
      cases h2 : decide (d.kind = 3) with
      | false => exact plainDay_2 d w h0 h1 h2
      | true =>
        cases h3 : decide ((1 : Int) < d.month) with
        | false => exact plainDay_3 d w h0 h1 h2 h3
        | true => exact plainDay_4 d _ w h0 h1 h2 h3 rfl
set_option maxHeartbeats 1600000 in
theorem turns_no (r : Rl) (yr off : Int) (hr : rightR r = false) (w : World) (her : Er w) (ht : Cv.Tab w) : Calls Tryd.prog 7 #[rlV r, .int .u16 yr, .int .u32 off] w fun e w' => e = .returned (.bool true) ∧ Below w.heap.size w w' := by
  have HR : Hid (∀ V, Tk w V r → Calls Tryd.prog 13 #[rlV r] V fun e w' => e = .returned (.bool false) ∧ Tk w w' r) := Lib.hid (Tk.lift fun V _ => by have := right_any r V; rwa [hr] at this)
  have HW : Hid (∀ V, Tk w V r → Calls Tryd.prog 9 #[] V fun e w' => e = .returned (.bool true) ∧ Tk w w' r) := Lib.hid (Tk.lift fun V hV => works_any V hV.e)
  have K0 := Lib.hid (Tk.start her ht r 25)
  clear hr her ht
  obtain ⟨std, dst, oo, dstOff, ⟨k1, m1, e1, d1, t1⟩, ⟨k2, m2, e2, d2, t2⟩⟩ := r
  simp only at *
  go_enter Tryd.func7, Tryd.ntmps7
  go_wp2_with (first
    | (go_at_call 13; refine (HR.out _ K0.out).mono ?_; clear HR; rintro e V0 ⟨rfl, hk⟩; have K1 := Lib.hid hk; clear hk)
    | (go_at_call 9; refine (HW.out _ K1.out).mono ?_; clear HW; rintro e V1 ⟨rfl, hk⟩; have K2 := Lib.hid hk; clear hk)
    | fail)
  go_ret
  exact ⟨rfl, K2.out.b⟩
set_option maxHeartbeats 1600000 in
theorem turns_std (r : Rl) (yr off : Int) (hr : rightR r = true) (hs : r.dst.toList.isEmpty = true) (w : World) (her : Er w) (ht : Cv.Tab w) : Calls Tryd.prog 7 #[rlV r, .int .u16 yr, .int .u32 off] w fun e w' => e = .returned (.bool true) ∧ Below w.heap.size w w' := by
  have HR : Hid (∀ V, Tk w V r → Calls Tryd.prog 13 #[rlV r] V fun e w' => e = .returned (.bool true) ∧ Tk w w' r) := Lib.hid (Tk.lift fun V _ => by have := right_any r V; rwa [hr] at this)
  have HW : Hid (∀ V, Tk w V r → Calls Tryd.prog 9 #[] V fun e w' => e = .returned (.bool true) ∧ Tk w w' r) := Lib.hid (Tk.lift fun V hV => works_any V hV.e)
  have K0 := Lib.hid (Tk.start her ht r 25)
  clear hr her ht
  obtain ⟨std, dst, oo, dstOff, ⟨k1, m1, e1, d1, t1⟩, ⟨k2, m2, e2, d2, t2⟩⟩ := r
  simp only at *
  go_enter Tryd.func7, Tryd.ntmps7
  go_wp2_with (first
    | (go_at_call 13; refine (HR.out _ K0.out).mono ?_; clear HR; rintro e V0 ⟨rfl, hk⟩; have K1 := Lib.hid hk; clear hk; have a1 := K1.out.r.c1)
    | (go_at_call 9; refine (HW.out _ K1.out).mono ?_; clear HW; rintro e V1 ⟨rfl, hk⟩; have K2 := Lib.hid hk; clear hk)
    | fail)
  go_ret
  exact ⟨rfl, K2.out.b⟩
/-- What the numbers of a walk are. -/
structure Tn (r : Rl) (yr off q y sA sB A B lo hi g g1 v t ta tb : Int) : Prop where
  hq : yr.tmod 2300 = q
  wy : wrap64 (1700 + q) = y
  wA : wrap64 (sA - r.off) = A
  wB : wrap64 (sB - r.dstOff) = B
  hmin : min A B = lo
  hmax : max A B = hi
  wg : wrap64 (hi - lo) = g
  wg1 : wrap64 (g + 1) = g1
  pos : 0 < g1
  big : g1 ≤ 1000000000000
  hv : off.tmod g1 = v
  wt : wrap64 (lo + v) = t
  wa : wrap64 (t + 12614400000) = ta
  wb : wrap64 (ta + 8380800) = tb
  yb : 0 ≤ yr ∧ yr ≤ 65535
  ob : 0 ≤ off ∧ off ≤ 4294967295
end Go.Proofs.YtkfhipkcnocokaaDoor.Fo
