/-
  Layer 7 (footer): which rules are right (written by gen_fo7u.py).
-/
import Derived.Test.YtkfhipkcnocokaaDoorFoRight
namespace Go.Proofs.YtkfhipkcnocokaaDoor.Fo
open Go.RowKit

/-- A rule that came in, in its own block. -/
structure Wk (w V : World) (r : Rl) : Prop where
  r : RlAt V w.heap.size r
  b : Below w.heap.size w V
theorem Wk.start (w : World) (r : Rl) (t : TypeId) : Wk w (w.alloc (.cells #[.string r.std, .string r.dst, .int .i64 r.off, .int .i64 r.dstOff, .int .u8 r.start.kind, .int .i64 r.start.month, .int .i64 r.start.week, .int .i64 r.start.day, .int .i64 r.start.time, .int .u8 r.end_.kind, .int .i64 r.end_.month, .int .i64 r.end_.week, .int .i64 r.end_.day, .int .i64 r.end_.time] t)) r :=
  ⟨RlAt.new w r t, (Below.refl _ _).alloc (Nat.le_refl _) _⟩
theorem Wk.step {w V V' : World} {r : Rl} (h : Wk w V r) (hb : Below V.heap.size V V') : Wk w V' r := ⟨h.r.below hb h.r.lt, h.b.trans (hb.mono h.b.size)⟩
set_option maxRecDepth 100000 in
set_option maxHeartbeats 800000 in
theorem right_a (r : Rl) (w : World) (h0 : nameB r.std.data.toList = false) : Calls Tryd.prog 13 #[rlV r] w fun e w' => e = .returned (.bool false) ∧ Below w.heap.size w w' := by
  have H0 : Hid (∀ V, Wk w V r → Calls Tryd.prog 28 #[.string r.std] V fun e w' => e = .returned (.bool false) ∧ Wk w w' r) := Lib.hid fun V hV => by have := rightName_any r.std.data.toList V; rw [bs_of, h0] at this; exact this.mono fun _ _ ⟨he, hb⟩ => ⟨he, hV.step hb⟩
  have K0 := Lib.hid (Wk.start w r 25)
  have q0 := K0.out.r.c0
  clear h0
  obtain ⟨std, dst, off, dstOff, ⟨k1, m1, e1, d1, t1⟩, ⟨k2, m2, e2, d2, t2⟩⟩ := r
  simp only at *
  go_enter Tryd.func13, Tryd.ntmps13
  go_wp2_with (first
    | (go_at_call 28; refine (H0.out _ K0.out).mono ?_; clear H0 q0; rintro e V0 ⟨rfl, hk⟩; have K1 := Lib.hid hk; clear hk)
    | fail)
  go_ret
  exact ⟨rfl, K1.out.b⟩
set_option maxRecDepth 100000 in
set_option maxHeartbeats 800000 in
theorem right_b (r : Rl) (w : World) (h0 : nameB r.std.data.toList = true) (h1 : offB r.off = false) : Calls Tryd.prog 13 #[rlV r] w fun e w' => e = .returned (.bool false) ∧ Below w.heap.size w w' := by
  have H0 : Hid (∀ V, Wk w V r → Calls Tryd.prog 28 #[.string r.std] V fun e w' => e = .returned (.bool true) ∧ Wk w w' r) := Lib.hid fun V hV => by have := rightName_any r.std.data.toList V; rw [bs_of, h0] at this; exact this.mono fun _ _ ⟨he, hb⟩ => ⟨he, hV.step hb⟩
  have H1 : Hid (∀ V, Wk w V r → Calls Tryd.prog 29 #[.int .i64 r.off] V fun e w' => e = .returned (.bool false) ∧ Wk w w' r) := Lib.hid fun V hV => by have := rightOff_any r.off V; rw [h1] at this; exact this.mono fun _ _ ⟨he, hb⟩ => ⟨he, hb ▸ hV⟩
  have K0 := Lib.hid (Wk.start w r 25)
  have q0 := K0.out.r.c0
  clear h0 h1
  obtain ⟨std, dst, off, dstOff, ⟨k1, m1, e1, d1, t1⟩, ⟨k2, m2, e2, d2, t2⟩⟩ := r
  simp only at *
  go_enter Tryd.func13, Tryd.ntmps13
  go_wp2_with (first
    | (go_at_call 28; refine (H0.out _ K0.out).mono ?_; clear H0 q0; rintro e V0 ⟨rfl, hk⟩; have K1 := Lib.hid hk; clear hk; have q2 := K1.out.r.c2)
    | (go_at_call 29; refine (H1.out _ K1.out).mono ?_; clear H1 q2; rintro e V1 ⟨rfl, hk⟩; have K2 := Lib.hid hk; clear hk)
    | fail)
  go_ret
  exact ⟨rfl, K2.out.b⟩
set_option maxRecDepth 100000 in
set_option maxHeartbeats 800000 in
theorem right_d1 (r : Rl) (w : World) (h0 : nameB r.std.data.toList = true) (h1 : offB r.off = true) (h2 : nameB r.dst.data.toList = false) (hs : r.dst.toList.isEmpty = false) : Calls Tryd.prog 13 #[rlV r] w fun e w' => e = .returned (.bool false) ∧ Below w.heap.size w w' := by
  have H0 : Hid (∀ V, Wk w V r → Calls Tryd.prog 28 #[.string r.std] V fun e w' => e = .returned (.bool true) ∧ Wk w w' r) := Lib.hid fun V hV => by have := rightName_any r.std.data.toList V; rw [bs_of, h0] at this; exact this.mono fun _ _ ⟨he, hb⟩ => ⟨he, hV.step hb⟩
  have H1 : Hid (∀ V, Wk w V r → Calls Tryd.prog 29 #[.int .i64 r.off] V fun e w' => e = .returned (.bool true) ∧ Wk w w' r) := Lib.hid fun V hV => by have := rightOff_any r.off V; rw [h1] at this; exact this.mono fun _ _ ⟨he, hb⟩ => ⟨he, hb ▸ hV⟩
  have H2 : Hid (∀ V, Wk w V r → Calls Tryd.prog 28 #[.string r.dst] V fun e w' => e = .returned (.bool false) ∧ Wk w w' r) := Lib.hid fun V hV => by have := rightName_any r.dst.data.toList V; rw [bs_of, h2] at this; exact this.mono fun _ _ ⟨he, hb⟩ => ⟨he, hV.step hb⟩
  have K0 := Lib.hid (Wk.start w r 25)
  have q0 := K0.out.r.c0
  clear h0 h1 h2
  obtain ⟨std, dst, off, dstOff, ⟨k1, m1, e1, d1, t1⟩, ⟨k2, m2, e2, d2, t2⟩⟩ := r
  simp only at *
  go_enter Tryd.func13, Tryd.ntmps13
  go_wp2_with (first
    | (go_at_call 28; refine (H0.out _ K0.out).mono ?_; clear H0 q0; rintro e V0 ⟨rfl, hk⟩; have K1 := Lib.hid hk; clear hk; have q2 := K1.out.r.c2)
    | (go_at_call 29; refine (H1.out _ K1.out).mono ?_; clear H1 q2; rintro e V1 ⟨rfl, hk⟩; have K2 := Lib.hid hk; clear hk; have q1 := K2.out.r.c1)
    | (go_at_call 28; refine (H2.out _ K2.out).mono ?_; clear H2 q1; rintro e V2 ⟨rfl, hk⟩; have K3 := Lib.hid hk; clear hk)
    | fail)
  go_ret
  exact ⟨rfl, K3.out.b⟩
set_option maxRecDepth 100000 in
set_option maxHeartbeats 800000 in
theorem right_d2 (r : Rl) (w : World) (h0 : nameB r.std.data.toList = true) (h1 : offB r.off = true) (h2 : nameB r.dst.data.toList = true) (h3 : offB r.dstOff = false) (hs : r.dst.toList.isEmpty = false) : Calls Tryd.prog 13 #[rlV r] w fun e w' => e = .returned (.bool false) ∧ Below w.heap.size w w' := by
  have H0 : Hid (∀ V, Wk w V r → Calls Tryd.prog 28 #[.string r.std] V fun e w' => e = .returned (.bool true) ∧ Wk w w' r) := Lib.hid fun V hV => by have := rightName_any r.std.data.toList V; rw [bs_of, h0] at this; exact this.mono fun _ _ ⟨he, hb⟩ => ⟨he, hV.step hb⟩
  have H1 : Hid (∀ V, Wk w V r → Calls Tryd.prog 29 #[.int .i64 r.off] V fun e w' => e = .returned (.bool true) ∧ Wk w w' r) := Lib.hid fun V hV => by have := rightOff_any r.off V; rw [h1] at this; exact this.mono fun _ _ ⟨he, hb⟩ => ⟨he, hb ▸ hV⟩
  have H2 : Hid (∀ V, Wk w V r → Calls Tryd.prog 28 #[.string r.dst] V fun e w' => e = .returned (.bool true) ∧ Wk w w' r) := Lib.hid fun V hV => by have := rightName_any r.dst.data.toList V; rw [bs_of, h2] at this; exact this.mono fun _ _ ⟨he, hb⟩ => ⟨he, hV.step hb⟩
  have H3 : Hid (∀ V, Wk w V r → Calls Tryd.prog 29 #[.int .i64 r.dstOff] V fun e w' => e = .returned (.bool false) ∧ Wk w w' r) := Lib.hid fun V hV => by have := rightOff_any r.dstOff V; rw [h3] at this; exact this.mono fun _ _ ⟨he, hb⟩ => ⟨he, hb ▸ hV⟩
  have K0 := Lib.hid (Wk.start w r 25)
  have q0 := K0.out.r.c0
  clear h0 h1 h2 h3
  obtain ⟨std, dst, off, dstOff, ⟨k1, m1, e1, d1, t1⟩, ⟨k2, m2, e2, d2, t2⟩⟩ := r
  simp only at *
  go_enter Tryd.func13, Tryd.ntmps13
  go_wp2_with (first
    | (go_at_call 28; refine (H0.out _ K0.out).mono ?_; clear H0 q0; rintro e V0 ⟨rfl, hk⟩; have K1 := Lib.hid hk; clear hk; have q2 := K1.out.r.c2)
    | (go_at_call 29; refine (H1.out _ K1.out).mono ?_; clear H1 q2; rintro e V1 ⟨rfl, hk⟩; have K2 := Lib.hid hk; clear hk; have q1 := K2.out.r.c1)
    | (go_at_call 28; refine (H2.out _ K2.out).mono ?_; clear H2 q1; rintro e V2 ⟨rfl, hk⟩; have K3 := Lib.hid hk; clear hk; have q3 := K3.out.r.c3)
    | (go_at_call 29; refine (H3.out _ K3.out).mono ?_; clear H3 q3; rintro e V3 ⟨rfl, hk⟩; have K4 := Lib.hid hk; clear hk)
    | fail)
  go_ret
  exact ⟨rfl, K4.out.b⟩
set_option maxRecDepth 100000 in
set_option maxHeartbeats 800000 in
theorem right_d3 (r : Rl) (w : World) (h0 : nameB r.std.data.toList = true) (h1 : offB r.off = true) (h2 : nameB r.dst.data.toList = true) (h3 : offB r.dstOff = true) (h4 : dayB r.start = false) (hs : r.dst.toList.isEmpty = false) : Calls Tryd.prog 13 #[rlV r] w fun e w' => e = .returned (.bool false) ∧ Below w.heap.size w w' := by
  have H0 : Hid (∀ V, Wk w V r → Calls Tryd.prog 28 #[.string r.std] V fun e w' => e = .returned (.bool true) ∧ Wk w w' r) := Lib.hid fun V hV => by have := rightName_any r.std.data.toList V; rw [bs_of, h0] at this; exact this.mono fun _ _ ⟨he, hb⟩ => ⟨he, hV.step hb⟩
  have H1 : Hid (∀ V, Wk w V r → Calls Tryd.prog 29 #[.int .i64 r.off] V fun e w' => e = .returned (.bool true) ∧ Wk w w' r) := Lib.hid fun V hV => by have := rightOff_any r.off V; rw [h1] at this; exact this.mono fun _ _ ⟨he, hb⟩ => ⟨he, hb ▸ hV⟩
  have H2 : Hid (∀ V, Wk w V r → Calls Tryd.prog 28 #[.string r.dst] V fun e w' => e = .returned (.bool true) ∧ Wk w w' r) := Lib.hid fun V hV => by have := rightName_any r.dst.data.toList V; rw [bs_of, h2] at this; exact this.mono fun _ _ ⟨he, hb⟩ => ⟨he, hV.step hb⟩
  have H3 : Hid (∀ V, Wk w V r → Calls Tryd.prog 29 #[.int .i64 r.dstOff] V fun e w' => e = .returned (.bool true) ∧ Wk w w' r) := Lib.hid fun V hV => by have := rightOff_any r.dstOff V; rw [h3] at this; exact this.mono fun _ _ ⟨he, hb⟩ => ⟨he, hb ▸ hV⟩
  have H4 : Hid (∀ V, Wk w V r → Calls Tryd.prog 30 #[dyV r.start] V fun e w' => e = .returned (.bool false) ∧ Wk w w' r) := Lib.hid fun V hV => by have := rightDay_any r.start V; rw [h4] at this; exact this.mono fun _ _ ⟨he, hb⟩ => ⟨he, hV.step hb⟩
  have K0 := Lib.hid (Wk.start w r 25)
  have q0 := K0.out.r.c0
  clear h0 h1 h2 h3 h4
  obtain ⟨std, dst, off, dstOff, ⟨k1, m1, e1, d1, t1⟩, ⟨k2, m2, e2, d2, t2⟩⟩ := r
  simp only at *
  go_enter Tryd.func13, Tryd.ntmps13
  go_wp2_with (first
    | (go_at_call 28; refine (H0.out _ K0.out).mono ?_; clear H0 q0; rintro e V0 ⟨rfl, hk⟩; have K1 := Lib.hid hk; clear hk; have q2 := K1.out.r.c2)
    | (go_at_call 29; refine (H1.out _ K1.out).mono ?_; clear H1 q2; rintro e V1 ⟨rfl, hk⟩; have K2 := Lib.hid hk; clear hk; have q1 := K2.out.r.c1)
    | (go_at_call 28; refine (H2.out _ K2.out).mono ?_; clear H2 q1; rintro e V2 ⟨rfl, hk⟩; have K3 := Lib.hid hk; clear hk; have q3 := K3.out.r.c3)
    | (go_at_call 29; refine (H3.out _ K3.out).mono ?_; clear H3 q3; rintro e V3 ⟨rfl, hk⟩; have K4 := Lib.hid hk; clear hk; have q4 := K4.out.r.c4; have q5 := K4.out.r.c5; have q6 := K4.out.r.c6; have q7 := K4.out.r.c7; have q8 := K4.out.r.c8)
    | (go_at_call 30; refine (H4.out _ K4.out).mono ?_; clear H4 q4 q5 q6 q7 q8; rintro e V4 ⟨rfl, hk⟩; have K5 := Lib.hid hk; clear hk)
    | fail)
  go_ret
  exact ⟨rfl, K5.out.b⟩
set_option maxRecDepth 100000 in
set_option maxHeartbeats 800000 in
theorem right_d4 (r : Rl) (c : Bool) (w : World) (h0 : nameB r.std.data.toList = true) (h1 : offB r.off = true) (h2 : nameB r.dst.data.toList = true) (h3 : offB r.dstOff = true) (h4 : dayB r.start = true) (h5 : dayB r.end_ = c) (hs : r.dst.toList.isEmpty = false) : Calls Tryd.prog 13 #[rlV r] w fun e w' => e = .returned (.bool c) ∧ Below w.heap.size w w' := by
  have H0 : Hid (∀ V, Wk w V r → Calls Tryd.prog 28 #[.string r.std] V fun e w' => e = .returned (.bool true) ∧ Wk w w' r) := Lib.hid fun V hV => by have := rightName_any r.std.data.toList V; rw [bs_of, h0] at this; exact this.mono fun _ _ ⟨he, hb⟩ => ⟨he, hV.step hb⟩
  have H1 : Hid (∀ V, Wk w V r → Calls Tryd.prog 29 #[.int .i64 r.off] V fun e w' => e = .returned (.bool true) ∧ Wk w w' r) := Lib.hid fun V hV => by have := rightOff_any r.off V; rw [h1] at this; exact this.mono fun _ _ ⟨he, hb⟩ => ⟨he, hb ▸ hV⟩
  have H2 : Hid (∀ V, Wk w V r → Calls Tryd.prog 28 #[.string r.dst] V fun e w' => e = .returned (.bool true) ∧ Wk w w' r) := Lib.hid fun V hV => by have := rightName_any r.dst.data.toList V; rw [bs_of, h2] at this; exact this.mono fun _ _ ⟨he, hb⟩ => ⟨he, hV.step hb⟩
  have H3 : Hid (∀ V, Wk w V r → Calls Tryd.prog 29 #[.int .i64 r.dstOff] V fun e w' => e = .returned (.bool true) ∧ Wk w w' r) := Lib.hid fun V hV => by have := rightOff_any r.dstOff V; rw [h3] at this; exact this.mono fun _ _ ⟨he, hb⟩ => ⟨he, hb ▸ hV⟩
  have H4 : Hid (∀ V, Wk w V r → Calls Tryd.prog 30 #[dyV r.start] V fun e w' => e = .returned (.bool true) ∧ Wk w w' r) := Lib.hid fun V hV => by have := rightDay_any r.start V; rw [h4] at this; exact this.mono fun _ _ ⟨he, hb⟩ => ⟨he, hV.step hb⟩
  have H5 : Hid (∀ V, Wk w V r → Calls Tryd.prog 30 #[dyV r.end_] V fun e w' => e = .returned (.bool c) ∧ Wk w w' r) := Lib.hid fun V hV => by have := rightDay_any r.end_ V; rw [h5] at this; exact this.mono fun _ _ ⟨he, hb⟩ => ⟨he, hV.step hb⟩
  have K0 := Lib.hid (Wk.start w r 25)
  have q0 := K0.out.r.c0
  clear h0 h1 h2 h3 h4 h5
  obtain ⟨std, dst, off, dstOff, ⟨k1, m1, e1, d1, t1⟩, ⟨k2, m2, e2, d2, t2⟩⟩ := r
  simp only at *
  go_enter Tryd.func13, Tryd.ntmps13
  go_wp2_with (first
    | (go_at_call 28; refine (H0.out _ K0.out).mono ?_; clear H0 q0; rintro e V0 ⟨rfl, hk⟩; have K1 := Lib.hid hk; clear hk; have q2 := K1.out.r.c2)
    | (go_at_call 29; refine (H1.out _ K1.out).mono ?_; clear H1 q2; rintro e V1 ⟨rfl, hk⟩; have K2 := Lib.hid hk; clear hk; have q1 := K2.out.r.c1)
    | (go_at_call 28; refine (H2.out _ K2.out).mono ?_; clear H2 q1; rintro e V2 ⟨rfl, hk⟩; have K3 := Lib.hid hk; clear hk; have q3 := K3.out.r.c3)
    | (go_at_call 29; refine (H3.out _ K3.out).mono ?_; clear H3 q3; rintro e V3 ⟨rfl, hk⟩; have K4 := Lib.hid hk; clear hk; have q4 := K4.out.r.c4; have q5 := K4.out.r.c5; have q6 := K4.out.r.c6; have q7 := K4.out.r.c7; have q8 := K4.out.r.c8)
    | (go_at_call 30; refine (H4.out _ K4.out).mono ?_; clear H4 q4 q5 q6 q7 q8; rintro e V4 ⟨rfl, hk⟩; have K5 := Lib.hid hk; clear hk; have q9 := K5.out.r.c9; have q10 := K5.out.r.c10; have q11 := K5.out.r.c11; have q12 := K5.out.r.c12; have q13 := K5.out.r.c13)
    | (go_at_call 30; refine (H5.out _ K5.out).mono ?_; clear H5 q9 q10 q11 q12 q13; rintro e V5 ⟨rfl, hk⟩; have K6 := Lib.hid hk; clear hk)
    | fail)
  go_ret
  exact ⟨rfl, K6.out.b⟩
set_option maxRecDepth 100000 in
set_option maxHeartbeats 800000 in
theorem right_c (r : Rl) (w : World) (h0 : nameB r.std.data.toList = true) (h1 : offB r.off = true) (hs : r.dst = ⟨#[]⟩) : Calls Tryd.prog 13 #[rlV r] w fun e w' => e = .returned (.bool (decide (r.dstOff = 0) && (dy0B r.start && dy0B r.end_))) ∧ Below w.heap.size w w' := by
  have H0 : Hid (∀ V, Wk w V r → Calls Tryd.prog 28 #[.string r.std] V fun e w' => e = .returned (.bool true) ∧ Wk w w' r) := Lib.hid fun V hV => by have := rightName_any r.std.data.toList V; rw [bs_of, h0] at this; exact this.mono fun _ _ ⟨he, hb⟩ => ⟨he, hV.step hb⟩
  have H1 : Hid (∀ V, Wk w V r → Calls Tryd.prog 29 #[.int .i64 r.off] V fun e w' => e = .returned (.bool true) ∧ Wk w w' r) := Lib.hid fun V hV => by have := rightOff_any r.off V; rw [h1] at this; exact this.mono fun _ _ ⟨he, hb⟩ => ⟨he, hb ▸ hV⟩
  have K0 := Lib.hid (Wk.start w r 25)
  have q0 := K0.out.r.c0
  clear h0 h1
  obtain ⟨std, dst, off, dstOff, ⟨k1, m1, e1, d1, t1⟩, ⟨k2, m2, e2, d2, t2⟩⟩ := r
  simp only at *
  subst hs
  go_enter Tryd.func13, Tryd.ntmps13
  go_wp2_with (first
    | (go_at_call 28; refine (H0.out _ K0.out).mono ?_; clear H0 q0; rintro e V0 ⟨rfl, hk⟩; have K1 := Lib.hid hk; clear hk; have q2 := K1.out.r.c2)
    | (go_at_call 29; refine (H1.out _ K1.out).mono ?_; clear H1 q2; rintro e V1 ⟨rfl, hk⟩; have K2 := Lib.hid hk; clear hk; have q0 := K2.out.r.c0; have q1 := K2.out.r.c1; have q2 := K2.out.r.c2; have q3 := K2.out.r.c3; have q4 := K2.out.r.c4; have q5 := K2.out.r.c5; have q6 := K2.out.r.c6; have q7 := K2.out.r.c7; have q8 := K2.out.r.c8; have q9 := K2.out.r.c9; have q10 := K2.out.r.c10; have q11 := K2.out.r.c11; have q12 := K2.out.r.c12; have q13 := K2.out.r.c13)
    | fail)
  all_goals (go_ret; refine ⟨?_, K2.out.b⟩; clear q0 q1 q2 q3 q4 q5 q6 q7 q8 q9 q10 q11 q12 q13; simp [dy0B, *]; done)
theorem right_any (r : Rl) (w : World) : Calls Tryd.prog 13 #[rlV r] w fun e w' => e = .returned (.bool (rightR r)) ∧ Below w.heap.size w w' := by
  unfold rightR
  cases h0 : nameB r.std.data.toList with
  | false => exact right_a r w h0
  | true =>
    cases h1 : offB r.off with
    | false => exact right_b r w h0 h1
    | true =>
      by_cases hs : r.dst.size = 0
      · rw [if_pos hs]
        exact right_c r w h0 h1 (size_zero hs)
      · rw [if_neg hs]
        have hn := ne_empty hs
        cases h2 : nameB r.dst.data.toList with
        | false => exact right_d1 r w h0 h1 h2 hn
        | true =>
          cases h3 : offB r.dstOff with
          | false => exact right_d2 r w h0 h1 h2 h3 hn
          | true =>
            cases h4 : dayB r.start with
            | false => exact right_d3 r w h0 h1 h2 h3 h4 hn
            | true => exact right_d4 r _ w h0 h1 h2 h3 h4 rfl hn
end Go.Proofs.YtkfhipkcnocokaaDoor.Fo
