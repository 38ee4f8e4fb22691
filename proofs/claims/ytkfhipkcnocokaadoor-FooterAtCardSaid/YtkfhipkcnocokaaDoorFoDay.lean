/-
  Layer 7 (footer): the program's reader: a day (written by gen_fo7d.py).
-/
import Derived.Test.YtkfhipkcnocokaaDoorFoName
namespace Go.Proofs.YtkfhipkcnocokaaDoor.Fo
open Go.RowKit

/-- A day in block B. -/
structure DyAt (V : World) (B : Nat) (d : Dy) : Prop where
  c0 : V.cell? ⟨B, 0, none⟩ = some (.int .u8 d.kind)
  c1 : V.cell? ⟨B, 1, none⟩ = some (.int .i64 d.month)
  c2 : V.cell? ⟨B, 2, none⟩ = some (.int .i64 d.week)
  c3 : V.cell? ⟨B, 3, none⟩ = some (.int .i64 d.day)
  c4 : V.cell? ⟨B, 4, none⟩ = some (.int .i64 d.time)
  fr : ∀ i, V.frozen? ⟨B, i, none⟩ = false
abbrev dyV (d : Dy) : Value := .agg #[.int .u8 d.kind, .int .i64 d.month, .int .i64 d.week, .int .i64 d.day, .int .i64 d.time]
section
variable {w V : World} {B G g : Nat} {d : Dy}
theorem DyAt.lt (h : DyAt w B d) : B < w.heap.size := cell_lt h.c0
theorem DyAt.below (h : DyAt w B d) (hb : Below G w V) (hg : B < G) : DyAt V B d :=
  ⟨cells_at B hb hg h.c0, cells_at B hb hg h.c1, cells_at B hb hg h.c2, cells_at B hb hg h.c3, cells_at B hb hg h.c4, fun i => (hb.frozen (p := ⟨B, i, none⟩) hg).trans (h.fr i)⟩
theorem DyAt.gb (h : DyAt w B d) (hb : w.grownBy V (some G)) (hn : B ≠ G) : DyAt V B d :=
  ⟨gb_cell hb h.lt hn h.c0, gb_cell hb h.lt hn h.c1, gb_cell hb h.lt hn h.c2, gb_cell hb h.lt hn h.c3, gb_cell hb h.lt hn h.c4, fun i => (gb_frozen hb h.lt hn).trans (h.fr i)⟩
theorem alloc_loose (W : World) (C : Array Value) (t : TypeId) (i : Nat) : (W.alloc (.cells C t)).frozen? ⟨W.heap.size, i, none⟩ = false :=
  Go.frozen_of_row _ _ i _ _ (by have := heap_alloc_new W (.cells C t); simpa using this)
theorem DyAt.new (W : World) (d : Dy) (t : TypeId) : DyAt (W.alloc (.cells #[.int .u8 d.kind, .int .i64 d.month, .int .i64 d.week, .int .i64 d.day, .int .i64 d.time] t)) W.heap.size d :=
  ⟨cell_new W _ t _ 0 _ rfl rfl, cell_new W _ t _ 1 _ rfl rfl, cell_new W _ t _ 2 _ rfl rfl, cell_new W _ t _ 3 _ rfl rfl, cell_new W _ t _ 4 _ rfl rfl, fun i => alloc_loose W _ t i⟩
theorem DyAt.set0 (h : DyAt w B d) (n : Int) : DyAt (w.setCell ⟨B, 0, none⟩ (.int .u8 n)) B { d with kind := n } :=
  ⟨World.cell?_setCell_same _ _ _ h.c0, (set_other (by decide)).trans h.c1, (set_other (by decide)).trans h.c2, (set_other (by decide)).trans h.c3, (set_other (by decide)).trans h.c4, fun i => by rw [World.frozen?_setCell]; exact h.fr i⟩
theorem DyAt.set1 (h : DyAt w B d) (n : Int) : DyAt (w.setCell ⟨B, 1, none⟩ (.int .i64 n)) B { d with month := n } :=
  ⟨(set_other (by decide)).trans h.c0, World.cell?_setCell_same _ _ _ h.c1, (set_other (by decide)).trans h.c2, (set_other (by decide)).trans h.c3, (set_other (by decide)).trans h.c4, fun i => by rw [World.frozen?_setCell]; exact h.fr i⟩
theorem DyAt.set2 (h : DyAt w B d) (n : Int) : DyAt (w.setCell ⟨B, 2, none⟩ (.int .i64 n)) B { d with week := n } :=
  ⟨(set_other (by decide)).trans h.c0, (set_other (by decide)).trans h.c1, World.cell?_setCell_same _ _ _ h.c2, (set_other (by decide)).trans h.c3, (set_other (by decide)).trans h.c4, fun i => by rw [World.frozen?_setCell]; exact h.fr i⟩
theorem DyAt.set3 (h : DyAt w B d) (n : Int) : DyAt (w.setCell ⟨B, 3, none⟩ (.int .i64 n)) B { d with day := n } :=
  ⟨(set_other (by decide)).trans h.c0, (set_other (by decide)).trans h.c1, (set_other (by decide)).trans h.c2, World.cell?_setCell_same _ _ _ h.c3, (set_other (by decide)).trans h.c4, fun i => by rw [World.frozen?_setCell]; exact h.fr i⟩
theorem DyAt.set4 (h : DyAt w B d) (n : Int) : DyAt (w.setCell ⟨B, 4, none⟩ (.int .i64 n)) B { d with time := n } :=
  ⟨(set_other (by decide)).trans h.c0, (set_other (by decide)).trans h.c1, (set_other (by decide)).trans h.c2, (set_other (by decide)).trans h.c3, World.cell?_setCell_same _ _ _ h.c4, fun i => by rw [World.frozen?_setCell]; exact h.fr i⟩
end
theorem Rk.other {w0 w : World} {g B : Nat} {s : St} (h : Rk w0 w g s) (hB : w0.heap.size ≤ B) (hg : g < B) (i : Nat) (u : Value) : Rk w0 (w.setCell ⟨B, i, none⟩ u) g s :=
  ⟨h.rd.gb (grown_set w B i u) (by omega), gb_below h.gb ((Below.refl w0.heap.size w).setCell hB u), h.er.below ((Below.refl g w).setCell (show g ≤ B by omega) u) h.lo, h.lo, h.sz⟩
/-- What the reading of a day keeps: d is being read, in block B + 1; the result stands in block B. -/
structure Dk (w0 : World) (B : Nat) (V : World) (g : Nat) (s : St) (d : Dy) : Prop where
  rk : Rk w0 V g s
  d : DyAt V (B + 1) d
  r : DyAt V B dy0
  ne : g < B
  le : w0.heap.size ≤ B
section
variable {w0 V : World} {B g : Nat} {s s' : St} {d : Dy}
theorem Dk.lift {P : Program} {F : FuncId} {args : Array Value} {val : Ending} (hc : ∀ V, Rk V V g s → Calls P F args V fun e w' => e = val ∧ Rk V w' g s') (V : World) (h : Dk w0 B V g s d) : Calls P F args V fun e w' => e = val ∧ Dk w0 B w' g s' d :=
  (hc V ⟨h.rk.rd, World.grownBy.refl _ _, h.rk.er, h.rk.lo, h.rk.sz⟩).mono fun e w' ⟨he, hk⟩ =>
    ⟨he, ⟨hk.rd, h.rk.gb.trans hk.gb, hk.er, hk.lo, hk.sz⟩, h.d.gb hk.gb (by have := h.ne; omega), h.r.gb hk.gb (by have := h.ne; omega), h.ne, h.le⟩
theorem Dk.start {w0 w : World} (h : Rk w0 w g s) (hg : w0.heap.size ≤ w.heap.size) (t t2 : TypeId) :
    Dk w0 w.heap.size ((w.alloc (.cells #[.int .u8 0, .int .i64 0, .int .i64 0, .int .i64 0, .int .i64 0] t)).alloc (.cells #[.int .u8 2, .int .i64 0, .int .i64 0, .int .i64 0, .int .i64 7200] t2)) g s ⟨2, 0, 0, 0, 7200⟩ := by
  have s1 : (w.alloc (.cells #[.int .u8 0, .int .i64 0, .int .i64 0, .int .i64 0, .int .i64 0] t)).heap.size = w.heap.size + 1 := by simp
  refine ⟨(h.alloc _).alloc _, ?_, ?_, h.rd.lt, hg⟩
  · have := DyAt.new (w.alloc (.cells #[.int .u8 0, .int .i64 0, .int .i64 0, .int .i64 0, .int .i64 0] t)) ⟨2, 0, 0, 0, 7200⟩ t2
    rwa [s1] at this
  · exact (DyAt.new w dy0 t).below ((Below.refl (w.heap.size + 1) _).alloc (by simp) _) (Nat.lt_succ_self _)
theorem Dk.set0 (h : Dk w0 B V g s d) (n : Int) : Dk w0 B (V.setCell ⟨B + 1, 0, none⟩ (.int .u8 n)) g s { d with kind := n } :=
  ⟨h.rk.other (by have := h.le; omega) (by have := h.ne; omega) 0 _, h.d.set0 n, h.r.gb (grown_set V (B + 1) 0 _) (by omega), h.ne, h.le⟩
theorem Dk.set1 (h : Dk w0 B V g s d) (n : Int) : Dk w0 B (V.setCell ⟨B + 1, 1, none⟩ (.int .i64 n)) g s { d with month := n } :=
  ⟨h.rk.other (by have := h.le; omega) (by have := h.ne; omega) 1 _, h.d.set1 n, h.r.gb (grown_set V (B + 1) 1 _) (by omega), h.ne, h.le⟩
theorem Dk.set2 (h : Dk w0 B V g s d) (n : Int) : Dk w0 B (V.setCell ⟨B + 1, 2, none⟩ (.int .i64 n)) g s { d with week := n } :=
  ⟨h.rk.other (by have := h.le; omega) (by have := h.ne; omega) 2 _, h.d.set2 n, h.r.gb (grown_set V (B + 1) 2 _) (by omega), h.ne, h.le⟩
theorem Dk.set3 (h : Dk w0 B V g s d) (n : Int) : Dk w0 B (V.setCell ⟨B + 1, 3, none⟩ (.int .i64 n)) g s { d with day := n } :=
  ⟨h.rk.other (by have := h.le; omega) (by have := h.ne; omega) 3 _, h.d.set3 n, h.r.gb (grown_set V (B + 1) 3 _) (by omega), h.ne, h.le⟩
theorem Dk.set4 (h : Dk w0 B V g s d) (n : Int) : Dk w0 B (V.setCell ⟨B + 1, 4, none⟩ (.int .i64 n)) g s { d with time := n } :=
  ⟨h.rk.other (by have := h.le; omega) (by have := h.ne; omega) 4 _, h.d.set4 n, h.r.gb (grown_set V (B + 1) 4 _) (by omega), h.ne, h.le⟩
theorem Dk.done (h : Dk w0 B V g s d) (a b c e f : Value) : Rk w0 (((((V.setCell ⟨B, 0, none⟩ a).setCell ⟨B, 1, none⟩ b).setCell ⟨B, 2, none⟩ c).setCell ⟨B, 3, none⟩ e).setCell ⟨B, 4, none⟩ f) g s :=
  ((((h.rk.other h.le h.ne 0 a).other h.le h.ne 1 b).other h.le h.ne 2 c).other h.le h.ne 3 e).other h.le h.ne 4 f
end
set_option maxRecDepth 100000 in
set_option maxHeartbeats 2000000 in
theorem day_m0 (s s1 s2 s3 s4 s5 s6 s7 s8 s9 : St) (n2 n5 n8 : Int) (b3 b6 : Bool) (g : Nat) (w0 w : World) (h : Rk w0 w g s) (hw : w0.heap.size ≤ w.heap.size)
    (h1 : nextB 77 s = true) (e1 : nextS 77 s = s1)
    (e2 : numS 1 3 s1 = s2) (v2 : numV s1 = n2)
    (h3 : nextB 46 s2 = b3) (e3 : nextS 46 s2 = s3)
    (e4 : St.need s3 b3 = s4)
    (e5 : numS 1 1 s4 = s5) (v5 : numV s4 = n5)
    (h6 : nextB 46 s5 = b6) (e6 : nextS 46 s5 = s6)
    (e7 : St.need s6 b6 = s7)
    (e8 : numS 1 3 s7 = s8) (v8 : numV s7 = n8)
    (h9 : nextB 47 s8 = false) (e9 : nextS 47 s8 = s9) :
    Calls Tryd.prog 61 #[.pointer (some ⟨g, 0, none⟩)] w fun e w' => e = .returned (dyV ⟨3, n2, n5, n8, 7200⟩) ∧ Rk w0 w' g s9 := by
  have H1 : Hid (∀ V, Dk w0 w.heap.size V g s ⟨2, 0, 0, 0, 7200⟩ → Calls Tryd.prog 59 #[.pointer (some ⟨g, 0, none⟩), .string ⟨#[77]⟩] V fun e w' => e = .returned (.bool true) ∧ Dk w0 w.heap.size w' g s1 ⟨2, 0, 0, 0, 7200⟩) := Lib.hid (Dk.lift fun V hV => by have := next_any 77 77 rfl s g V V hV; rwa [h1, e1] at this)
  have H2 : Hid (∀ V, Dk w0 w.heap.size V g s1 ⟨3, 0, 0, 0, 7200⟩ → Calls Tryd.prog 78 #[.pointer (some ⟨g, 0, none⟩), .int .i64 1, .int .i64 3] V fun e w' => e = .returned (.int .i64 n2) ∧ Dk w0 w.heap.size w' g s2 ⟨3, 0, 0, 0, 7200⟩) := Lib.hid (Dk.lift fun V hV => by have := number_any 1 3 s1 g V V hV; rwa [e2, v2] at this)
  have H3 : Hid (∀ V, Dk w0 w.heap.size V g s2 ⟨3, n2, 0, 0, 7200⟩ → Calls Tryd.prog 59 #[.pointer (some ⟨g, 0, none⟩), .string ⟨#[46]⟩] V fun e w' => e = .returned (.bool b3) ∧ Dk w0 w.heap.size w' g s3 ⟨3, n2, 0, 0, 7200⟩) := Lib.hid (Dk.lift fun V hV => by have := next_any 46 46 rfl s2 g V V hV; rwa [h3, e3] at this)
  have H4 : Hid (∀ V, Dk w0 w.heap.size V g s3 ⟨3, n2, 0, 0, 7200⟩ → Calls Tryd.prog 60 #[.pointer (some ⟨g, 0, none⟩), .bool b3] V fun e w' => e = .returned (.tuple #[]) ∧ Dk w0 w.heap.size w' g s4 ⟨3, n2, 0, 0, 7200⟩) := Lib.hid (Dk.lift fun V hV => by have := need_any b3 s3 g V V hV; rwa [e4] at this)
  have H5 : Hid (∀ V, Dk w0 w.heap.size V g s4 ⟨3, n2, 0, 0, 7200⟩ → Calls Tryd.prog 78 #[.pointer (some ⟨g, 0, none⟩), .int .i64 1, .int .i64 1] V fun e w' => e = .returned (.int .i64 n5) ∧ Dk w0 w.heap.size w' g s5 ⟨3, n2, 0, 0, 7200⟩) := Lib.hid (Dk.lift fun V hV => by have := number_any 1 1 s4 g V V hV; rwa [e5, v5] at this)
  have H6 : Hid (∀ V, Dk w0 w.heap.size V g s5 ⟨3, n2, n5, 0, 7200⟩ → Calls Tryd.prog 59 #[.pointer (some ⟨g, 0, none⟩), .string ⟨#[46]⟩] V fun e w' => e = .returned (.bool b6) ∧ Dk w0 w.heap.size w' g s6 ⟨3, n2, n5, 0, 7200⟩) := Lib.hid (Dk.lift fun V hV => by have := next_any 46 46 rfl s5 g V V hV; rwa [h6, e6] at this)
  have H7 : Hid (∀ V, Dk w0 w.heap.size V g s6 ⟨3, n2, n5, 0, 7200⟩ → Calls Tryd.prog 60 #[.pointer (some ⟨g, 0, none⟩), .bool b6] V fun e w' => e = .returned (.tuple #[]) ∧ Dk w0 w.heap.size w' g s7 ⟨3, n2, n5, 0, 7200⟩) := Lib.hid (Dk.lift fun V hV => by have := need_any b6 s6 g V V hV; rwa [e7] at this)
  have H8 : Hid (∀ V, Dk w0 w.heap.size V g s7 ⟨3, n2, n5, 0, 7200⟩ → Calls Tryd.prog 78 #[.pointer (some ⟨g, 0, none⟩), .int .i64 1, .int .i64 3] V fun e w' => e = .returned (.int .i64 n8) ∧ Dk w0 w.heap.size w' g s8 ⟨3, n2, n5, 0, 7200⟩) := Lib.hid (Dk.lift fun V hV => by have := number_any 1 3 s7 g V V hV; rwa [e8, v8] at this)
  have H9 : Hid (∀ V, Dk w0 w.heap.size V g s8 ⟨3, n2, n5, n8, 7200⟩ → Calls Tryd.prog 59 #[.pointer (some ⟨g, 0, none⟩), .string ⟨#[47]⟩] V fun e w' => e = .returned (.bool false) ∧ Dk w0 w.heap.size w' g s9 ⟨3, n2, n5, n8, 7200⟩) := Lib.hid (Dk.lift fun V hV => by have := next_any 47 47 rfl s8 g V V hV; rwa [h9, e9] at this)
  have K0 := Lib.hid (Dk.start h hw 23 23)
  clear h hw h1 e1 e2 v2 h3 e3 e4 e5 v5 h6 e6 e7 e8 v8 h9 e9
  go_enter Tryd.func61, Tryd.ntmps61
  go_wp2_with (first
    | (go_at_call 59; refine (H1.out _ K0.out).mono ?_; clear H1; rintro e V1 ⟨rfl, hk⟩; have K1 := Lib.hid hk; clear hk; have q0 := K1.out.d.c0; have f0 := K1.out.d.fr 0)
    | (go_at_call 78; refine (H2.out _ (K1.out.set0 3)).mono ?_; clear H2 q0 f0; rintro e V2 ⟨rfl, hk⟩; have K2 := Lib.hid hk; clear hk; have q1 := K2.out.d.c1; have f1 := K2.out.d.fr 1)
    | (go_at_call 59; refine (H3.out _ (K2.out.set1 n2)).mono ?_; clear H3 q1 f1; rintro e V3 ⟨rfl, hk⟩; have K3 := Lib.hid hk; clear hk)
    | (go_at_call 60; refine (H4.out _ K3.out).mono ?_; clear H4; rintro e V4 ⟨rfl, hk⟩; have K4 := Lib.hid hk; clear hk)
    | (go_at_call 78; refine (H5.out _ K4.out).mono ?_; clear H5; rintro e V5 ⟨rfl, hk⟩; have K5 := Lib.hid hk; clear hk; have q2 := K5.out.d.c2; have f2 := K5.out.d.fr 2)
    | (go_at_call 59; refine (H6.out _ (K5.out.set2 n5)).mono ?_; clear H6 q2 f2; rintro e V6 ⟨rfl, hk⟩; have K6 := Lib.hid hk; clear hk)
    | (go_at_call 60; refine (H7.out _ K6.out).mono ?_; clear H7; rintro e V7 ⟨rfl, hk⟩; have K7 := Lib.hid hk; clear hk)
    | (go_at_call 78; refine (H8.out _ K7.out).mono ?_; clear H8; rintro e V8 ⟨rfl, hk⟩; have K8 := Lib.hid hk; clear hk; have q3 := K8.out.d.c3; have f3 := K8.out.d.fr 3)
    | (go_at_call 59; refine (H9.out _ (K8.out.set3 n8)).mono ?_; clear H9 q3 f3; rintro e V9 ⟨rfl, hk⟩; have K9 := Lib.hid hk; clear hk; have q0 := K9.out.d.c0; have r0 := K9.out.r.c0; have g0 := K9.out.r.fr 0; have q1 := K9.out.d.c1; have r1 := K9.out.r.c1; have g1 := K9.out.r.fr 1; have q2 := K9.out.d.c2; have r2 := K9.out.r.c2; have g2 := K9.out.r.fr 2; have q3 := K9.out.d.c3; have r3 := K9.out.r.c3; have g3 := K9.out.r.fr 3; have q4 := K9.out.d.c4; have r4 := K9.out.r.c4; have g4 := K9.out.r.fr 4)
    | fail)
  exact bodyPost_ret (v := dyV ⟨3, n2, n5, n8, 7200⟩) (by simp [results, Tryd.results61, go_sem, r0, r1, r2, r3, r4]) rfl ⟨rfl, Dk.done K9.out _ _ _ _ _⟩
set_option maxRecDepth 100000 in
set_option maxHeartbeats 2000000 in
theorem day_m1 (s s1 s2 s3 s4 s5 s6 s7 s8 s9 s10 : St) (n2 n5 n8 n10 : Int) (b3 b6 : Bool) (g : Nat) (w0 w : World) (h : Rk w0 w g s) (hw : w0.heap.size ≤ w.heap.size)
    (h1 : nextB 77 s = true) (e1 : nextS 77 s = s1)
    (e2 : numS 1 3 s1 = s2) (v2 : numV s1 = n2)
    (h3 : nextB 46 s2 = b3) (e3 : nextS 46 s2 = s3)
    (e4 : St.need s3 b3 = s4)
    (e5 : numS 1 1 s4 = s5) (v5 : numV s4 = n5)
    (h6 : nextB 46 s5 = b6) (e6 : nextS 46 s5 = s6)
    (e7 : St.need s6 b6 = s7)
    (e8 : numS 1 3 s7 = s8) (v8 : numV s7 = n8)
    (h9 : nextB 47 s8 = true) (e9 : nextS 47 s8 = s9)
    (e10 : sgnS s9 = s10) (v10 : sgnV s9 = n10) :
    Calls Tryd.prog 61 #[.pointer (some ⟨g, 0, none⟩)] w fun e w' => e = .returned (dyV ⟨3, n2, n5, n8, n10⟩) ∧ Rk w0 w' g s10 := by
  have H1 : Hid (∀ V, Dk w0 w.heap.size V g s ⟨2, 0, 0, 0, 7200⟩ → Calls Tryd.prog 59 #[.pointer (some ⟨g, 0, none⟩), .string ⟨#[77]⟩] V fun e w' => e = .returned (.bool true) ∧ Dk w0 w.heap.size w' g s1 ⟨2, 0, 0, 0, 7200⟩) := Lib.hid (Dk.lift fun V hV => by have := next_any 77 77 rfl s g V V hV; rwa [h1, e1] at this)
  have H2 : Hid (∀ V, Dk w0 w.heap.size V g s1 ⟨3, 0, 0, 0, 7200⟩ → Calls Tryd.prog 78 #[.pointer (some ⟨g, 0, none⟩), .int .i64 1, .int .i64 3] V fun e w' => e = .returned (.int .i64 n2) ∧ Dk w0 w.heap.size w' g s2 ⟨3, 0, 0, 0, 7200⟩) := Lib.hid (Dk.lift fun V hV => by have := number_any 1 3 s1 g V V hV; rwa [e2, v2] at this)
  have H3 : Hid (∀ V, Dk w0 w.heap.size V g s2 ⟨3, n2, 0, 0, 7200⟩ → Calls Tryd.prog 59 #[.pointer (some ⟨g, 0, none⟩), .string ⟨#[46]⟩] V fun e w' => e = .returned (.bool b3) ∧ Dk w0 w.heap.size w' g s3 ⟨3, n2, 0, 0, 7200⟩) := Lib.hid (Dk.lift fun V hV => by have := next_any 46 46 rfl s2 g V V hV; rwa [h3, e3] at this)
  have H4 : Hid (∀ V, Dk w0 w.heap.size V g s3 ⟨3, n2, 0, 0, 7200⟩ → Calls Tryd.prog 60 #[.pointer (some ⟨g, 0, none⟩), .bool b3] V fun e w' => e = .returned (.tuple #[]) ∧ Dk w0 w.heap.size w' g s4 ⟨3, n2, 0, 0, 7200⟩) := Lib.hid (Dk.lift fun V hV => by have := need_any b3 s3 g V V hV; rwa [e4] at this)
  have H5 : Hid (∀ V, Dk w0 w.heap.size V g s4 ⟨3, n2, 0, 0, 7200⟩ → Calls Tryd.prog 78 #[.pointer (some ⟨g, 0, none⟩), .int .i64 1, .int .i64 1] V fun e w' => e = .returned (.int .i64 n5) ∧ Dk w0 w.heap.size w' g s5 ⟨3, n2, 0, 0, 7200⟩) := Lib.hid (Dk.lift fun V hV => by have := number_any 1 1 s4 g V V hV; rwa [e5, v5] at this)
  have H6 : Hid (∀ V, Dk w0 w.heap.size V g s5 ⟨3, n2, n5, 0, 7200⟩ → Calls Tryd.prog 59 #[.pointer (some ⟨g, 0, none⟩), .string ⟨#[46]⟩] V fun e w' => e = .returned (.bool b6) ∧ Dk w0 w.heap.size w' g s6 ⟨3, n2, n5, 0, 7200⟩) := Lib.hid (Dk.lift fun V hV => by have := next_any 46 46 rfl s5 g V V hV; rwa [h6, e6] at this)
  have H7 : Hid (∀ V, Dk w0 w.heap.size V g s6 ⟨3, n2, n5, 0, 7200⟩ → Calls Tryd.prog 60 #[.pointer (some ⟨g, 0, none⟩), .bool b6] V fun e w' => e = .returned (.tuple #[]) ∧ Dk w0 w.heap.size w' g s7 ⟨3, n2, n5, 0, 7200⟩) := Lib.hid (Dk.lift fun V hV => by have := need_any b6 s6 g V V hV; rwa [e7] at this)
  have H8 : Hid (∀ V, Dk w0 w.heap.size V g s7 ⟨3, n2, n5, 0, 7200⟩ → Calls Tryd.prog 78 #[.pointer (some ⟨g, 0, none⟩), .int .i64 1, .int .i64 3] V fun e w' => e = .returned (.int .i64 n8) ∧ Dk w0 w.heap.size w' g s8 ⟨3, n2, n5, 0, 7200⟩) := Lib.hid (Dk.lift fun V hV => by have := number_any 1 3 s7 g V V hV; rwa [e8, v8] at this)
  have H9 : Hid (∀ V, Dk w0 w.heap.size V g s8 ⟨3, n2, n5, n8, 7200⟩ → Calls Tryd.prog 59 #[.pointer (some ⟨g, 0, none⟩), .string ⟨#[47]⟩] V fun e w' => e = .returned (.bool true) ∧ Dk w0 w.heap.size w' g s9 ⟨3, n2, n5, n8, 7200⟩) := Lib.hid (Dk.lift fun V hV => by have := next_any 47 47 rfl s8 g V V hV; rwa [h9, e9] at this)
  have H10 : Hid (∀ V, Dk w0 w.heap.size V g s9 ⟨3, n2, n5, n8, 7200⟩ → Calls Tryd.prog 76 #[.pointer (some ⟨g, 0, none⟩)] V fun e w' => e = .returned (.int .i64 n10) ∧ Dk w0 w.heap.size w' g s10 ⟨3, n2, n5, n8, 7200⟩) := Lib.hid (Dk.lift fun V hV => by have := signed_any s9 g V V hV; rwa [e10, v10] at this)
  have K0 := Lib.hid (Dk.start h hw 23 23)
  clear h hw h1 e1 e2 v2 h3 e3 e4 e5 v5 h6 e6 e7 e8 v8 h9 e9 e10 v10
  go_enter Tryd.func61, Tryd.ntmps61
  go_wp2_with (first
    | (go_at_call 59; refine (H1.out _ K0.out).mono ?_; clear H1; rintro e V1 ⟨rfl, hk⟩; have K1 := Lib.hid hk; clear hk; have q0 := K1.out.d.c0; have f0 := K1.out.d.fr 0)
    | (go_at_call 78; refine (H2.out _ (K1.out.set0 3)).mono ?_; clear H2 q0 f0; rintro e V2 ⟨rfl, hk⟩; have K2 := Lib.hid hk; clear hk; have q1 := K2.out.d.c1; have f1 := K2.out.d.fr 1)
    | (go_at_call 59; refine (H3.out _ (K2.out.set1 n2)).mono ?_; clear H3 q1 f1; rintro e V3 ⟨rfl, hk⟩; have K3 := Lib.hid hk; clear hk)
    | (go_at_call 60; refine (H4.out _ K3.out).mono ?_; clear H4; rintro e V4 ⟨rfl, hk⟩; have K4 := Lib.hid hk; clear hk)
    | (go_at_call 78; refine (H5.out _ K4.out).mono ?_; clear H5; rintro e V5 ⟨rfl, hk⟩; have K5 := Lib.hid hk; clear hk; have q2 := K5.out.d.c2; have f2 := K5.out.d.fr 2)
    | (go_at_call 59; refine (H6.out _ (K5.out.set2 n5)).mono ?_; clear H6 q2 f2; rintro e V6 ⟨rfl, hk⟩; have K6 := Lib.hid hk; clear hk)
    | (go_at_call 60; refine (H7.out _ K6.out).mono ?_; clear H7; rintro e V7 ⟨rfl, hk⟩; have K7 := Lib.hid hk; clear hk)
    | (go_at_call 78; refine (H8.out _ K7.out).mono ?_; clear H8; rintro e V8 ⟨rfl, hk⟩; have K8 := Lib.hid hk; clear hk; have q3 := K8.out.d.c3; have f3 := K8.out.d.fr 3)
    | (go_at_call 59; refine (H9.out _ (K8.out.set3 n8)).mono ?_; clear H9 q3 f3; rintro e V9 ⟨rfl, hk⟩; have K9 := Lib.hid hk; clear hk)
    | (go_at_call 76; refine (H10.out _ K9.out).mono ?_; clear H10; rintro e V10 ⟨rfl, hk⟩; have K10 := Lib.hid hk; clear hk; have q4 := K10.out.d.c4; have f4 := K10.out.d.fr 4; have q0 := K10.out.d.c0; have r0 := K10.out.r.c0; have g0 := K10.out.r.fr 0; have q1 := K10.out.d.c1; have r1 := K10.out.r.c1; have g1 := K10.out.r.fr 1; have q2 := K10.out.d.c2; have r2 := K10.out.r.c2; have g2 := K10.out.r.fr 2; have q3 := K10.out.d.c3; have r3 := K10.out.r.c3; have g3 := K10.out.r.fr 3; have q4 := K10.out.d.c4; have r4 := K10.out.r.c4; have g4 := K10.out.r.fr 4)
    | fail)
  exact bodyPost_ret (v := dyV ⟨3, n2, n5, n8, n10⟩) (by simp [results, Tryd.results61, go_sem, r0, r1, r2, r3, r4]) rfl ⟨rfl, Dk.done (K10.out.set4 n10) _ _ _ _ _⟩
set_option maxRecDepth 100000 in
set_option maxHeartbeats 2000000 in
theorem day_j0 (s s1 s2 s3 s4 : St) (n3 : Int) (g : Nat) (w0 w : World) (h : Rk w0 w g s) (hw : w0.heap.size ≤ w.heap.size)
    (h1 : nextB 77 s = false) (e1 : nextS 77 s = s1)
    (h2 : nextB 74 s1 = true) (e2 : nextS 74 s1 = s2)
    (e3 : numS 1 3 s2 = s3) (v3 : numV s2 = n3)
    (h4 : nextB 47 s3 = false) (e4 : nextS 47 s3 = s4) :
    Calls Tryd.prog 61 #[.pointer (some ⟨g, 0, none⟩)] w fun e w' => e = .returned (dyV ⟨1, 0, 0, n3, 7200⟩) ∧ Rk w0 w' g s4 := by
  have H1 : Hid (∀ V, Dk w0 w.heap.size V g s ⟨2, 0, 0, 0, 7200⟩ → Calls Tryd.prog 59 #[.pointer (some ⟨g, 0, none⟩), .string ⟨#[77]⟩] V fun e w' => e = .returned (.bool false) ∧ Dk w0 w.heap.size w' g s1 ⟨2, 0, 0, 0, 7200⟩) := Lib.hid (Dk.lift fun V hV => by have := next_any 77 77 rfl s g V V hV; rwa [h1, e1] at this)
  have H2 : Hid (∀ V, Dk w0 w.heap.size V g s1 ⟨2, 0, 0, 0, 7200⟩ → Calls Tryd.prog 59 #[.pointer (some ⟨g, 0, none⟩), .string ⟨#[74]⟩] V fun e w' => e = .returned (.bool true) ∧ Dk w0 w.heap.size w' g s2 ⟨2, 0, 0, 0, 7200⟩) := Lib.hid (Dk.lift fun V hV => by have := next_any 74 74 rfl s1 g V V hV; rwa [h2, e2] at this)
  have H3 : Hid (∀ V, Dk w0 w.heap.size V g s2 ⟨1, 0, 0, 0, 7200⟩ → Calls Tryd.prog 78 #[.pointer (some ⟨g, 0, none⟩), .int .i64 1, .int .i64 3] V fun e w' => e = .returned (.int .i64 n3) ∧ Dk w0 w.heap.size w' g s3 ⟨1, 0, 0, 0, 7200⟩) := Lib.hid (Dk.lift fun V hV => by have := number_any 1 3 s2 g V V hV; rwa [e3, v3] at this)
  have H4 : Hid (∀ V, Dk w0 w.heap.size V g s3 ⟨1, 0, 0, n3, 7200⟩ → Calls Tryd.prog 59 #[.pointer (some ⟨g, 0, none⟩), .string ⟨#[47]⟩] V fun e w' => e = .returned (.bool false) ∧ Dk w0 w.heap.size w' g s4 ⟨1, 0, 0, n3, 7200⟩) := Lib.hid (Dk.lift fun V hV => by have := next_any 47 47 rfl s3 g V V hV; rwa [h4, e4] at this)
  have K0 := Lib.hid (Dk.start h hw 23 23)
  clear h hw h1 e1 h2 e2 e3 v3 h4 e4
  go_enter Tryd.func61, Tryd.ntmps61
  go_wp2_with (first
    | (go_at_call 59; refine (H1.out _ K0.out).mono ?_; clear H1; rintro e V1 ⟨rfl, hk⟩; have K1 := Lib.hid hk; clear hk)
    | (go_at_call 59; refine (H2.out _ K1.out).mono ?_; clear H2; rintro e V2 ⟨rfl, hk⟩; have K2 := Lib.hid hk; clear hk; have q0 := K2.out.d.c0; have f0 := K2.out.d.fr 0)
    | (go_at_call 78; refine (H3.out _ (K2.out.set0 1)).mono ?_; clear H3 q0 f0; rintro e V3 ⟨rfl, hk⟩; have K3 := Lib.hid hk; clear hk; have q3 := K3.out.d.c3; have f3 := K3.out.d.fr 3)
    | (go_at_call 59; refine (H4.out _ (K3.out.set3 n3)).mono ?_; clear H4 q3 f3; rintro e V4 ⟨rfl, hk⟩; have K4 := Lib.hid hk; clear hk; have q0 := K4.out.d.c0; have r0 := K4.out.r.c0; have g0 := K4.out.r.fr 0; have q1 := K4.out.d.c1; have r1 := K4.out.r.c1; have g1 := K4.out.r.fr 1; have q2 := K4.out.d.c2; have r2 := K4.out.r.c2; have g2 := K4.out.r.fr 2; have q3 := K4.out.d.c3; have r3 := K4.out.r.c3; have g3 := K4.out.r.fr 3; have q4 := K4.out.d.c4; have r4 := K4.out.r.c4; have g4 := K4.out.r.fr 4)
    | fail)
  exact bodyPost_ret (v := dyV ⟨1, 0, 0, n3, 7200⟩) (by simp [results, Tryd.results61, go_sem, r0, r1, r2, r3, r4]) rfl ⟨rfl, Dk.done K4.out _ _ _ _ _⟩
set_option maxRecDepth 100000 in
set_option maxHeartbeats 2000000 in
theorem day_j1 (s s1 s2 s3 s4 s5 : St) (n3 n5 : Int) (g : Nat) (w0 w : World) (h : Rk w0 w g s) (hw : w0.heap.size ≤ w.heap.size)
    (h1 : nextB 77 s = false) (e1 : nextS 77 s = s1)
    (h2 : nextB 74 s1 = true) (e2 : nextS 74 s1 = s2)
    (e3 : numS 1 3 s2 = s3) (v3 : numV s2 = n3)
    (h4 : nextB 47 s3 = true) (e4 : nextS 47 s3 = s4)
    (e5 : sgnS s4 = s5) (v5 : sgnV s4 = n5) :
    Calls Tryd.prog 61 #[.pointer (some ⟨g, 0, none⟩)] w fun e w' => e = .returned (dyV ⟨1, 0, 0, n3, n5⟩) ∧ Rk w0 w' g s5 := by
  have H1 : Hid (∀ V, Dk w0 w.heap.size V g s ⟨2, 0, 0, 0, 7200⟩ → Calls Tryd.prog 59 #[.pointer (some ⟨g, 0, none⟩), .string ⟨#[77]⟩] V fun e w' => e = .returned (.bool false) ∧ Dk w0 w.heap.size w' g s1 ⟨2, 0, 0, 0, 7200⟩) := Lib.hid (Dk.lift fun V hV => by have := next_any 77 77 rfl s g V V hV; rwa [h1, e1] at this)
  have H2 : Hid (∀ V, Dk w0 w.heap.size V g s1 ⟨2, 0, 0, 0, 7200⟩ → Calls Tryd.prog 59 #[.pointer (some ⟨g, 0, none⟩), .string ⟨#[74]⟩] V fun e w' => e = .returned (.bool true) ∧ Dk w0 w.heap.size w' g s2 ⟨2, 0, 0, 0, 7200⟩) := Lib.hid (Dk.lift fun V hV => by have := next_any 74 74 rfl s1 g V V hV; rwa [h2, e2] at this)
  have H3 : Hid (∀ V, Dk w0 w.heap.size V g s2 ⟨1, 0, 0, 0, 7200⟩ → Calls Tryd.prog 78 #[.pointer (some ⟨g, 0, none⟩), .int .i64 1, .int .i64 3] V fun e w' => e = .returned (.int .i64 n3) ∧ Dk w0 w.heap.size w' g s3 ⟨1, 0, 0, 0, 7200⟩) := Lib.hid (Dk.lift fun V hV => by have := number_any 1 3 s2 g V V hV; rwa [e3, v3] at this)
  have H4 : Hid (∀ V, Dk w0 w.heap.size V g s3 ⟨1, 0, 0, n3, 7200⟩ → Calls Tryd.prog 59 #[.pointer (some ⟨g, 0, none⟩), .string ⟨#[47]⟩] V fun e w' => e = .returned (.bool true) ∧ Dk w0 w.heap.size w' g s4 ⟨1, 0, 0, n3, 7200⟩) := Lib.hid (Dk.lift fun V hV => by have := next_any 47 47 rfl s3 g V V hV; rwa [h4, e4] at this)
  have H5 : Hid (∀ V, Dk w0 w.heap.size V g s4 ⟨1, 0, 0, n3, 7200⟩ → Calls Tryd.prog 76 #[.pointer (some ⟨g, 0, none⟩)] V fun e w' => e = .returned (.int .i64 n5) ∧ Dk w0 w.heap.size w' g s5 ⟨1, 0, 0, n3, 7200⟩) := Lib.hid (Dk.lift fun V hV => by have := signed_any s4 g V V hV; rwa [e5, v5] at this)
  have K0 := Lib.hid (Dk.start h hw 23 23)
  clear h hw h1 e1 h2 e2 e3 v3 h4 e4 e5 v5
  go_enter Tryd.func61, Tryd.ntmps61
  go_wp2_with (first
    | (go_at_call 59; refine (H1.out _ K0.out).mono ?_; clear H1; rintro e V1 ⟨rfl, hk⟩; have K1 := Lib.hid hk; clear hk)
    | (go_at_call 59; refine (H2.out _ K1.out).mono ?_; clear H2; rintro e V2 ⟨rfl, hk⟩; have K2 := Lib.hid hk; clear hk; have q0 := K2.out.d.c0; have f0 := K2.out.d.fr 0)
    | (go_at_call 78; refine (H3.out _ (K2.out.set0 1)).mono ?_; clear H3 q0 f0; rintro e V3 ⟨rfl, hk⟩; have K3 := Lib.hid hk; clear hk; have q3 := K3.out.d.c3; have f3 := K3.out.d.fr 3)
    | (go_at_call 59; refine (H4.out _ (K3.out.set3 n3)).mono ?_; clear H4 q3 f3; rintro e V4 ⟨rfl, hk⟩; have K4 := Lib.hid hk; clear hk)
    | (go_at_call 76; refine (H5.out _ K4.out).mono ?_; clear H5; rintro e V5 ⟨rfl, hk⟩; have K5 := Lib.hid hk; clear hk; have q4 := K5.out.d.c4; have f4 := K5.out.d.fr 4; have q0 := K5.out.d.c0; have r0 := K5.out.r.c0; have g0 := K5.out.r.fr 0; have q1 := K5.out.d.c1; have r1 := K5.out.r.c1; have g1 := K5.out.r.fr 1; have q2 := K5.out.d.c2; have r2 := K5.out.r.c2; have g2 := K5.out.r.fr 2; have q3 := K5.out.d.c3; have r3 := K5.out.r.c3; have g3 := K5.out.r.fr 3; have q4 := K5.out.d.c4; have r4 := K5.out.r.c4; have g4 := K5.out.r.fr 4)
    | fail)
  exact bodyPost_ret (v := dyV ⟨1, 0, 0, n3, n5⟩) (by simp [results, Tryd.results61, go_sem, r0, r1, r2, r3, r4]) rfl ⟨rfl, Dk.done (K5.out.set4 n5) _ _ _ _ _⟩
set_option maxRecDepth 100000 in
set_option maxHeartbeats 2000000 in
theorem day_z0 (s s1 s2 s3 s4 : St) (n3 : Int) (g : Nat) (w0 w : World) (h : Rk w0 w g s) (hw : w0.heap.size ≤ w.heap.size)
    (h1 : nextB 77 s = false) (e1 : nextS 77 s = s1)
    (h2 : nextB 74 s1 = false) (e2 : nextS 74 s1 = s2)
    (e3 : numS 1 3 s2 = s3) (v3 : numV s2 = n3)
    (h4 : nextB 47 s3 = false) (e4 : nextS 47 s3 = s4) :
    Calls Tryd.prog 61 #[.pointer (some ⟨g, 0, none⟩)] w fun e w' => e = .returned (dyV ⟨2, 0, 0, n3, 7200⟩) ∧ Rk w0 w' g s4 := by
  have H1 : Hid (∀ V, Dk w0 w.heap.size V g s ⟨2, 0, 0, 0, 7200⟩ → Calls Tryd.prog 59 #[.pointer (some ⟨g, 0, none⟩), .string ⟨#[77]⟩] V fun e w' => e = .returned (.bool false) ∧ Dk w0 w.heap.size w' g s1 ⟨2, 0, 0, 0, 7200⟩) := Lib.hid (Dk.lift fun V hV => by have := next_any 77 77 rfl s g V V hV; rwa [h1, e1] at this)
  have H2 : Hid (∀ V, Dk w0 w.heap.size V g s1 ⟨2, 0, 0, 0, 7200⟩ → Calls Tryd.prog 59 #[.pointer (some ⟨g, 0, none⟩), .string ⟨#[74]⟩] V fun e w' => e = .returned (.bool false) ∧ Dk w0 w.heap.size w' g s2 ⟨2, 0, 0, 0, 7200⟩) := Lib.hid (Dk.lift fun V hV => by have := next_any 74 74 rfl s1 g V V hV; rwa [h2, e2] at this)
  have H3 : Hid (∀ V, Dk w0 w.heap.size V g s2 ⟨2, 0, 0, 0, 7200⟩ → Calls Tryd.prog 78 #[.pointer (some ⟨g, 0, none⟩), .int .i64 1, .int .i64 3] V fun e w' => e = .returned (.int .i64 n3) ∧ Dk w0 w.heap.size w' g s3 ⟨2, 0, 0, 0, 7200⟩) := Lib.hid (Dk.lift fun V hV => by have := number_any 1 3 s2 g V V hV; rwa [e3, v3] at this)
  have H4 : Hid (∀ V, Dk w0 w.heap.size V g s3 ⟨2, 0, 0, n3, 7200⟩ → Calls Tryd.prog 59 #[.pointer (some ⟨g, 0, none⟩), .string ⟨#[47]⟩] V fun e w' => e = .returned (.bool false) ∧ Dk w0 w.heap.size w' g s4 ⟨2, 0, 0, n3, 7200⟩) := Lib.hid (Dk.lift fun V hV => by have := next_any 47 47 rfl s3 g V V hV; rwa [h4, e4] at this)
  have K0 := Lib.hid (Dk.start h hw 23 23)
  clear h hw h1 e1 h2 e2 e3 v3 h4 e4
  go_enter Tryd.func61, Tryd.ntmps61
  go_wp2_with (first
    | (go_at_call 59; refine (H1.out _ K0.out).mono ?_; clear H1; rintro e V1 ⟨rfl, hk⟩; have K1 := Lib.hid hk; clear hk)
    | (go_at_call 59; refine (H2.out _ K1.out).mono ?_; clear H2; rintro e V2 ⟨rfl, hk⟩; have K2 := Lib.hid hk; clear hk)
    | (go_at_call 78; refine (H3.out _ K2.out).mono ?_; clear H3; rintro e V3 ⟨rfl, hk⟩; have K3 := Lib.hid hk; clear hk; have q3 := K3.out.d.c3; have f3 := K3.out.d.fr 3)
    | (go_at_call 59; refine (H4.out _ (K3.out.set3 n3)).mono ?_; clear H4 q3 f3; rintro e V4 ⟨rfl, hk⟩; have K4 := Lib.hid hk; clear hk; have q0 := K4.out.d.c0; have r0 := K4.out.r.c0; have g0 := K4.out.r.fr 0; have q1 := K4.out.d.c1; have r1 := K4.out.r.c1; have g1 := K4.out.r.fr 1; have q2 := K4.out.d.c2; have r2 := K4.out.r.c2; have g2 := K4.out.r.fr 2; have q3 := K4.out.d.c3; have r3 := K4.out.r.c3; have g3 := K4.out.r.fr 3; have q4 := K4.out.d.c4; have r4 := K4.out.r.c4; have g4 := K4.out.r.fr 4)
    | fail)
  exact bodyPost_ret (v := dyV ⟨2, 0, 0, n3, 7200⟩) (by simp [results, Tryd.results61, go_sem, r0, r1, r2, r3, r4]) rfl ⟨rfl, Dk.done K4.out _ _ _ _ _⟩
set_option maxRecDepth 100000 in
set_option maxHeartbeats 2000000 in
theorem day_z1 (s s1 s2 s3 s4 s5 : St) (n3 n5 : Int) (g : Nat) (w0 w : World) (h : Rk w0 w g s) (hw : w0.heap.size ≤ w.heap.size)
    (h1 : nextB 77 s = false) (e1 : nextS 77 s = s1)
    (h2 : nextB 74 s1 = false) (e2 : nextS 74 s1 = s2)
    (e3 : numS 1 3 s2 = s3) (v3 : numV s2 = n3)
    (h4 : nextB 47 s3 = true) (e4 : nextS 47 s3 = s4)
    (e5 : sgnS s4 = s5) (v5 : sgnV s4 = n5) :
    Calls Tryd.prog 61 #[.pointer (some ⟨g, 0, none⟩)] w fun e w' => e = .returned (dyV ⟨2, 0, 0, n3, n5⟩) ∧ Rk w0 w' g s5 := by
  have H1 : Hid (∀ V, Dk w0 w.heap.size V g s ⟨2, 0, 0, 0, 7200⟩ → Calls Tryd.prog 59 #[.pointer (some ⟨g, 0, none⟩), .string ⟨#[77]⟩] V fun e w' => e = .returned (.bool false) ∧ Dk w0 w.heap.size w' g s1 ⟨2, 0, 0, 0, 7200⟩) := Lib.hid (Dk.lift fun V hV => by have := next_any 77 77 rfl s g V V hV; rwa [h1, e1] at this)
  have H2 : Hid (∀ V, Dk w0 w.heap.size V g s1 ⟨2, 0, 0, 0, 7200⟩ → Calls Tryd.prog 59 #[.pointer (some ⟨g, 0, none⟩), .string ⟨#[74]⟩] V fun e w' => e = .returned (.bool false) ∧ Dk w0 w.heap.size w' g s2 ⟨2, 0, 0, 0, 7200⟩) := Lib.hid (Dk.lift fun V hV => by have := next_any 74 74 rfl s1 g V V hV; rwa [h2, e2] at this)
  have H3 : Hid (∀ V, Dk w0 w.heap.size V g s2 ⟨2, 0, 0, 0, 7200⟩ → Calls Tryd.prog 78 #[.pointer (some ⟨g, 0, none⟩), .int .i64 1, .int .i64 3] V fun e w' => e = .returned (.int .i64 n3) ∧ Dk w0 w.heap.size w' g s3 ⟨2, 0, 0, 0, 7200⟩) := Lib.hid (Dk.lift fun V hV => by have := number_any 1 3 s2 g V V hV; rwa [e3, v3] at this)
  have H4 : Hid (∀ V, Dk w0 w.heap.size V g s3 ⟨2, 0, 0, n3, 7200⟩ → Calls Tryd.prog 59 #[.pointer (some ⟨g, 0, none⟩), .string ⟨#[47]⟩] V fun e w' => e = .returned (.bool true) ∧ Dk w0 w.heap.size w' g s4 ⟨2, 0, 0, n3, 7200⟩) := Lib.hid (Dk.lift fun V hV => by have := next_any 47 47 rfl s3 g V V hV; rwa [h4, e4] at this)
  have H5 : Hid (∀ V, Dk w0 w.heap.size V g s4 ⟨2, 0, 0, n3, 7200⟩ → Calls Tryd.prog 76 #[.pointer (some ⟨g, 0, none⟩)] V fun e w' => e = .returned (.int .i64 n5) ∧ Dk w0 w.heap.size w' g s5 ⟨2, 0, 0, n3, 7200⟩) := Lib.hid (Dk.lift fun V hV => by have := signed_any s4 g V V hV; rwa [e5, v5] at this)
  have K0 := Lib.hid (Dk.start h hw 23 23)
  clear h hw h1 e1 h2 e2 e3 v3 h4 e4 e5 v5
  go_enter Tryd.func61, Tryd.ntmps61
  go_wp2_with (first
    | (go_at_call 59; refine (H1.out _ K0.out).mono ?_; clear H1; rintro e V1 ⟨rfl, hk⟩; have K1 := Lib.hid hk; clear hk)
    | (go_at_call 59; refine (H2.out _ K1.out).mono ?_; clear H2; rintro e V2 ⟨rfl, hk⟩; have K2 := Lib.hid hk; clear hk)
    | (go_at_call 78; refine (H3.out _ K2.out).mono ?_; clear H3; rintro e V3 ⟨rfl, hk⟩; have K3 := Lib.hid hk; clear hk; have q3 := K3.out.d.c3; have f3 := K3.out.d.fr 3)
    | (go_at_call 59; refine (H4.out _ (K3.out.set3 n3)).mono ?_; clear H4 q3 f3; rintro e V4 ⟨rfl, hk⟩; have K4 := Lib.hid hk; clear hk)
    | (go_at_call 76; refine (H5.out _ K4.out).mono ?_; clear H5; rintro e V5 ⟨rfl, hk⟩; have K5 := Lib.hid hk; clear hk; have q4 := K5.out.d.c4; have f4 := K5.out.d.fr 4; have q0 := K5.out.d.c0; have r0 := K5.out.r.c0; have g0 := K5.out.r.fr 0; have q1 := K5.out.d.c1; have r1 := K5.out.r.c1; have g1 := K5.out.r.fr 1; have q2 := K5.out.d.c2; have r2 := K5.out.r.c2; have g2 := K5.out.r.fr 2; have q3 := K5.out.d.c3; have r3 := K5.out.r.c3; have g3 := K5.out.r.fr 3; have q4 := K5.out.d.c4; have r4 := K5.out.r.c4; have g4 := K5.out.r.fr 4)
    | fail)
  exact bodyPost_ret (v := dyV ⟨2, 0, 0, n3, n5⟩) (by simp [results, Tryd.results61, go_sem, r0, r1, r2, r3, r4]) rfl ⟨rfl, Dk.done (K5.out.set4 n5) _ _ _ _ _⟩
def m3 (s : St) : St := (nextS 46 (numS 1 3 (nextS 77 s))).need (nextB 46 (numS 1 3 (nextS 77 s)))
def m7 (s : St) : St := (nextS 46 (numS 1 1 (m3 s))).need (nextB 46 (numS 1 1 (m3 s)))
theorem day_any (s : St) (g : Nat) (w0 w : World) (h : Rk w0 w g s) (hw : w0.heap.size ≤ w.heap.size) : Calls Tryd.prog 61 #[.pointer (some ⟨g, 0, none⟩)] w fun e w' => e = .returned (dyV (dayV s)) ∧ Rk w0 w' g (dayS s) := by
  unfold dayV dayS
  cases b1 : nextB 77 s with
  | true =>
    have hd : dayHead s = (3, numV (nextS 77 s), numV (m3 s), m7 s) := by unfold dayHead; rw [if_pos b1]; rfl
    rw [hd]
    simp only
    cases b9 : nextB 47 (numS 1 3 (m7 s)) with
    | false =>
      simp only [Bool.false_eq_true, if_false]
      exact day_m0 s (nextS 77 s) (numS 1 3 (nextS 77 s)) (nextS 46 (numS 1 3 (nextS 77 s))) (m3 s) (numS 1 1 (m3 s)) (nextS 46 (numS 1 1 (m3 s))) (m7 s) (numS 1 3 (m7 s)) (numS 1 3 (m7 s)) _ _ _ _ _ g w0 w h hw b1 rfl rfl rfl rfl rfl rfl rfl rfl rfl rfl rfl rfl rfl b9 (nextS_no b9)
    | true =>
      simp only [if_true]
      exact day_m1 s (nextS 77 s) (numS 1 3 (nextS 77 s)) (nextS 46 (numS 1 3 (nextS 77 s))) (m3 s) (numS 1 1 (m3 s)) (nextS 46 (numS 1 1 (m3 s))) (m7 s) (numS 1 3 (m7 s)) _ _ _ _ _ _ _ _ g w0 w h hw b1 rfl rfl rfl rfl rfl rfl rfl rfl rfl rfl rfl rfl rfl b9 rfl rfl rfl
  | false =>
    cases b2 : nextB 74 s with
    | true =>
      have hd : dayHead s = (1, 0, 0, nextS 74 s) := by unfold dayHead; rw [if_neg (by rw [b1]; decide), if_pos b2]
      rw [hd]
      simp only
      cases b9 : nextB 47 (numS 1 3 (nextS 74 s)) with
      | false =>
        simp only [Bool.false_eq_true, if_false]
        exact day_j0 s s (nextS 74 s) (numS 1 3 (nextS 74 s)) (numS 1 3 (nextS 74 s)) _ g w0 w h hw b1 (nextS_no b1) b2 rfl rfl rfl b9 (nextS_no b9)
      | true =>
        simp only [if_true]
        exact day_j1 s s (nextS 74 s) (numS 1 3 (nextS 74 s)) _ _ _ _ g w0 w h hw b1 (nextS_no b1) b2 rfl rfl rfl b9 rfl rfl rfl
    | false =>
      have hd : dayHead s = (2, 0, 0, s) := by unfold dayHead; rw [if_neg (by rw [b1]; decide), if_neg (by rw [b2]; decide)]
      rw [hd]
      simp only
      cases b9 : nextB 47 (numS 1 3 s) with
      | false =>
        simp only [Bool.false_eq_true, if_false]
        exact day_z0 s s s (numS 1 3 s) (numS 1 3 s) _ g w0 w h hw b1 (nextS_no b1) b2 (nextS_no b2) rfl rfl b9 (nextS_no b9)
      | true =>
        simp only [if_true]
        exact day_z1 s s s (numS 1 3 s) _ _ _ _ g w0 w h hw b1 (nextS_no b1) b2 (nextS_no b2) rfl rfl b9 rfl rfl rfl
end Go.Proofs.YtkfhipkcnocokaaDoor.Fo
