/-
  Layer 7 (footer): the program's reader: a rule (written by gen_fo7r.py).
-/
import Derived.Test.YtkfhipkcnocokaaDoorFoMix
namespace Go.Proofs.YtkfhipkcnocokaaDoor.Fo
open Go.RowKit

/-- A rule in block B. -/
structure RlAt (V : World) (B : Nat) (r : Rl) : Prop where
  c0 : V.cell? ⟨B, 0, none⟩ = some (.string r.std)
  c1 : V.cell? ⟨B, 1, none⟩ = some (.string r.dst)
  c2 : V.cell? ⟨B, 2, none⟩ = some (.int .i64 r.off)
  c3 : V.cell? ⟨B, 3, none⟩ = some (.int .i64 r.dstOff)
  c4 : V.cell? ⟨B, 4, none⟩ = some (.int .u8 r.start.kind)
  c5 : V.cell? ⟨B, 5, none⟩ = some (.int .i64 r.start.month)
  c6 : V.cell? ⟨B, 6, none⟩ = some (.int .i64 r.start.week)
  c7 : V.cell? ⟨B, 7, none⟩ = some (.int .i64 r.start.day)
  c8 : V.cell? ⟨B, 8, none⟩ = some (.int .i64 r.start.time)
  c9 : V.cell? ⟨B, 9, none⟩ = some (.int .u8 r.end_.kind)
  c10 : V.cell? ⟨B, 10, none⟩ = some (.int .i64 r.end_.month)
  c11 : V.cell? ⟨B, 11, none⟩ = some (.int .i64 r.end_.week)
  c12 : V.cell? ⟨B, 12, none⟩ = some (.int .i64 r.end_.day)
  c13 : V.cell? ⟨B, 13, none⟩ = some (.int .i64 r.end_.time)
  fr : ∀ i, V.frozen? ⟨B, i, none⟩ = false
abbrev rlV (r : Rl) : Value := .agg #[.string r.std, .string r.dst, .int .i64 r.off, .int .i64 r.dstOff, .int .u8 r.start.kind, .int .i64 r.start.month, .int .i64 r.start.week, .int .i64 r.start.day, .int .i64 r.start.time, .int .u8 r.end_.kind, .int .i64 r.end_.month, .int .i64 r.end_.week, .int .i64 r.end_.day, .int .i64 r.end_.time]
section
variable {w V : World} {B G : Nat} {r : Rl}
theorem RlAt.lt (h : RlAt w B r) : B < w.heap.size := cell_lt h.c0
theorem RlAt.below (h : RlAt w B r) (hb : Below G w V) (hg : B < G) : RlAt V B r :=
  ⟨cells_at B hb hg h.c0, cells_at B hb hg h.c1, cells_at B hb hg h.c2, cells_at B hb hg h.c3, cells_at B hb hg h.c4, cells_at B hb hg h.c5, cells_at B hb hg h.c6, cells_at B hb hg h.c7, cells_at B hb hg h.c8, cells_at B hb hg h.c9, cells_at B hb hg h.c10, cells_at B hb hg h.c11, cells_at B hb hg h.c12, cells_at B hb hg h.c13, fun i => (hb.frozen (p := ⟨B, i, none⟩) hg).trans (h.fr i)⟩
theorem RlAt.gb (h : RlAt w B r) (hb : w.grownBy V (some G)) (hn : B ≠ G) : RlAt V B r :=
  ⟨gb_cell hb h.lt hn h.c0, gb_cell hb h.lt hn h.c1, gb_cell hb h.lt hn h.c2, gb_cell hb h.lt hn h.c3, gb_cell hb h.lt hn h.c4, gb_cell hb h.lt hn h.c5, gb_cell hb h.lt hn h.c6, gb_cell hb h.lt hn h.c7, gb_cell hb h.lt hn h.c8, gb_cell hb h.lt hn h.c9, gb_cell hb h.lt hn h.c10, gb_cell hb h.lt hn h.c11, gb_cell hb h.lt hn h.c12, gb_cell hb h.lt hn h.c13, fun i => (gb_frozen hb h.lt hn).trans (h.fr i)⟩
theorem RlAt.new (W : World) (r : Rl) (t : TypeId) : RlAt (W.alloc (.cells #[.string r.std, .string r.dst, .int .i64 r.off, .int .i64 r.dstOff, .int .u8 r.start.kind, .int .i64 r.start.month, .int .i64 r.start.week, .int .i64 r.start.day, .int .i64 r.start.time, .int .u8 r.end_.kind, .int .i64 r.end_.month, .int .i64 r.end_.week, .int .i64 r.end_.day, .int .i64 r.end_.time] t)) W.heap.size r :=
  ⟨cell_new W _ t _ 0 _ rfl rfl, cell_new W _ t _ 1 _ rfl rfl, cell_new W _ t _ 2 _ rfl rfl, cell_new W _ t _ 3 _ rfl rfl, cell_new W _ t _ 4 _ rfl rfl, cell_new W _ t _ 5 _ rfl rfl, cell_new W _ t _ 6 _ rfl rfl, cell_new W _ t _ 7 _ rfl rfl, cell_new W _ t _ 8 _ rfl rfl, cell_new W _ t _ 9 _ rfl rfl, cell_new W _ t _ 10 _ rfl rfl, cell_new W _ t _ 11 _ rfl rfl, cell_new W _ t _ 12 _ rfl rfl, cell_new W _ t _ 13 _ rfl rfl, fun i => alloc_loose W _ t i⟩
end
/-- What the reading of a rule keeps: its result's block B. -/
structure Lk (w0 : World) (B : Nat) (V : World) (g : Nat) (s : St) : Prop where
  rk : Rk w0 V g s
  r : RlAt V B rl0
  ne : g < B
  le : w0.heap.size ≤ B
section
variable {w0 V V' : World} {B g : Nat} {s s' : St}
theorem Lk.back (h : Lk w0 B V g s) (hk : Rk V V' g s') : Lk w0 B V' g s' :=
  ⟨⟨hk.rd, h.rk.gb.trans hk.gb, hk.er, hk.lo, hk.sz⟩, h.r.gb hk.gb (by have := h.ne; omega), h.ne, h.le⟩
theorem Lk.own (h : Lk w0 B V g s) : Rk V V g s := ⟨h.rk.rd, World.grownBy.refl _ _, h.rk.er, h.rk.lo, h.rk.sz⟩
theorem Lk.lift {P : Program} {F : FuncId} {args : Array Value} {val : Ending} (hc : ∀ V, Rk V V g s → Calls P F args V fun e w' => e = val ∧ Rk V w' g s') (V : World) (h : Lk w0 B V g s) : Calls P F args V fun e w' => e = val ∧ Lk w0 B w' g s' ∧ V.grownBy w' (some g) :=
  (hc V h.own).mono fun _ _ ⟨he, hk⟩ => ⟨he, h.back hk, hk.gb⟩
theorem Lk.keep (h : Lk w0 B V g s) (hb : Below V.heap.size V V') : Lk w0 B V' g s := ⟨h.rk.keep hb, h.r.below hb h.r.lt, h.ne, h.le⟩
theorem Lk.start {w0 w : World} (h : Rk w0 w g s) (hg : w0.heap.size ≤ w.heap.size) (t : TypeId) : Lk w0 w.heap.size (w.alloc (.cells #[.string ⟨#[]⟩, .string ⟨#[]⟩, .int .i64 0, .int .i64 0, .int .u8 0, .int .i64 0, .int .i64 0, .int .i64 0, .int .i64 0, .int .u8 0, .int .i64 0, .int .i64 0, .int .i64 0, .int .i64 0] t)) g s :=
  ⟨h.alloc _, RlAt.new w rl0 t, h.rd.lt, hg⟩
theorem Lk.done (h : Lk w0 B V g s) (x0 x1 x2 x3 x4 x5 x6 x7 x8 x9 x10 x11 x12 x13 : Value) : Rk w0 ((((((((((((((V.setCell ⟨B, 0, none⟩ x0).setCell ⟨B, 1, none⟩ x1).setCell ⟨B, 2, none⟩ x2).setCell ⟨B, 3, none⟩ x3).setCell ⟨B, 4, none⟩ x4).setCell ⟨B, 5, none⟩ x5).setCell ⟨B, 6, none⟩ x6).setCell ⟨B, 7, none⟩ x7).setCell ⟨B, 8, none⟩ x8).setCell ⟨B, 9, none⟩ x9).setCell ⟨B, 10, none⟩ x10).setCell ⟨B, 11, none⟩ x11).setCell ⟨B, 12, none⟩ x12).setCell ⟨B, 13, none⟩ x13) g s :=
  (((((((((((((h.rk.other h.le h.ne 0 _).other h.le h.ne 1 _).other h.le h.ne 2 _).other h.le h.ne 3 _).other h.le h.ne 4 _).other h.le h.ne 5 _).other h.le h.ne 6 _).other h.le h.ne 7 _).other h.le h.ne 8 _).other h.le h.ne 9 _).other h.le h.ne 10 _).other h.le h.ne 11 _).other h.le h.ne 12 _).other h.le h.ne 13 _
theorem DyAt.keep {w V : World} {B : Nat} {d : Dy} (h : DyAt w B d) (hb : Below w.heap.size w V) : DyAt V B d := h.below hb h.lt
end
theorem size_zero {S : ByteArray} (h : S.size = 0) : S = ⟨#[]⟩ := by
  have : S.data = #[] := Array.eq_empty_of_size_eq_zero h
  cases S; simp at this; rw [this]
theorem ne_empty {S : ByteArray} (h : S.size ≠ 0) : S.toList.isEmpty = false := by
  rw [Lib.toList_data]
  cases hl : S.data.toList with
  | nil => exact absurd (by rw [Lib.size_eq, hl]; rfl) h
  | cons a l => rfl
set_option maxRecDepth 100000 in
set_option maxHeartbeats 400000 in
theorem rule_a (s s1 s2 : St) (n2 : Int) (t1 : ByteArray) (S : ByteArray) (g : Nat) (w0 w : World) (h : Rk w0 w g s) (hw : w0.heap.size ≤ w.heap.size) (hl : bs s2.left = S) (hS : S.size = 0) 
    (e1 : namS s = s1) (v1 : bs (namV s) = t1)
    (e2 : offS s1 = s2) (v2 : offV s1 = n2) :
    Calls Tryd.prog 34 #[.pointer (some ⟨g, 0, none⟩)] w fun e w' => e = .returned (rlV ⟨t1, ⟨#[]⟩, n2, 0, dy0, dy0⟩) ∧ Rk w0 w' g s2 := by
  have H1 : Hid (∀ V, Lk w0 w.heap.size V g s → Calls Tryd.prog 57 #[.pointer (some ⟨g, 0, none⟩)] V fun e w' => e = .returned (.string t1) ∧ Lk w0 w.heap.size w' g s1 ∧ V.grownBy w' (some g)) := Lib.hid (Lk.lift fun V hV => by have := name_any s g V V hV; rwa [e1, v1] at this)
  have H2 : Hid (∀ V, Lk w0 w.heap.size V g s1 → Calls Tryd.prog 58 #[.pointer (some ⟨g, 0, none⟩)] V fun e w' => e = .returned (.int .i64 n2) ∧ Lk w0 w.heap.size w' g s2 ∧ V.grownBy w' (some g)) := Lib.hid (Lk.lift fun V hV => by have := offset_any s1 g V V hV; rwa [e2, v2] at this)
  have K0 := Lib.hid (Lk.start h hw 25)
  have HS := Lib.hid hl
  have HE := size_zero hS
  subst HE
  clear hl hS h hw e1 v1 e2 v2
  go_enter Tryd.func34, Tryd.ntmps34
  go_wp2_with (first
    | (go_at_call 57; refine (H1.out _ (K0.out)).mono ?_; clear H1; rintro e V1 ⟨rfl, hk, hg⟩; have K1 := Lib.hid hk; have G1 := Lib.hid hg; clear hk hg)
    | (go_at_call 58; refine (H2.out _ (K1.out)).mono ?_; clear H2; rintro e V2 ⟨rfl, hk, hg⟩; have K2 := Lib.hid hk; have G2 := Lib.hid hg; clear hk hg; have c0 := K2.out.rk.rd.c0; (try rw [HS.out] at c0); have r0 := K2.out.r.c0; have g0 := K2.out.r.fr 0; have r1 := K2.out.r.c1; have g1 := K2.out.r.fr 1; have r2 := K2.out.r.c2; have g2 := K2.out.r.fr 2; have r3 := K2.out.r.c3; have g3 := K2.out.r.fr 3; have r4 := K2.out.r.c4; have g4 := K2.out.r.fr 4; have r5 := K2.out.r.c5; have g5 := K2.out.r.fr 5; have r6 := K2.out.r.c6; have g6 := K2.out.r.fr 6; have r7 := K2.out.r.c7; have g7 := K2.out.r.fr 7; have r8 := K2.out.r.c8; have g8 := K2.out.r.fr 8; have r9 := K2.out.r.c9; have g9 := K2.out.r.fr 9; have r10 := K2.out.r.c10; have g10 := K2.out.r.fr 10; have r11 := K2.out.r.c11; have g11 := K2.out.r.fr 11; have r12 := K2.out.r.c12; have g12 := K2.out.r.fr 12; have r13 := K2.out.r.c13; have g13 := K2.out.r.fr 13)
    | fail)
  exact bodyPost_ret (v := rlV ⟨t1, ⟨#[]⟩, n2, 0, dy0, dy0⟩) (by simp [results, Tryd.results34, go_sem, dy0, r0, r1, r2, r3, r4, r5, r6, r7, r8, r9, r10, r11, r12, r13]) rfl ⟨rfl, K2.out.done _ _ _ _ _ _ _ _ _ _ _ _ _ _⟩
set_option maxRecDepth 100000 in
set_option maxHeartbeats 400000 in
theorem rule_b (s s1 s2 s3 s4 s5 s6 s7 s8 : St) (n2 : Int) (t1 t3 : ByteArray) (b6 : Bool) (d5 d8 : Dy) (S : ByteArray) (g : Nat) (w0 w : World) (h : Rk w0 w g s) (hw : w0.heap.size ≤ w.heap.size) (hl : bs s2.left = S) (hS : S.size ≠ 0) 
    (e1 : namS s = s1) (v1 : bs (namV s) = t1)
    (e2 : offS s1 = s2) (v2 : offV s1 = n2)
    (e3 : namS s2 = s3) (v3 : bs (namV s2) = t3)
    (h4 : nextB 44 s3 = true) (e4 : nextS 44 s3 = s4)
    (e5 : dayS s4 = s5) (v5 : dayV s4 = d5)
    (h6 : nextB 44 s5 = b6) (e6 : nextS 44 s5 = s6)
    (e7 : St.need s6 b6 = s7)
    (e8 : dayS s7 = s8) (v8 : dayV s7 = d8) :
    Calls Tryd.prog 34 #[.pointer (some ⟨g, 0, none⟩)] w fun e w' => e = .returned (rlV ⟨t1, t3, n2, RowKit.wrap64 (n2 + 3600), d5, d8⟩) ∧ Rk w0 w' g s8 := by
  have H1 : Hid (∀ V, Lk w0 w.heap.size V g s → Calls Tryd.prog 57 #[.pointer (some ⟨g, 0, none⟩)] V fun e w' => e = .returned (.string t1) ∧ Lk w0 w.heap.size w' g s1 ∧ V.grownBy w' (some g)) := Lib.hid (Lk.lift fun V hV => by have := name_any s g V V hV; rwa [e1, v1] at this)
  have H2 : Hid (∀ V, Lk w0 w.heap.size V g s1 → Calls Tryd.prog 58 #[.pointer (some ⟨g, 0, none⟩)] V fun e w' => e = .returned (.int .i64 n2) ∧ Lk w0 w.heap.size w' g s2 ∧ V.grownBy w' (some g)) := Lib.hid (Lk.lift fun V hV => by have := offset_any s1 g V V hV; rwa [e2, v2] at this)
  have H3 : Hid (∀ V, Lk w0 w.heap.size V g s2 → Calls Tryd.prog 57 #[.pointer (some ⟨g, 0, none⟩)] V fun e w' => e = .returned (.string t3) ∧ Lk w0 w.heap.size w' g s3 ∧ V.grownBy w' (some g)) := Lib.hid (Lk.lift fun V hV => by have := name_any s2 g V V hV; rwa [e3, v3] at this)
  have H4 : Hid (∀ V, Lk w0 w.heap.size V g s3 → Calls Tryd.prog 59 #[.pointer (some ⟨g, 0, none⟩), .string ⟨#[44]⟩] V fun e w' => e = .returned (.bool true) ∧ Lk w0 w.heap.size w' g s4 ∧ V.grownBy w' (some g)) := Lib.hid (Lk.lift fun V hV => by have := next_any 44 44 rfl s3 g V V hV; rwa [h4, e4] at this)
  have H5 : Hid (∀ V, Lk w0 w.heap.size V g s4 → Calls Tryd.prog 61 #[.pointer (some ⟨g, 0, none⟩)] V fun e w' => e = .returned (dyV d5) ∧ Lk w0 w.heap.size w' g s5 ∧ V.grownBy w' (some g)) := Lib.hid (Lk.lift fun V hV => by have := day_any s4 g V V hV (Nat.le_refl _); rwa [e5, v5] at this)
  have H6 : Hid (∀ V, Lk w0 w.heap.size V g s5 → Calls Tryd.prog 59 #[.pointer (some ⟨g, 0, none⟩), .string ⟨#[44]⟩] V fun e w' => e = .returned (.bool b6) ∧ Lk w0 w.heap.size w' g s6 ∧ V.grownBy w' (some g)) := Lib.hid (Lk.lift fun V hV => by have := next_any 44 44 rfl s5 g V V hV; rwa [h6, e6] at this)
  have H7 : Hid (∀ V, Lk w0 w.heap.size V g s6 → Calls Tryd.prog 60 #[.pointer (some ⟨g, 0, none⟩), .bool b6] V fun e w' => e = .returned (.tuple #[]) ∧ Lk w0 w.heap.size w' g s7 ∧ V.grownBy w' (some g)) := Lib.hid (Lk.lift fun V hV => by have := need_any b6 s6 g V V hV; rwa [e7] at this)
  have H8 : Hid (∀ V, Lk w0 w.heap.size V g s7 → Calls Tryd.prog 61 #[.pointer (some ⟨g, 0, none⟩)] V fun e w' => e = .returned (dyV d8) ∧ Lk w0 w.heap.size w' g s8 ∧ V.grownBy w' (some g)) := Lib.hid (Lk.lift fun V hV => by have := day_any s7 g V V hV (Nat.le_refl _); rwa [e8, v8] at this)
  have K0 := Lib.hid (Lk.start h hw 25)
  have HS := Lib.hid hl
  have x1 := ne_empty hS
  clear hl hS h hw e1 v1 e2 v2 e3 v3 h4 e4 e5 v5 h6 e6 e7 e8 v8
  go_enter Tryd.func34, Tryd.ntmps34
  go_wp2_with (first
    | (go_at_call 57; refine (H1.out _ (K0.out)).mono ?_; clear H1; rintro e V1 ⟨rfl, hk, hg⟩; have K1 := Lib.hid hk; have G1 := Lib.hid hg; clear hk hg)
    | (go_at_call 58; refine (H2.out _ (K1.out)).mono ?_; clear H2; rintro e V2 ⟨rfl, hk, hg⟩; have K2 := Lib.hid hk; have G2 := Lib.hid hg; clear hk hg; have c0 := K2.out.rk.rd.c0; (try rw [HS.out] at c0))
    | (go_at_call 57; refine (H3.out _ (K2.out)).mono ?_; clear H3 c0; rintro e V3 ⟨rfl, hk, hg⟩; have K3 := Lib.hid hk; have G3 := Lib.hid hg; clear hk hg)
    | (go_at_call 59; refine (H4.out _ (K3.out)).mono ?_; clear H4; rintro e V4 ⟨rfl, hk, hg⟩; have K4 := Lib.hid hk; have G4 := Lib.hid hg; clear hk hg)
    | (go_at_call 61; refine (H5.out _ (K4.out)).mono ?_; clear H5; rintro e V5 ⟨rfl, hk, hg⟩; have K5 := Lib.hid hk; have G5 := Lib.hid hg; clear hk hg)
    | (go_at_call 59; refine (H6.out _ (K5.out.keep ((Below.refl _ _).alloc (Nat.le_refl _) _))).mono ?_; clear H6; rintro e V6 ⟨rfl, hk, hg⟩; have K6 := Lib.hid hk; have G6 := Lib.hid hg; clear hk hg; have D6 := Lib.hid ((DyAt.new V5 d5 23).gb G6.out (by have := K5.out.rk.rd.lt; omega)))
    | (go_at_call 60; refine (H7.out _ (K6.out)).mono ?_; clear H7; rintro e V7 ⟨rfl, hk, hg⟩; have K7 := Lib.hid hk; have G7 := Lib.hid hg; clear hk hg; have D7 := Lib.hid (D6.out.gb G7.out (by have := K5.out.rk.rd.lt; omega)))
    | fail)
  obtain ⟨X, hX⟩ : ∃ X, V5.heap.size = X := ⟨_, rfl⟩
  have hgX : g < X := by have := K5.out.rk.rd.lt; omega
  rw [hX] at D7 ⊢
  have HGX := Lib.hid hgX
  clear hX hgX
  have p0 := D7.out.c0
  have p1 := D7.out.c1
  have p2 := D7.out.c2
  have p3 := D7.out.c3
  have p4 := D7.out.c4
  refine wp_region_mix (fun z' => z'.cell? ⟨X, 0, none⟩ = some (.int .u8 d5.kind) ∧ z'.cell? ⟨X, 1, none⟩ = some (.int .i64 d5.month) ∧ z'.cell? ⟨X, 2, none⟩ = some (.int .i64 d5.week) ∧ z'.cell? ⟨X, 3, none⟩ = some (.int .i64 d5.day) ∧ z'.cell? ⟨X, 4, none⟩ = some (.int .i64 d5.time)) [true, true, true, true, true, true, false, true] _ (by kernel_rfl) rfl (by kernel_rfl) ⟨p0, p1, p2, p3, p4⟩ ?_
  dsimp only [List.dropLast, List.zip, List.zipWith, List.getLast]
  repeat (apply wpMix_free
          · intro z' hz
            try dsimp only at hz
            go_simp
            all_goals with_reducible rfl
          simp only [Act.put, List.setIfInBounds_toArray, List.set_cons_zero, List.set_cons_succ])
  refine wpMix_turn (fun K hK => ?_)
  have HK := Lib.hid hK; clear hK
  go_simp
  refine (H8.out _ (K7.out.keep (Below.refl _ _).drew)).mono ?_
  rintro e V8 ⟨rfl, hk, hg⟩
  have K8 := Lib.hid hk
  have hD : DyAt V8 X d5 := (D7.out.keep (Below.refl _ _).drew).gb hg (by have := HGX.out; omega)
  clear hk hg p0 p1 p2 p3 p4
  refine HK.out _ _ ⟨hD.c0, hD.c1, hD.c2, hD.c3, hD.c4⟩ ?_
  clear HK hD
  try simp only [Act.put, List.setIfInBounds_toArray, List.set_cons_zero, List.set_cons_succ]
  have r0 := K8.out.r.c0
  have g0 := K8.out.r.fr 0
  have r1 := K8.out.r.c1
  have g1 := K8.out.r.fr 1
  have r2 := K8.out.r.c2
  have g2 := K8.out.r.fr 2
  have r3 := K8.out.r.c3
  have g3 := K8.out.r.fr 3
  have r4 := K8.out.r.c4
  have g4 := K8.out.r.fr 4
  have r5 := K8.out.r.c5
  have g5 := K8.out.r.fr 5
  have r6 := K8.out.r.c6
  have g6 := K8.out.r.fr 6
  have r7 := K8.out.r.c7
  have g7 := K8.out.r.fr 7
  have r8 := K8.out.r.c8
  have g8 := K8.out.r.fr 8
  have r9 := K8.out.r.c9
  have g9 := K8.out.r.fr 9
  have r10 := K8.out.r.c10
  have g10 := K8.out.r.fr 10
  have r11 := K8.out.r.c11
  have g11 := K8.out.r.fr 11
  have r12 := K8.out.r.c12
  have g12 := K8.out.r.fr 12
  have r13 := K8.out.r.c13
  have g13 := K8.out.r.fr 13
  repeat (apply wpMix_free
          · intro z' hz
            try dsimp only at hz
            go_simp
            all_goals with_reducible rfl
          simp only [Act.put, List.setIfInBounds_toArray, List.set_cons_zero, List.set_cons_succ])
  refine wpMix_end ?_
  go_simp
  go_wp2_with fail
  exact bodyPost_ret (v := rlV ⟨t1, t3, n2, RowKit.wrap64 (n2 + 3600), d5, d8⟩) (by simp [results, Tryd.results34, go_sem, r0, r1, r2, r3, r4, r5, r6, r7, r8, r9, r10, r11, r12, r13]) rfl ⟨rfl, K8.out.done _ _ _ _ _ _ _ _ _ _ _ _ _ _⟩
set_option maxRecDepth 100000 in
set_option maxHeartbeats 400000 in
theorem rule_c (s s1 s2 s3 s4 s5 s6 s7 s8 s9 s10 s11 : St) (n2 n5 : Int) (t1 t3 : ByteArray) (b6 b9 : Bool) (d8 d11 : Dy) (S : ByteArray) (g : Nat) (w0 w : World) (h : Rk w0 w g s) (hw : w0.heap.size ≤ w.heap.size) (hl : bs s2.left = S) (hS : S.size ≠ 0) 
    (e1 : namS s = s1) (v1 : bs (namV s) = t1)
    (e2 : offS s1 = s2) (v2 : offV s1 = n2)
    (e3 : namS s2 = s3) (v3 : bs (namV s2) = t3)
    (h4 : nextB 44 s3 = false) (e4 : nextS 44 s3 = s4)
    (e5 : offS s4 = s5) (v5 : offV s4 = n5)
    (h6 : nextB 44 s5 = b6) (e6 : nextS 44 s5 = s6)
    (e7 : St.need s6 b6 = s7)
    (e8 : dayS s7 = s8) (v8 : dayV s7 = d8)
    (h9 : nextB 44 s8 = b9) (e9 : nextS 44 s8 = s9)
    (e10 : St.need s9 b9 = s10)
    (e11 : dayS s10 = s11) (v11 : dayV s10 = d11) :
    Calls Tryd.prog 34 #[.pointer (some ⟨g, 0, none⟩)] w fun e w' => e = .returned (rlV ⟨t1, t3, n2, n5, d8, d11⟩) ∧ Rk w0 w' g s11 := by
  have H1 : Hid (∀ V, Lk w0 w.heap.size V g s → Calls Tryd.prog 57 #[.pointer (some ⟨g, 0, none⟩)] V fun e w' => e = .returned (.string t1) ∧ Lk w0 w.heap.size w' g s1 ∧ V.grownBy w' (some g)) := Lib.hid (Lk.lift fun V hV => by have := name_any s g V V hV; rwa [e1, v1] at this)
  have H2 : Hid (∀ V, Lk w0 w.heap.size V g s1 → Calls Tryd.prog 58 #[.pointer (some ⟨g, 0, none⟩)] V fun e w' => e = .returned (.int .i64 n2) ∧ Lk w0 w.heap.size w' g s2 ∧ V.grownBy w' (some g)) := Lib.hid (Lk.lift fun V hV => by have := offset_any s1 g V V hV; rwa [e2, v2] at this)
  have H3 : Hid (∀ V, Lk w0 w.heap.size V g s2 → Calls Tryd.prog 57 #[.pointer (some ⟨g, 0, none⟩)] V fun e w' => e = .returned (.string t3) ∧ Lk w0 w.heap.size w' g s3 ∧ V.grownBy w' (some g)) := Lib.hid (Lk.lift fun V hV => by have := name_any s2 g V V hV; rwa [e3, v3] at this)
  have H4 : Hid (∀ V, Lk w0 w.heap.size V g s3 → Calls Tryd.prog 59 #[.pointer (some ⟨g, 0, none⟩), .string ⟨#[44]⟩] V fun e w' => e = .returned (.bool false) ∧ Lk w0 w.heap.size w' g s4 ∧ V.grownBy w' (some g)) := Lib.hid (Lk.lift fun V hV => by have := next_any 44 44 rfl s3 g V V hV; rwa [h4, e4] at this)
  have H5 : Hid (∀ V, Lk w0 w.heap.size V g s4 → Calls Tryd.prog 58 #[.pointer (some ⟨g, 0, none⟩)] V fun e w' => e = .returned (.int .i64 n5) ∧ Lk w0 w.heap.size w' g s5 ∧ V.grownBy w' (some g)) := Lib.hid (Lk.lift fun V hV => by have := offset_any s4 g V V hV; rwa [e5, v5] at this)
  have H6 : Hid (∀ V, Lk w0 w.heap.size V g s5 → Calls Tryd.prog 59 #[.pointer (some ⟨g, 0, none⟩), .string ⟨#[44]⟩] V fun e w' => e = .returned (.bool b6) ∧ Lk w0 w.heap.size w' g s6 ∧ V.grownBy w' (some g)) := Lib.hid (Lk.lift fun V hV => by have := next_any 44 44 rfl s5 g V V hV; rwa [h6, e6] at this)
  have H7 : Hid (∀ V, Lk w0 w.heap.size V g s6 → Calls Tryd.prog 60 #[.pointer (some ⟨g, 0, none⟩), .bool b6] V fun e w' => e = .returned (.tuple #[]) ∧ Lk w0 w.heap.size w' g s7 ∧ V.grownBy w' (some g)) := Lib.hid (Lk.lift fun V hV => by have := need_any b6 s6 g V V hV; rwa [e7] at this)
  have H8 : Hid (∀ V, Lk w0 w.heap.size V g s7 → Calls Tryd.prog 61 #[.pointer (some ⟨g, 0, none⟩)] V fun e w' => e = .returned (dyV d8) ∧ Lk w0 w.heap.size w' g s8 ∧ V.grownBy w' (some g)) := Lib.hid (Lk.lift fun V hV => by have := day_any s7 g V V hV (Nat.le_refl _); rwa [e8, v8] at this)
  have H9 : Hid (∀ V, Lk w0 w.heap.size V g s8 → Calls Tryd.prog 59 #[.pointer (some ⟨g, 0, none⟩), .string ⟨#[44]⟩] V fun e w' => e = .returned (.bool b9) ∧ Lk w0 w.heap.size w' g s9 ∧ V.grownBy w' (some g)) := Lib.hid (Lk.lift fun V hV => by have := next_any 44 44 rfl s8 g V V hV; rwa [h9, e9] at this)
  have H10 : Hid (∀ V, Lk w0 w.heap.size V g s9 → Calls Tryd.prog 60 #[.pointer (some ⟨g, 0, none⟩), .bool b9] V fun e w' => e = .returned (.tuple #[]) ∧ Lk w0 w.heap.size w' g s10 ∧ V.grownBy w' (some g)) := Lib.hid (Lk.lift fun V hV => by have := need_any b9 s9 g V V hV; rwa [e10] at this)
  have H11 : Hid (∀ V, Lk w0 w.heap.size V g s10 → Calls Tryd.prog 61 #[.pointer (some ⟨g, 0, none⟩)] V fun e w' => e = .returned (dyV d11) ∧ Lk w0 w.heap.size w' g s11 ∧ V.grownBy w' (some g)) := Lib.hid (Lk.lift fun V hV => by have := day_any s10 g V V hV (Nat.le_refl _); rwa [e11, v11] at this)
  have K0 := Lib.hid (Lk.start h hw 25)
  have HS := Lib.hid hl
  have x1 := ne_empty hS
  clear hl hS h hw e1 v1 e2 v2 e3 v3 h4 e4 e5 v5 h6 e6 e7 e8 v8 h9 e9 e10 e11 v11
  go_enter Tryd.func34, Tryd.ntmps34
  go_wp2_with (first
    | (go_at_call 57; refine (H1.out _ (K0.out)).mono ?_; clear H1; rintro e V1 ⟨rfl, hk, hg⟩; have K1 := Lib.hid hk; have G1 := Lib.hid hg; clear hk hg)
    | (go_at_call 58; refine (H2.out _ (K1.out)).mono ?_; clear H2; rintro e V2 ⟨rfl, hk, hg⟩; have K2 := Lib.hid hk; have G2 := Lib.hid hg; clear hk hg; have c0 := K2.out.rk.rd.c0; (try rw [HS.out] at c0))
    | (go_at_call 57; refine (H3.out _ (K2.out)).mono ?_; clear H3 c0; rintro e V3 ⟨rfl, hk, hg⟩; have K3 := Lib.hid hk; have G3 := Lib.hid hg; clear hk hg)
    | (go_at_call 59; refine (H4.out _ (K3.out)).mono ?_; clear H4; rintro e V4 ⟨rfl, hk, hg⟩; have K4 := Lib.hid hk; have G4 := Lib.hid hg; clear hk hg)
    | (go_at_call 58; refine (H5.out _ (K4.out)).mono ?_; clear H5; rintro e V5 ⟨rfl, hk, hg⟩; have K5 := Lib.hid hk; have G5 := Lib.hid hg; clear hk hg)
    | (go_at_call 59; refine (H6.out _ (K5.out)).mono ?_; clear H6; rintro e V6 ⟨rfl, hk, hg⟩; have K6 := Lib.hid hk; have G6 := Lib.hid hg; clear hk hg)
    | (go_at_call 60; refine (H7.out _ (K6.out)).mono ?_; clear H7; rintro e V7 ⟨rfl, hk, hg⟩; have K7 := Lib.hid hk; have G7 := Lib.hid hg; clear hk hg)
    | (go_at_call 61; refine (H8.out _ (K7.out)).mono ?_; clear H8; rintro e V8 ⟨rfl, hk, hg⟩; have K8 := Lib.hid hk; have G8 := Lib.hid hg; clear hk hg)
    | (go_at_call 59; refine (H9.out _ (K8.out.keep ((Below.refl _ _).alloc (Nat.le_refl _) _))).mono ?_; clear H9; rintro e V9 ⟨rfl, hk, hg⟩; have K9 := Lib.hid hk; have G9 := Lib.hid hg; clear hk hg; have D9 := Lib.hid ((DyAt.new V8 d8 23).gb G9.out (by have := K8.out.rk.rd.lt; omega)))
    | (go_at_call 60; refine (H10.out _ (K9.out)).mono ?_; clear H10; rintro e V10 ⟨rfl, hk, hg⟩; have K10 := Lib.hid hk; have G10 := Lib.hid hg; clear hk hg; have D10 := Lib.hid (D9.out.gb G10.out (by have := K8.out.rk.rd.lt; omega)))
    | fail)
  obtain ⟨X, hX⟩ : ∃ X, V8.heap.size = X := ⟨_, rfl⟩
  have hgX : g < X := by have := K8.out.rk.rd.lt; omega
  rw [hX] at D10 ⊢
  have HGX := Lib.hid hgX
  clear hX hgX
  have p0 := D10.out.c0
  have p1 := D10.out.c1
  have p2 := D10.out.c2
  have p3 := D10.out.c3
  have p4 := D10.out.c4
  refine wp_region_mix (fun z' => z'.cell? ⟨X, 0, none⟩ = some (.int .u8 d8.kind) ∧ z'.cell? ⟨X, 1, none⟩ = some (.int .i64 d8.month) ∧ z'.cell? ⟨X, 2, none⟩ = some (.int .i64 d8.week) ∧ z'.cell? ⟨X, 3, none⟩ = some (.int .i64 d8.day) ∧ z'.cell? ⟨X, 4, none⟩ = some (.int .i64 d8.time)) [true, true, true, true, true, true, false, true] _ (by kernel_rfl) rfl (by kernel_rfl) ⟨p0, p1, p2, p3, p4⟩ ?_
  dsimp only [List.dropLast, List.zip, List.zipWith, List.getLast]
  repeat (apply wpMix_free
          · intro z' hz
            try dsimp only at hz
            go_simp
            all_goals with_reducible rfl
          simp only [Act.put, List.setIfInBounds_toArray, List.set_cons_zero, List.set_cons_succ])
  refine wpMix_turn (fun K hK => ?_)
  have HK := Lib.hid hK; clear hK
  go_simp
  refine (H11.out _ (K10.out.keep (Below.refl _ _).drew)).mono ?_
  rintro e V11 ⟨rfl, hk, hg⟩
  have K11 := Lib.hid hk
  have hD : DyAt V11 X d8 := (D10.out.keep (Below.refl _ _).drew).gb hg (by have := HGX.out; omega)
  clear hk hg p0 p1 p2 p3 p4
  refine HK.out _ _ ⟨hD.c0, hD.c1, hD.c2, hD.c3, hD.c4⟩ ?_
  clear HK hD
  try simp only [Act.put, List.setIfInBounds_toArray, List.set_cons_zero, List.set_cons_succ]
  have r0 := K11.out.r.c0
  have g0 := K11.out.r.fr 0
  have r1 := K11.out.r.c1
  have g1 := K11.out.r.fr 1
  have r2 := K11.out.r.c2
  have g2 := K11.out.r.fr 2
  have r3 := K11.out.r.c3
  have g3 := K11.out.r.fr 3
  have r4 := K11.out.r.c4
  have g4 := K11.out.r.fr 4
  have r5 := K11.out.r.c5
  have g5 := K11.out.r.fr 5
  have r6 := K11.out.r.c6
  have g6 := K11.out.r.fr 6
  have r7 := K11.out.r.c7
  have g7 := K11.out.r.fr 7
  have r8 := K11.out.r.c8
  have g8 := K11.out.r.fr 8
  have r9 := K11.out.r.c9
  have g9 := K11.out.r.fr 9
  have r10 := K11.out.r.c10
  have g10 := K11.out.r.fr 10
  have r11 := K11.out.r.c11
  have g11 := K11.out.r.fr 11
  have r12 := K11.out.r.c12
  have g12 := K11.out.r.fr 12
  have r13 := K11.out.r.c13
  have g13 := K11.out.r.fr 13
  repeat (apply wpMix_free
          · intro z' hz
            try dsimp only at hz
            go_simp
            all_goals with_reducible rfl
          simp only [Act.put, List.setIfInBounds_toArray, List.set_cons_zero, List.set_cons_succ])
  refine wpMix_end ?_
  go_simp
  go_wp2_with fail
  exact bodyPost_ret (v := rlV ⟨t1, t3, n2, n5, d8, d11⟩) (by simp [results, Tryd.results34, go_sem, r0, r1, r2, r3, r4, r5, r6, r7, r8, r9, r10, r11, r12, r13]) rfl ⟨rfl, K11.out.done _ _ _ _ _ _ _ _ _ _ _ _ _ _⟩
theorem rule_any (s : St) (g : Nat) (w0 w : World) (h : Rk w0 w g s) (hw : w0.heap.size ≤ w.heap.size) : Calls Tryd.prog 34 #[.pointer (some ⟨g, 0, none⟩)] w fun e w' => e = .returned (rlV (ruleV s)) ∧ Rk w0 w' g (ruleS s) := by
  unfold ruleV ruleS
  by_cases hz : (offS (namS s)).left = []
  · simp only [hz, if_true]
    exact rule_a s _ _ _ _ _ g w0 w h hw rfl (by rw [hz]; rfl) rfl rfl rfl rfl
  · simp only [hz, if_false]
    have hs : (bs (offS (namS s)).left).size ≠ 0 := fun k => hz (List.eq_nil_of_length_eq_zero k)
    unfold dstV dstS
    cases b1 : nextB 44 (namS (offS (namS s))) with
    | true =>
      simp only [if_true]
      exact rule_b s _ _ _ _ _ _ _ _ _ _ _ _ _ _ _ g w0 w h hw rfl hs rfl rfl rfl rfl rfl rfl b1 rfl rfl rfl rfl rfl rfl rfl rfl
    | false =>
      simp only [Bool.false_eq_true, if_false]
      exact rule_c s _ _ _ _ _ _ _ _ _ _ _ _ _ _ _ _ _ _ _ _ g w0 w h hw rfl hs rfl rfl rfl rfl rfl rfl b1 (nextS_no b1) rfl rfl rfl rfl rfl rfl rfl rfl rfl rfl rfl rfl
end Go.Proofs.YtkfhipkcnocokaaDoor.Fo
