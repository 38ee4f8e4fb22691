/-
  Layer 7 (footer): the law FooterBack (ways by gen_fo7b.py).
-/
import Derived.Test.YtakmnjlcnjkflaaDoorFoBack6
namespace Go.Proofs.YtakmnjlcnjkflaaDoor.Fo
open Go.RowKit
set_option maxRecDepth 100000

/-- What FooterBack keeps. -/
structure Gk (w V : World) : Prop where
  b : Below w.heap.size w V
  e : Er V
  p : Pw V
theorem Gk.keep {w V V' : World} (h : Gk w V) (hb : Below V.heap.size V V') : Gk w V' := ⟨h.b.trans (hb.mono h.b.size), h.e.below hb h.e.hi, h.p.keep hb⟩
theorem Gk.alloc {w V : World} (h : Gk w V) (o : Obj) : Gk w (V.alloc o) := h.keep ((Below.refl V.heap.size V).alloc (Nat.le_refl _) o)
theorem Gk.start {w : World} (h : Er w) (hp : Pw w) (o : Obj) : Gk w (w.alloc o) := (Gk.mk (Below.refl _ _) h hp).alloc o
theorem Gk.lift {w : World} {P : Program} {f : FuncId} {args : Array Value} {v : Ending} (h : ∀ V, Gk w V → Calls P f args V fun e w' => e = v ∧ Below V.heap.size V w') : ∀ V, Gk w V → Calls P f args V fun e w' => e = v ∧ Gk w w' ∧ Below V.heap.size V w' :=
  fun V hV => (h V hV).mono fun _ _ ⟨he, hb⟩ => ⟨he, hV.keep hb, hb⟩
theorem RlAt.go {V V' : World} {B : Nat} {r : Rl} (h : RlAt V B r) (hb : Below V.heap.size V V') : RlAt V' B r := h.below hb h.lt
set_option maxHeartbeats 4000000 in
theorem back_ts (r : Rl) (s : ByteArray) (z1 : ¬ (50 : Int) < r.std.size) (z2 : ¬ (50 : Int) < r.dst.size) (z3 : ¬ (200 : Int) < s.size) (hr : rightR r = true) (y : Rl) (hp : parseR s = some y) (w : World) (her : Er w) (hpw : Pw w) :
    Calls Tryd.prog 5 #[rlV r, .string s] w fun e w' => e = .returned (.bool true) ∧ Below w.heap.size w w' := by
  have G0 : Hid (∀ o, Gk w (w.alloc o)) := Lib.hid (Gk.start her hpw)
  have A0 := Lib.hid (RlAt.new w r 25)
  have HW : Hid (∀ V, Gk w V → Calls Tryd.prog 9 #[] V fun e w' => e = .returned (.bool true) ∧ Gk w w' ∧ Below V.heap.size V w') := Lib.hid (Gk.lift fun V hV => works_any V hV.e)
  have HT : Hid (∀ V, Gk w V → Calls Tryd.prog 11 #[rlV r] V fun e w' => e = .returned (.tuple #[.string (bs (txL r)), .int .i64 0]) ∧ Gk w w' ∧ Below V.heap.size V w') := Lib.hid (Gk.lift fun V hV => by have := text_any r V hV.p; unfold textE at this; simpa only [hr, if_true, if_false, Bool.false_eq_true] using this)
  have hl := tx_len r (right_f hr)
  have HX : Hid (∀ V, Gk w V → Calls Tryd.prog 15 #[.string (bs (txL r))] V fun e w' => e = .returned (.tuple #[rlV r, .int .i64 0]) ∧ Gk w w' ∧ Below V.heap.size V w') := Lib.hid (Gk.lift fun V hV => by have := parse_any (bs (txL r)) V hV.e; unfold parseE at this; rw [parse_tx r hr] at this; exact this)
  have HC : Hid (∀ V, Gk w V → Calls Tryd.prog 15 #[.string (bs (txL r ++ [44]))] V fun e w' => e = .returned (.tuple #[rlV rl0, .int .i64 70]) ∧ Gk w w' ∧ Below V.heap.size V w') := Lib.hid (Gk.lift fun V hV => by have := parse_any (bs (txL r ++ [44])) V hV.e; unfold parseE at this; rw [parse_comma r hr] at this; exact this)
  have a1 : ∀ W, (Op.stringOp .add (bs (txL r)) (bs [44])).run Tryd.prog W = .ok (.string (bs (txL r ++ [44]))) W := add_bs _ [44] _ rfl (Nat.le_trans (app_len hl (show ([44] : List UInt8).length ≤ 1 from Nat.le_refl _)) (by decide))
  obtain ⟨y1, y2, y3⟩ := parse_back hp
  have HY : Hid (∀ V, Gk w V → Calls Tryd.prog 15 #[.string s] V fun e w' => e = .returned (.tuple #[rlV y, .int .i64 0]) ∧ Gk w w' ∧ Below V.heap.size V w') := Lib.hid (Gk.lift fun V hV => by have := parse_any s V hV.e; unfold parseE at this; rw [hp] at this; exact this)
  have HU : Hid (∀ V, Gk w V → Calls Tryd.prog 11 #[rlV y] V fun e w' => e = .returned (.tuple #[.string (bs (txL y)), .int .i64 0]) ∧ Gk w w' ∧ Below V.heap.size V w') := Lib.hid (Gk.lift fun V hV => by have := text_any y V hV.p; unfold textE at this; simpa only [y1, if_true] using this)
  have HZ : Hid (∀ V, Gk w V → Calls Tryd.prog 15 #[.string (bs (txL y))] V fun e w' => e = .returned (.tuple #[rlV y, .int .i64 0]) ∧ Gk w w' ∧ Below V.heap.size V w') := Lib.hid (Gk.lift fun V hV => by have := parse_any (bs (txL y)) V hV.e; unfold parseE at this; rw [y2] at this; exact this)
  have HR : Hid (∀ V, Gk w V → Calls Tryd.prog 13 #[rlV y] V fun e w' => e = .returned (.bool true) ∧ Gk w w' ∧ Below V.heap.size V w') := Lib.hid (Gk.lift fun V hV => by have := right_any y V; rwa [y1] at this)
  have z4 : ((bs (txL y)).size : Int) ≤ (s.size : Int) := by rw [bs_size]; omega
  clear her hpw hr hp hl y1 y2 y3
  generalize bs (txL r ++ [44]) = S2 at *
  generalize bs (txL r) = S1 at *
  generalize bs (txL y) = S3 at *
  generalize rl0 = r0 at *
  go_enter Tryd.func5, Tryd.ntmps5
  go_wp2_with (first
    | (go_at_call 11; refine (HT.out _ (G0.out _)).mono ?_; clear HT; rintro e V1 ⟨rfl, hg, hb⟩; have G1 := Lib.hid hg; have A1 := Lib.hid (A0.out.go hb); clear hg hb)
    | (go_at_call 15; refine (HX.out _ G1.out).mono ?_; clear HX; rintro e V2 ⟨rfl, hg, hb⟩; have G2 : Hid (∀ o, Gk w (V2.alloc o)) := Lib.hid hg.alloc; have A2 : Hid (∀ o, RlAt (V2.alloc o) w.heap.size r) := Lib.hid (A1.out.go hb).alloc; have X2 := Lib.hid (RlAt.new V2 r 25); clear hg hb)
    | (go_at_call 15; refine (HC.out _ (G2.out _)).mono ?_; clear HC; rintro e V3 ⟨rfl, hg, hb⟩; have G3 : Hid (∀ o, Gk w (V3.alloc o)) := Lib.hid hg.alloc; have A3 : Hid (∀ o, RlAt (V3.alloc o) w.heap.size r) := Lib.hid ((A2.out _).go hb).alloc; have X3 : Hid (∀ o, RlAt (V3.alloc o) V2.heap.size r) := Lib.hid (X2.out.go hb).alloc; clear hg hb; have a0 : ∀ o, (V3.alloc o).cell? ⟨w.heap.size, 0, none⟩ = some (.string r.std) := fun o => (A3.out o).c0; have a1 : ∀ o, (V3.alloc o).cell? ⟨w.heap.size, 1, none⟩ = some (.string r.dst) := fun o => (A3.out o).c1; have a2 : ∀ o, (V3.alloc o).cell? ⟨w.heap.size, 2, none⟩ = some (.int .i64 r.off) := fun o => (A3.out o).c2; have a3 : ∀ o, (V3.alloc o).cell? ⟨w.heap.size, 3, none⟩ = some (.int .i64 r.dstOff) := fun o => (A3.out o).c3; have a4 : ∀ o, (V3.alloc o).cell? ⟨w.heap.size, 4, none⟩ = some (.int .u8 r.start.kind) := fun o => (A3.out o).c4; have a5 : ∀ o, (V3.alloc o).cell? ⟨w.heap.size, 5, none⟩ = some (.int .i64 r.start.month) := fun o => (A3.out o).c5; have a6 : ∀ o, (V3.alloc o).cell? ⟨w.heap.size, 6, none⟩ = some (.int .i64 r.start.week) := fun o => (A3.out o).c6; have a7 : ∀ o, (V3.alloc o).cell? ⟨w.heap.size, 7, none⟩ = some (.int .i64 r.start.day) := fun o => (A3.out o).c7; have a8 : ∀ o, (V3.alloc o).cell? ⟨w.heap.size, 8, none⟩ = some (.int .i64 r.start.time) := fun o => (A3.out o).c8; have a9 : ∀ o, (V3.alloc o).cell? ⟨w.heap.size, 9, none⟩ = some (.int .u8 r.end_.kind) := fun o => (A3.out o).c9; have a10 : ∀ o, (V3.alloc o).cell? ⟨w.heap.size, 10, none⟩ = some (.int .i64 r.end_.month) := fun o => (A3.out o).c10; have a11 : ∀ o, (V3.alloc o).cell? ⟨w.heap.size, 11, none⟩ = some (.int .i64 r.end_.week) := fun o => (A3.out o).c11; have a12 : ∀ o, (V3.alloc o).cell? ⟨w.heap.size, 12, none⟩ = some (.int .i64 r.end_.day) := fun o => (A3.out o).c12; have a13 : ∀ o, (V3.alloc o).cell? ⟨w.heap.size, 13, none⟩ = some (.int .i64 r.end_.time) := fun o => (A3.out o).c13; have x0 : ∀ o, (V3.alloc o).cell? ⟨V2.heap.size, 0, none⟩ = some (.string r.std) := fun o => (X3.out o).c0; have x1 : ∀ o, (V3.alloc o).cell? ⟨V2.heap.size, 1, none⟩ = some (.string r.dst) := fun o => (X3.out o).c1; have x2 : ∀ o, (V3.alloc o).cell? ⟨V2.heap.size, 2, none⟩ = some (.int .i64 r.off) := fun o => (X3.out o).c2; have x3 : ∀ o, (V3.alloc o).cell? ⟨V2.heap.size, 3, none⟩ = some (.int .i64 r.dstOff) := fun o => (X3.out o).c3; have x4 : ∀ o, (V3.alloc o).cell? ⟨V2.heap.size, 4, none⟩ = some (.int .u8 r.start.kind) := fun o => (X3.out o).c4; have x5 : ∀ o, (V3.alloc o).cell? ⟨V2.heap.size, 5, none⟩ = some (.int .i64 r.start.month) := fun o => (X3.out o).c5; have x6 : ∀ o, (V3.alloc o).cell? ⟨V2.heap.size, 6, none⟩ = some (.int .i64 r.start.week) := fun o => (X3.out o).c6; have x7 : ∀ o, (V3.alloc o).cell? ⟨V2.heap.size, 7, none⟩ = some (.int .i64 r.start.day) := fun o => (X3.out o).c7; have x8 : ∀ o, (V3.alloc o).cell? ⟨V2.heap.size, 8, none⟩ = some (.int .i64 r.start.time) := fun o => (X3.out o).c8; have x9 : ∀ o, (V3.alloc o).cell? ⟨V2.heap.size, 9, none⟩ = some (.int .u8 r.end_.kind) := fun o => (X3.out o).c9; have x10 : ∀ o, (V3.alloc o).cell? ⟨V2.heap.size, 10, none⟩ = some (.int .i64 r.end_.month) := fun o => (X3.out o).c10; have x11 : ∀ o, (V3.alloc o).cell? ⟨V2.heap.size, 11, none⟩ = some (.int .i64 r.end_.week) := fun o => (X3.out o).c11; have x12 : ∀ o, (V3.alloc o).cell? ⟨V2.heap.size, 12, none⟩ = some (.int .i64 r.end_.day) := fun o => (X3.out o).c12; have x13 : ∀ o, (V3.alloc o).cell? ⟨V2.heap.size, 13, none⟩ = some (.int .i64 r.end_.time) := fun o => (X3.out o).c13)
    | (go_at_call 15; refine (HY.out _ (G3.out _)).mono ?_; clear HY; rintro e V4 ⟨rfl, hg, hb⟩; have G4 : Hid (∀ o, Gk w (V4.alloc o)) := Lib.hid hg.alloc; have Y4 := Lib.hid (RlAt.new V4 y 25); clear hg hb)
    | (go_at_call 11; refine (HU.out _ (G4.out _)).mono ?_; clear HU; rintro e V5 ⟨rfl, hg, hb⟩; have G5 := Lib.hid hg; have Y5 := Lib.hid (Y4.out.go hb); clear hg hb)
    | (go_at_call 15; refine (HZ.out _ G5.out).mono ?_; clear HZ; rintro e V6 ⟨rfl, hg, hb⟩; have G6 : Hid (∀ o, Gk w (V6.alloc o)) := Lib.hid hg.alloc; have Y6 : Hid (∀ o, RlAt (V6.alloc o) V4.heap.size y) := Lib.hid (Y5.out.go hb).alloc; have Z6 := Lib.hid (RlAt.new V6 y 25); clear hg hb; have b0 : ∀ o, (V6.alloc o).cell? ⟨V4.heap.size, 0, none⟩ = some (.string y.std) := fun o => (Y6.out o).c0; have b1 : ∀ o, (V6.alloc o).cell? ⟨V4.heap.size, 1, none⟩ = some (.string y.dst) := fun o => (Y6.out o).c1; have b2 : ∀ o, (V6.alloc o).cell? ⟨V4.heap.size, 2, none⟩ = some (.int .i64 y.off) := fun o => (Y6.out o).c2; have b3 : ∀ o, (V6.alloc o).cell? ⟨V4.heap.size, 3, none⟩ = some (.int .i64 y.dstOff) := fun o => (Y6.out o).c3; have b4 : ∀ o, (V6.alloc o).cell? ⟨V4.heap.size, 4, none⟩ = some (.int .u8 y.start.kind) := fun o => (Y6.out o).c4; have b5 : ∀ o, (V6.alloc o).cell? ⟨V4.heap.size, 5, none⟩ = some (.int .i64 y.start.month) := fun o => (Y6.out o).c5; have b6 : ∀ o, (V6.alloc o).cell? ⟨V4.heap.size, 6, none⟩ = some (.int .i64 y.start.week) := fun o => (Y6.out o).c6; have b7 : ∀ o, (V6.alloc o).cell? ⟨V4.heap.size, 7, none⟩ = some (.int .i64 y.start.day) := fun o => (Y6.out o).c7; have b8 : ∀ o, (V6.alloc o).cell? ⟨V4.heap.size, 8, none⟩ = some (.int .i64 y.start.time) := fun o => (Y6.out o).c8; have b9 : ∀ o, (V6.alloc o).cell? ⟨V4.heap.size, 9, none⟩ = some (.int .u8 y.end_.kind) := fun o => (Y6.out o).c9; have b10 : ∀ o, (V6.alloc o).cell? ⟨V4.heap.size, 10, none⟩ = some (.int .i64 y.end_.month) := fun o => (Y6.out o).c10; have b11 : ∀ o, (V6.alloc o).cell? ⟨V4.heap.size, 11, none⟩ = some (.int .i64 y.end_.week) := fun o => (Y6.out o).c11; have b12 : ∀ o, (V6.alloc o).cell? ⟨V4.heap.size, 12, none⟩ = some (.int .i64 y.end_.day) := fun o => (Y6.out o).c12; have b13 : ∀ o, (V6.alloc o).cell? ⟨V4.heap.size, 13, none⟩ = some (.int .i64 y.end_.time) := fun o => (Y6.out o).c13)
    | (go_at_call 13; refine (HR.out _ (G6.out _)).mono ?_; clear HR; rintro e V7 ⟨rfl, hg, hb⟩; have G7 := Lib.hid hg; have Y7 := Lib.hid ((Y6.out _).go hb); have Z7 := Lib.hid (Z6.out.go hb); clear hg hb; have c0 := Y7.out.c0; have c1 := Y7.out.c1; have c2 := Y7.out.c2; have c3 := Y7.out.c3; have c4 := Y7.out.c4; have c5 := Y7.out.c5; have c6 := Y7.out.c6; have c7 := Y7.out.c7; have c8 := Y7.out.c8; have c9 := Y7.out.c9; have c10 := Y7.out.c10; have c11 := Y7.out.c11; have c12 := Y7.out.c12; have c13 := Y7.out.c13; have d0 := Z7.out.c0; have d1 := Z7.out.c1; have d2 := Z7.out.c2; have d3 := Z7.out.c3; have d4 := Z7.out.c4; have d5 := Z7.out.c5; have d6 := Z7.out.c6; have d7 := Z7.out.c7; have d8 := Z7.out.c8; have d9 := Z7.out.c9; have d10 := Z7.out.c10; have d11 := Z7.out.c11; have d12 := Z7.out.c12; have d13 := Z7.out.c13)
    | (go_at_call 9; refine (HW.out _ G7.out).mono ?_; clear HW; rintro e V8 ⟨rfl, hg, hb⟩; have G8 := Lib.hid hg; clear hg hb)
    | fail)
  go_ret
  exact ⟨rfl, G8.out.b⟩
set_option maxHeartbeats 4000000 in
theorem back_tn (r : Rl) (s : ByteArray) (z1 : ¬ (50 : Int) < r.std.size) (z2 : ¬ (50 : Int) < r.dst.size) (z3 : ¬ (200 : Int) < s.size) (hr : rightR r = true) (hp : parseR s = none) (w : World) (her : Er w) (hpw : Pw w) :
    Calls Tryd.prog 5 #[rlV r, .string s] w fun e w' => e = .returned (.bool true) ∧ Below w.heap.size w w' := by
  have G0 : Hid (∀ o, Gk w (w.alloc o)) := Lib.hid (Gk.start her hpw)
  have A0 := Lib.hid (RlAt.new w r 25)
  have HW : Hid (∀ V, Gk w V → Calls Tryd.prog 9 #[] V fun e w' => e = .returned (.bool true) ∧ Gk w w' ∧ Below V.heap.size V w') := Lib.hid (Gk.lift fun V hV => works_any V hV.e)
  have HT : Hid (∀ V, Gk w V → Calls Tryd.prog 11 #[rlV r] V fun e w' => e = .returned (.tuple #[.string (bs (txL r)), .int .i64 0]) ∧ Gk w w' ∧ Below V.heap.size V w') := Lib.hid (Gk.lift fun V hV => by have := text_any r V hV.p; unfold textE at this; simpa only [hr, if_true, if_false, Bool.false_eq_true] using this)
  have hl := tx_len r (right_f hr)
  have HX : Hid (∀ V, Gk w V → Calls Tryd.prog 15 #[.string (bs (txL r))] V fun e w' => e = .returned (.tuple #[rlV r, .int .i64 0]) ∧ Gk w w' ∧ Below V.heap.size V w') := Lib.hid (Gk.lift fun V hV => by have := parse_any (bs (txL r)) V hV.e; unfold parseE at this; rw [parse_tx r hr] at this; exact this)
  have HC : Hid (∀ V, Gk w V → Calls Tryd.prog 15 #[.string (bs (txL r ++ [44]))] V fun e w' => e = .returned (.tuple #[rlV rl0, .int .i64 70]) ∧ Gk w w' ∧ Below V.heap.size V w') := Lib.hid (Gk.lift fun V hV => by have := parse_any (bs (txL r ++ [44])) V hV.e; unfold parseE at this; rw [parse_comma r hr] at this; exact this)
  have a1 : ∀ W, (Op.stringOp .add (bs (txL r)) (bs [44])).run Tryd.prog W = .ok (.string (bs (txL r ++ [44]))) W := add_bs _ [44] _ rfl (Nat.le_trans (app_len hl (show ([44] : List UInt8).length ≤ 1 from Nat.le_refl _)) (by decide))
  have HY : Hid (∀ V, Gk w V → Calls Tryd.prog 15 #[.string s] V fun e w' => e = .returned (.tuple #[rlV rl0, .int .i64 70]) ∧ Gk w w' ∧ Below V.heap.size V w') := Lib.hid (Gk.lift fun V hV => by have := parse_any s V hV.e; unfold parseE at this; rw [hp] at this; exact this)
  clear her hpw hr hp hl
  generalize bs (txL r ++ [44]) = S2 at *
  generalize bs (txL r) = S1 at *
  generalize rl0 = r0 at *
  go_enter Tryd.func5, Tryd.ntmps5
  go_wp2_with (first
    | (go_at_call 11; refine (HT.out _ (G0.out _)).mono ?_; clear HT; rintro e V1 ⟨rfl, hg, hb⟩; have G1 := Lib.hid hg; have A1 := Lib.hid (A0.out.go hb); clear hg hb)
    | (go_at_call 15; refine (HX.out _ G1.out).mono ?_; clear HX; rintro e V2 ⟨rfl, hg, hb⟩; have G2 : Hid (∀ o, Gk w (V2.alloc o)) := Lib.hid hg.alloc; have A2 : Hid (∀ o, RlAt (V2.alloc o) w.heap.size r) := Lib.hid (A1.out.go hb).alloc; have X2 := Lib.hid (RlAt.new V2 r 25); clear hg hb)
    | (go_at_call 15; refine (HC.out _ (G2.out _)).mono ?_; clear HC; rintro e V3 ⟨rfl, hg, hb⟩; have G3 : Hid (∀ o, Gk w (V3.alloc o)) := Lib.hid hg.alloc; have A3 : Hid (∀ o, RlAt (V3.alloc o) w.heap.size r) := Lib.hid ((A2.out _).go hb).alloc; have X3 : Hid (∀ o, RlAt (V3.alloc o) V2.heap.size r) := Lib.hid (X2.out.go hb).alloc; clear hg hb; have a0 : ∀ o, (V3.alloc o).cell? ⟨w.heap.size, 0, none⟩ = some (.string r.std) := fun o => (A3.out o).c0; have a1 : ∀ o, (V3.alloc o).cell? ⟨w.heap.size, 1, none⟩ = some (.string r.dst) := fun o => (A3.out o).c1; have a2 : ∀ o, (V3.alloc o).cell? ⟨w.heap.size, 2, none⟩ = some (.int .i64 r.off) := fun o => (A3.out o).c2; have a3 : ∀ o, (V3.alloc o).cell? ⟨w.heap.size, 3, none⟩ = some (.int .i64 r.dstOff) := fun o => (A3.out o).c3; have a4 : ∀ o, (V3.alloc o).cell? ⟨w.heap.size, 4, none⟩ = some (.int .u8 r.start.kind) := fun o => (A3.out o).c4; have a5 : ∀ o, (V3.alloc o).cell? ⟨w.heap.size, 5, none⟩ = some (.int .i64 r.start.month) := fun o => (A3.out o).c5; have a6 : ∀ o, (V3.alloc o).cell? ⟨w.heap.size, 6, none⟩ = some (.int .i64 r.start.week) := fun o => (A3.out o).c6; have a7 : ∀ o, (V3.alloc o).cell? ⟨w.heap.size, 7, none⟩ = some (.int .i64 r.start.day) := fun o => (A3.out o).c7; have a8 : ∀ o, (V3.alloc o).cell? ⟨w.heap.size, 8, none⟩ = some (.int .i64 r.start.time) := fun o => (A3.out o).c8; have a9 : ∀ o, (V3.alloc o).cell? ⟨w.heap.size, 9, none⟩ = some (.int .u8 r.end_.kind) := fun o => (A3.out o).c9; have a10 : ∀ o, (V3.alloc o).cell? ⟨w.heap.size, 10, none⟩ = some (.int .i64 r.end_.month) := fun o => (A3.out o).c10; have a11 : ∀ o, (V3.alloc o).cell? ⟨w.heap.size, 11, none⟩ = some (.int .i64 r.end_.week) := fun o => (A3.out o).c11; have a12 : ∀ o, (V3.alloc o).cell? ⟨w.heap.size, 12, none⟩ = some (.int .i64 r.end_.day) := fun o => (A3.out o).c12; have a13 : ∀ o, (V3.alloc o).cell? ⟨w.heap.size, 13, none⟩ = some (.int .i64 r.end_.time) := fun o => (A3.out o).c13; have x0 : ∀ o, (V3.alloc o).cell? ⟨V2.heap.size, 0, none⟩ = some (.string r.std) := fun o => (X3.out o).c0; have x1 : ∀ o, (V3.alloc o).cell? ⟨V2.heap.size, 1, none⟩ = some (.string r.dst) := fun o => (X3.out o).c1; have x2 : ∀ o, (V3.alloc o).cell? ⟨V2.heap.size, 2, none⟩ = some (.int .i64 r.off) := fun o => (X3.out o).c2; have x3 : ∀ o, (V3.alloc o).cell? ⟨V2.heap.size, 3, none⟩ = some (.int .i64 r.dstOff) := fun o => (X3.out o).c3; have x4 : ∀ o, (V3.alloc o).cell? ⟨V2.heap.size, 4, none⟩ = some (.int .u8 r.start.kind) := fun o => (X3.out o).c4; have x5 : ∀ o, (V3.alloc o).cell? ⟨V2.heap.size, 5, none⟩ = some (.int .i64 r.start.month) := fun o => (X3.out o).c5; have x6 : ∀ o, (V3.alloc o).cell? ⟨V2.heap.size, 6, none⟩ = some (.int .i64 r.start.week) := fun o => (X3.out o).c6; have x7 : ∀ o, (V3.alloc o).cell? ⟨V2.heap.size, 7, none⟩ = some (.int .i64 r.start.day) := fun o => (X3.out o).c7; have x8 : ∀ o, (V3.alloc o).cell? ⟨V2.heap.size, 8, none⟩ = some (.int .i64 r.start.time) := fun o => (X3.out o).c8; have x9 : ∀ o, (V3.alloc o).cell? ⟨V2.heap.size, 9, none⟩ = some (.int .u8 r.end_.kind) := fun o => (X3.out o).c9; have x10 : ∀ o, (V3.alloc o).cell? ⟨V2.heap.size, 10, none⟩ = some (.int .i64 r.end_.month) := fun o => (X3.out o).c10; have x11 : ∀ o, (V3.alloc o).cell? ⟨V2.heap.size, 11, none⟩ = some (.int .i64 r.end_.week) := fun o => (X3.out o).c11; have x12 : ∀ o, (V3.alloc o).cell? ⟨V2.heap.size, 12, none⟩ = some (.int .i64 r.end_.day) := fun o => (X3.out o).c12; have x13 : ∀ o, (V3.alloc o).cell? ⟨V2.heap.size, 13, none⟩ = some (.int .i64 r.end_.time) := fun o => (X3.out o).c13)
    | (go_at_call 15; refine (HY.out _ (G3.out _)).mono ?_; clear HY; rintro e V4 ⟨rfl, hg, hb⟩; have G4 : Hid (∀ o, Gk w (V4.alloc o)) := Lib.hid hg.alloc; clear hg hb)
    | (go_at_call 9; refine (HW.out _ (G4.out _)).mono ?_; clear HW; rintro e V8 ⟨rfl, hg, hb⟩; have G8 := Lib.hid hg; clear hg hb)
    | fail)
  go_ret
  exact ⟨rfl, G8.out.b⟩
set_option maxHeartbeats 4000000 in
theorem back_fs (r : Rl) (s : ByteArray) (z1 : ¬ (50 : Int) < r.std.size) (z2 : ¬ (50 : Int) < r.dst.size) (z3 : ¬ (200 : Int) < s.size) (hr : rightR r = false) (y : Rl) (hp : parseR s = some y) (w : World) (her : Er w) (hpw : Pw w) :
    Calls Tryd.prog 5 #[rlV r, .string s] w fun e w' => e = .returned (.bool true) ∧ Below w.heap.size w w' := by
  have G0 : Hid (∀ o, Gk w (w.alloc o)) := Lib.hid (Gk.start her hpw)
  have A0 := Lib.hid (RlAt.new w r 25)
  have HW : Hid (∀ V, Gk w V → Calls Tryd.prog 9 #[] V fun e w' => e = .returned (.bool true) ∧ Gk w w' ∧ Below V.heap.size V w') := Lib.hid (Gk.lift fun V hV => works_any V hV.e)
  have HT : Hid (∀ V, Gk w V → Calls Tryd.prog 11 #[rlV r] V fun e w' => e = .returned (.tuple #[.string ⟨#[]⟩, .int .i64 2]) ∧ Gk w w' ∧ Below V.heap.size V w') := Lib.hid (Gk.lift fun V hV => by have := text_any r V hV.p; unfold textE at this; simpa only [hr, if_true, if_false, Bool.false_eq_true] using this)
  obtain ⟨y1, y2, y3⟩ := parse_back hp
  have HY : Hid (∀ V, Gk w V → Calls Tryd.prog 15 #[.string s] V fun e w' => e = .returned (.tuple #[rlV y, .int .i64 0]) ∧ Gk w w' ∧ Below V.heap.size V w') := Lib.hid (Gk.lift fun V hV => by have := parse_any s V hV.e; unfold parseE at this; rw [hp] at this; exact this)
  have HU : Hid (∀ V, Gk w V → Calls Tryd.prog 11 #[rlV y] V fun e w' => e = .returned (.tuple #[.string (bs (txL y)), .int .i64 0]) ∧ Gk w w' ∧ Below V.heap.size V w') := Lib.hid (Gk.lift fun V hV => by have := text_any y V hV.p; unfold textE at this; simpa only [y1, if_true] using this)
  have HZ : Hid (∀ V, Gk w V → Calls Tryd.prog 15 #[.string (bs (txL y))] V fun e w' => e = .returned (.tuple #[rlV y, .int .i64 0]) ∧ Gk w w' ∧ Below V.heap.size V w') := Lib.hid (Gk.lift fun V hV => by have := parse_any (bs (txL y)) V hV.e; unfold parseE at this; rw [y2] at this; exact this)
  have HR : Hid (∀ V, Gk w V → Calls Tryd.prog 13 #[rlV y] V fun e w' => e = .returned (.bool true) ∧ Gk w w' ∧ Below V.heap.size V w') := Lib.hid (Gk.lift fun V hV => by have := right_any y V; rwa [y1] at this)
  have z4 : ((bs (txL y)).size : Int) ≤ (s.size : Int) := by rw [bs_size]; omega
  clear her hpw hr hp y1 y2 y3
  generalize bs (txL y) = S3 at *
  go_enter Tryd.func5, Tryd.ntmps5
  go_wp2_with (first
    | (go_at_call 11; refine (HT.out _ (G0.out _)).mono ?_; clear HT; rintro e V1 ⟨rfl, hg, hb⟩; have G1 := Lib.hid hg; have A1 := Lib.hid (A0.out.go hb); clear hg hb)
    | (go_at_call 15; refine (HY.out _ G1.out).mono ?_; clear HY; rintro e V4 ⟨rfl, hg, hb⟩; have G4 : Hid (∀ o, Gk w (V4.alloc o)) := Lib.hid hg.alloc; have Y4 := Lib.hid (RlAt.new V4 y 25); clear hg hb)
    | (go_at_call 11; refine (HU.out _ (G4.out _)).mono ?_; clear HU; rintro e V5 ⟨rfl, hg, hb⟩; have G5 := Lib.hid hg; have Y5 := Lib.hid (Y4.out.go hb); clear hg hb)
    | (go_at_call 15; refine (HZ.out _ G5.out).mono ?_; clear HZ; rintro e V6 ⟨rfl, hg, hb⟩; have G6 : Hid (∀ o, Gk w (V6.alloc o)) := Lib.hid hg.alloc; have Y6 : Hid (∀ o, RlAt (V6.alloc o) V4.heap.size y) := Lib.hid (Y5.out.go hb).alloc; have Z6 := Lib.hid (RlAt.new V6 y 25); clear hg hb; have b0 : ∀ o, (V6.alloc o).cell? ⟨V4.heap.size, 0, none⟩ = some (.string y.std) := fun o => (Y6.out o).c0; have b1 : ∀ o, (V6.alloc o).cell? ⟨V4.heap.size, 1, none⟩ = some (.string y.dst) := fun o => (Y6.out o).c1; have b2 : ∀ o, (V6.alloc o).cell? ⟨V4.heap.size, 2, none⟩ = some (.int .i64 y.off) := fun o => (Y6.out o).c2; have b3 : ∀ o, (V6.alloc o).cell? ⟨V4.heap.size, 3, none⟩ = some (.int .i64 y.dstOff) := fun o => (Y6.out o).c3; have b4 : ∀ o, (V6.alloc o).cell? ⟨V4.heap.size, 4, none⟩ = some (.int .u8 y.start.kind) := fun o => (Y6.out o).c4; have b5 : ∀ o, (V6.alloc o).cell? ⟨V4.heap.size, 5, none⟩ = some (.int .i64 y.start.month) := fun o => (Y6.out o).c5; have b6 : ∀ o, (V6.alloc o).cell? ⟨V4.heap.size, 6, none⟩ = some (.int .i64 y.start.week) := fun o => (Y6.out o).c6; have b7 : ∀ o, (V6.alloc o).cell? ⟨V4.heap.size, 7, none⟩ = some (.int .i64 y.start.day) := fun o => (Y6.out o).c7; have b8 : ∀ o, (V6.alloc o).cell? ⟨V4.heap.size, 8, none⟩ = some (.int .i64 y.start.time) := fun o => (Y6.out o).c8; have b9 : ∀ o, (V6.alloc o).cell? ⟨V4.heap.size, 9, none⟩ = some (.int .u8 y.end_.kind) := fun o => (Y6.out o).c9; have b10 : ∀ o, (V6.alloc o).cell? ⟨V4.heap.size, 10, none⟩ = some (.int .i64 y.end_.month) := fun o => (Y6.out o).c10; have b11 : ∀ o, (V6.alloc o).cell? ⟨V4.heap.size, 11, none⟩ = some (.int .i64 y.end_.week) := fun o => (Y6.out o).c11; have b12 : ∀ o, (V6.alloc o).cell? ⟨V4.heap.size, 12, none⟩ = some (.int .i64 y.end_.day) := fun o => (Y6.out o).c12; have b13 : ∀ o, (V6.alloc o).cell? ⟨V4.heap.size, 13, none⟩ = some (.int .i64 y.end_.time) := fun o => (Y6.out o).c13)
    | (go_at_call 13; refine (HR.out _ (G6.out _)).mono ?_; clear HR; rintro e V7 ⟨rfl, hg, hb⟩; have G7 := Lib.hid hg; have Y7 := Lib.hid ((Y6.out _).go hb); have Z7 := Lib.hid (Z6.out.go hb); clear hg hb; have c0 := Y7.out.c0; have c1 := Y7.out.c1; have c2 := Y7.out.c2; have c3 := Y7.out.c3; have c4 := Y7.out.c4; have c5 := Y7.out.c5; have c6 := Y7.out.c6; have c7 := Y7.out.c7; have c8 := Y7.out.c8; have c9 := Y7.out.c9; have c10 := Y7.out.c10; have c11 := Y7.out.c11; have c12 := Y7.out.c12; have c13 := Y7.out.c13; have d0 := Z7.out.c0; have d1 := Z7.out.c1; have d2 := Z7.out.c2; have d3 := Z7.out.c3; have d4 := Z7.out.c4; have d5 := Z7.out.c5; have d6 := Z7.out.c6; have d7 := Z7.out.c7; have d8 := Z7.out.c8; have d9 := Z7.out.c9; have d10 := Z7.out.c10; have d11 := Z7.out.c11; have d12 := Z7.out.c12; have d13 := Z7.out.c13)
    | (go_at_call 9; refine (HW.out _ G7.out).mono ?_; clear HW; rintro e V8 ⟨rfl, hg, hb⟩; have G8 := Lib.hid hg; clear hg hb)
    | fail)
  go_ret
  exact ⟨rfl, G8.out.b⟩
set_option maxHeartbeats 4000000 in
theorem back_fn (r : Rl) (s : ByteArray) (z1 : ¬ (50 : Int) < r.std.size) (z2 : ¬ (50 : Int) < r.dst.size) (z3 : ¬ (200 : Int) < s.size) (hr : rightR r = false) (hp : parseR s = none) (w : World) (her : Er w) (hpw : Pw w) :
    Calls Tryd.prog 5 #[rlV r, .string s] w fun e w' => e = .returned (.bool true) ∧ Below w.heap.size w w' := by
  have G0 : Hid (∀ o, Gk w (w.alloc o)) := Lib.hid (Gk.start her hpw)
  have A0 := Lib.hid (RlAt.new w r 25)
  have HW : Hid (∀ V, Gk w V → Calls Tryd.prog 9 #[] V fun e w' => e = .returned (.bool true) ∧ Gk w w' ∧ Below V.heap.size V w') := Lib.hid (Gk.lift fun V hV => works_any V hV.e)
  have HT : Hid (∀ V, Gk w V → Calls Tryd.prog 11 #[rlV r] V fun e w' => e = .returned (.tuple #[.string ⟨#[]⟩, .int .i64 2]) ∧ Gk w w' ∧ Below V.heap.size V w') := Lib.hid (Gk.lift fun V hV => by have := text_any r V hV.p; unfold textE at this; simpa only [hr, if_true, if_false, Bool.false_eq_true] using this)
  have HY : Hid (∀ V, Gk w V → Calls Tryd.prog 15 #[.string s] V fun e w' => e = .returned (.tuple #[rlV rl0, .int .i64 70]) ∧ Gk w w' ∧ Below V.heap.size V w') := Lib.hid (Gk.lift fun V hV => by have := parse_any s V hV.e; unfold parseE at this; rw [hp] at this; exact this)
  clear her hpw hr hp
  generalize rl0 = r0 at *
  go_enter Tryd.func5, Tryd.ntmps5
  go_wp2_with (first
    | (go_at_call 11; refine (HT.out _ (G0.out _)).mono ?_; clear HT; rintro e V1 ⟨rfl, hg, hb⟩; have G1 := Lib.hid hg; have A1 := Lib.hid (A0.out.go hb); clear hg hb)
    | (go_at_call 15; refine (HY.out _ G1.out).mono ?_; clear HY; rintro e V4 ⟨rfl, hg, hb⟩; have G4 : Hid (∀ o, Gk w (V4.alloc o)) := Lib.hid hg.alloc; clear hg hb)
    | (go_at_call 9; refine (HW.out _ (G4.out _)).mono ?_; clear HW; rintro e V8 ⟨rfl, hg, hb⟩; have G8 := Lib.hid hg; clear hg hb)
    | fail)
  go_ret
  exact ⟨rfl, G8.out.b⟩
set_option maxHeartbeats 4000000 in
theorem back_0 (r : Rl) (s : ByteArray) (z1 : (50 : Int) < r.std.size) (w : World) (her : Er w) (hpw : Pw w) :
    Calls Tryd.prog 5 #[rlV r, .string s] w fun e w' => e = .returned (.bool true) ∧ Below w.heap.size w w' := by
  have G0 : Hid (∀ o, Gk w (w.alloc o)) := Lib.hid (Gk.start her hpw)
  have HW : Hid (∀ V, Gk w V → Calls Tryd.prog 9 #[] V fun e w' => e = .returned (.bool true) ∧ Gk w w' ∧ Below V.heap.size V w') := Lib.hid (Gk.lift fun V hV => works_any V hV.e)
  clear her hpw
  go_enter Tryd.func5, Tryd.ntmps5
  go_wp2_with (first
    | (go_at_call 9; refine (HW.out _ (G0.out _)).mono ?_; clear HW; rintro e V8 ⟨rfl, hg, hb⟩; have G8 := Lib.hid hg; clear hg hb)
    | fail)
  go_ret
  exact ⟨rfl, G8.out.b⟩
set_option maxHeartbeats 4000000 in
theorem back_1 (r : Rl) (s : ByteArray) (z1 : ¬ (50 : Int) < r.std.size) (z2 : (50 : Int) < r.dst.size) (w : World) (her : Er w) (hpw : Pw w) :
    Calls Tryd.prog 5 #[rlV r, .string s] w fun e w' => e = .returned (.bool true) ∧ Below w.heap.size w w' := by
  have G0 : Hid (∀ o, Gk w (w.alloc o)) := Lib.hid (Gk.start her hpw)
  have HW : Hid (∀ V, Gk w V → Calls Tryd.prog 9 #[] V fun e w' => e = .returned (.bool true) ∧ Gk w w' ∧ Below V.heap.size V w') := Lib.hid (Gk.lift fun V hV => works_any V hV.e)
  clear her hpw
  go_enter Tryd.func5, Tryd.ntmps5
  go_wp2_with (first
    | (go_at_call 9; refine (HW.out _ (G0.out _)).mono ?_; clear HW; rintro e V8 ⟨rfl, hg, hb⟩; have G8 := Lib.hid hg; clear hg hb)
    | fail)
  go_ret
  exact ⟨rfl, G8.out.b⟩
set_option maxHeartbeats 4000000 in
theorem back_2 (r : Rl) (s : ByteArray) (z1 : ¬ (50 : Int) < r.std.size) (z2 : ¬ (50 : Int) < r.dst.size) (z3 : (200 : Int) < s.size) (w : World) (her : Er w) (hpw : Pw w) :
    Calls Tryd.prog 5 #[rlV r, .string s] w fun e w' => e = .returned (.bool true) ∧ Below w.heap.size w w' := by
  have G0 : Hid (∀ o, Gk w (w.alloc o)) := Lib.hid (Gk.start her hpw)
  have HW : Hid (∀ V, Gk w V → Calls Tryd.prog 9 #[] V fun e w' => e = .returned (.bool true) ∧ Gk w w' ∧ Below V.heap.size V w') := Lib.hid (Gk.lift fun V hV => works_any V hV.e)
  clear her hpw
  go_enter Tryd.func5, Tryd.ntmps5
  go_wp2_with (first
    | (go_at_call 9; refine (HW.out _ (G0.out _)).mono ?_; clear HW; rintro e V8 ⟨rfl, hg, hb⟩; have G8 := Lib.hid hg; clear hg hb)
    | fail)
  go_ret
  exact ⟨rfl, G8.out.b⟩
theorem footerBack_any (r : Rl) (s : ByteArray) (w : World) (her : Er w) (hpw : Pw w) :
    Calls Tryd.prog 5 #[rlV r, .string s] w fun e w' => e = .returned (.bool true) ∧ Below w.heap.size w w' := by
  by_cases z1 : (50 : Int) < r.std.size
  · exact back_0 r s z1 w her hpw
  by_cases z2 : (50 : Int) < r.dst.size
  · exact back_1 r s z1 z2 w her hpw
  by_cases z3 : (200 : Int) < s.size
  · exact back_2 r s z1 z2 z3 w her hpw
  cases hr : rightR r with
  | true =>
    cases hp : parseR s with
    | some y => exact back_ts r s z1 z2 z3 hr y hp w her hpw
    | none => exact back_tn r s z1 z2 z3 hr hp w her hpw
  | false =>
    cases hp : parseR s with
    | some y => exact back_fs r s z1 z2 z3 hr y hp w her hpw
    | none => exact back_fn r s z1 z2 z3 hr hp w her hpw
end Go.Proofs.YtakmnjlcnjkflaaDoor.Fo
