/-
  Layer 7 (footer): the law FooterTexts (ways by gen_fo7k.py).
-/
import Derived.Test.YtkfhipkcnocokaaDoorFoRef8
import Derived.Test.YtkfhipkcnocokaaDoorFoRef9
import Derived.Test.YtkfhipkcnocokaaDoorFoLawPlain
namespace Go.Proofs.YtkfhipkcnocokaaDoor.Fo
open Go.RowKit
set_option maxRecDepth 100000

/-- What FooterTexts keeps. -/
structure Gt (w V : World) : Prop where
  b : Below w.heap.size w V
  e : Er V
  p : Pw V
theorem Gt.keep {w V V' : World} (h : Gt w V) (hb : Below V.heap.size V V') : Gt w V' := ⟨h.b.trans (hb.mono h.b.size), h.e.below hb h.e.hi, h.p.keep hb⟩
theorem Gt.alloc {w V : World} (h : Gt w V) (o : Obj) : Gt w (V.alloc o) := h.keep ((Below.refl V.heap.size V).alloc (Nat.le_refl _) o)
theorem Gt.start {w : World} (h : Er w) (hp : Pw w) (o : Obj) : Gt w (w.alloc o) := (Gt.mk (Below.refl _ _) h hp).alloc o
theorem Gt.lift {w : World} {P : Program} {f : FuncId} {args : Array Value} {v : Ending} (h : ∀ V, Gt w V → Calls P f args V fun e w' => e = v ∧ Below V.heap.size V w') : ∀ V, Gt w V → Calls P f args V fun e w' => e = v ∧ Gt w w' ∧ Below V.heap.size V w' :=
  fun V hV => (h V hV).mono fun _ _ ⟨he, hb⟩ => ⟨he, hV.keep hb, hb⟩
theorem RlAt.on {V V' : World} {B : Nat} {r : Rl} (h : RlAt V B r) (hb : Below V.heap.size V V') : RlAt V' B r := h.below hb h.lt
theorem RlAt.al {V : World} {B : Nat} {r : Rl} (h : RlAt V B r) (o : Obj) : RlAt (V.alloc o) B r := h.on ((Below.refl V.heap.size V).alloc (Nat.le_refl _) o)
set_option maxHeartbeats 4000000 in
theorem texts_true (r : Rl) (z1 : ¬ (50 : Int) < r.std.size) (z2 : ¬ (50 : Int) < r.dst.size) (hr : rightR r = true) (w : World) (her : Er w) (hpw : Pw w) :
    Calls Tryd.prog 3 #[rlV r] w fun e w' => e = .returned (.bool true) ∧ Below w.heap.size w w' := by
  have G0 : Hid (∀ o, Gt w (w.alloc o)) := Lib.hid (Gt.start her hpw)
  have A0 := Lib.hid (RlAt.new w r 25)
  have HW : Hid (∀ V, Gt w V → Calls Tryd.prog 9 #[] V fun e w' => e = .returned (.bool true) ∧ Gt w w' ∧ Below V.heap.size V w') := Lib.hid (Gt.lift fun V hV => works_any V hV.e)
  have HL : Hid (∀ V, Gt w V → Calls Tryd.prog 10 #[rlV r] V fun e w' => e = .returned (rlV r) ∧ Gt w w' ∧ Below V.heap.size V w') := Lib.hid (Gt.lift fun V _ => lplain_any r V)
  have HT : Hid (∀ V, Gt w V → Calls Tryd.prog 11 #[rlV r] V fun e w' => e = .returned (.tuple #[.string (bs (txL r)), .int .i64 0]) ∧ Gt w w' ∧ Below V.heap.size V w') := Lib.hid (Gt.lift fun V hV => by have := text_any r V hV.p; unfold textE at this; simpa only [hr, if_true, if_false, Bool.false_eq_true] using this)
  have HR : Hid (∀ V, Gt w V → Calls Tryd.prog 13 #[rlV r] V fun e w' => e = .returned (.bool true) ∧ Gt w w' ∧ Below V.heap.size V w') := Lib.hid (Gt.lift fun V _ => by have := right_any r V; rwa [hr] at this)
  have HRR : Hid (∀ V, Gt w V → Calls Tryd.prog 12 #[rlV r] V fun e w' => e = .returned (.bool true) ∧ Gt w w' ∧ Below V.heap.size V w') := Lib.hid (Gt.lift fun V _ => by have := rright_any r (by omega) (by omega) V; rwa [hr] at this)
  have HRT : Hid (∀ V, Gt w V → Calls Tryd.prog 14 #[rlV r] V fun e w' => e = .returned (.string (bs (txL r))) ∧ Gt w w' ∧ Below V.heap.size V w') := Lib.hid (Gt.lift fun V hV => rtext_any r hr V hV.p)
  clear her hpw hr
  generalize bs (txL r) = S1 at *
  go_enter Tryd.func3, Tryd.ntmps3
  go_wp2_with (first
    | (go_at_call 10; refine (HL.out _ (G0.out _)).mono ?_; clear HL; rintro e V1 ⟨rfl, hg, hb⟩; have G1 : Hid (∀ o, Gt w (V1.alloc o)) := Lib.hid hg.alloc; have A1 : Hid (∀ o, RlAt (V1.alloc o) w.heap.size r) := Lib.hid (A0.out.on hb).al; have M1 := Lib.hid (RlAt.new V1 r 29); clear hg hb; have a0 : ∀ o, (V1.alloc o).cell? ⟨w.heap.size, 0, none⟩ = some (.string r.std) := fun o => (A1.out o).c0; have a1 : ∀ o, (V1.alloc o).cell? ⟨w.heap.size, 1, none⟩ = some (.string r.dst) := fun o => (A1.out o).c1; have a2 : ∀ o, (V1.alloc o).cell? ⟨w.heap.size, 2, none⟩ = some (.int .i64 r.off) := fun o => (A1.out o).c2; have a3 : ∀ o, (V1.alloc o).cell? ⟨w.heap.size, 3, none⟩ = some (.int .i64 r.dstOff) := fun o => (A1.out o).c3; have a4 : ∀ o, (V1.alloc o).cell? ⟨w.heap.size, 4, none⟩ = some (.int .u8 r.start.kind) := fun o => (A1.out o).c4; have a5 : ∀ o, (V1.alloc o).cell? ⟨w.heap.size, 5, none⟩ = some (.int .i64 r.start.month) := fun o => (A1.out o).c5; have a6 : ∀ o, (V1.alloc o).cell? ⟨w.heap.size, 6, none⟩ = some (.int .i64 r.start.week) := fun o => (A1.out o).c6; have a7 : ∀ o, (V1.alloc o).cell? ⟨w.heap.size, 7, none⟩ = some (.int .i64 r.start.day) := fun o => (A1.out o).c7; have a8 : ∀ o, (V1.alloc o).cell? ⟨w.heap.size, 8, none⟩ = some (.int .i64 r.start.time) := fun o => (A1.out o).c8; have a9 : ∀ o, (V1.alloc o).cell? ⟨w.heap.size, 9, none⟩ = some (.int .u8 r.end_.kind) := fun o => (A1.out o).c9; have a10 : ∀ o, (V1.alloc o).cell? ⟨w.heap.size, 10, none⟩ = some (.int .i64 r.end_.month) := fun o => (A1.out o).c10; have a11 : ∀ o, (V1.alloc o).cell? ⟨w.heap.size, 11, none⟩ = some (.int .i64 r.end_.week) := fun o => (A1.out o).c11; have a12 : ∀ o, (V1.alloc o).cell? ⟨w.heap.size, 12, none⟩ = some (.int .i64 r.end_.day) := fun o => (A1.out o).c12; have a13 : ∀ o, (V1.alloc o).cell? ⟨w.heap.size, 13, none⟩ = some (.int .i64 r.end_.time) := fun o => (A1.out o).c13)
    | (go_at_call 11; refine (HT.out _ (G1.out _)).mono ?_; clear HT; rintro e V2 ⟨rfl, hg, hb⟩; have G2 := Lib.hid hg; have A2 := Lib.hid ((A1.out _).on hb); have M2 := Lib.hid (M1.out.on hb); clear hg hb; clear a0 a1 a2 a3 a4 a5 a6 a7 a8 a9 a10 a11 a12 a13; have a0 := A2.out.c0; have a1 := A2.out.c1; have a2 := A2.out.c2; have a3 := A2.out.c3; have a4 := A2.out.c4; have a5 := A2.out.c5; have a6 := A2.out.c6; have a7 := A2.out.c7; have a8 := A2.out.c8; have a9 := A2.out.c9; have a10 := A2.out.c10; have a11 := A2.out.c11; have a12 := A2.out.c12; have a13 := A2.out.c13; have m0 := M2.out.c0; have m1 := M2.out.c1; have m2 := M2.out.c2; have m3 := M2.out.c3; have m4 := M2.out.c4; have m5 := M2.out.c5; have m6 := M2.out.c6; have m7 := M2.out.c7; have m8 := M2.out.c8; have m9 := M2.out.c9; have m10 := M2.out.c10; have m11 := M2.out.c11; have m12 := M2.out.c12; have m13 := M2.out.c13)
    | (go_at_call 12; refine (HRR.out _ G2.out).mono ?_; clear HRR; rintro e V3 ⟨rfl, hg, hb⟩; have G3 := Lib.hid hg; have A3 := Lib.hid (A2.out.on hb); have M3 := Lib.hid (M2.out.on hb); clear hg hb; clear a0 m0 a1 m1 a2 m2 a3 m3 a4 m4 a5 m5 a6 m6 a7 m7 a8 m8 a9 m9 a10 m10 a11 m11 a12 m12 a13 m13; have a0 := A3.out.c0; have a1 := A3.out.c1; have a2 := A3.out.c2; have a3 := A3.out.c3; have a4 := A3.out.c4; have a5 := A3.out.c5; have a6 := A3.out.c6; have a7 := A3.out.c7; have a8 := A3.out.c8; have a9 := A3.out.c9; have a10 := A3.out.c10; have a11 := A3.out.c11; have a12 := A3.out.c12; have a13 := A3.out.c13)
    | (go_at_call 13; refine (HR.out _ G3.out).mono ?_; clear HR; rintro e V4 ⟨rfl, hg, hb⟩; have G4 := Lib.hid hg; have M4 := Lib.hid (M3.out.on hb); clear hg hb; clear a0 a1 a2 a3 a4 a5 a6 a7 a8 a9 a10 a11 a12 a13; have m0 := M4.out.c0; have m1 := M4.out.c1; have m2 := M4.out.c2; have m3 := M4.out.c3; have m4 := M4.out.c4; have m5 := M4.out.c5; have m6 := M4.out.c6; have m7 := M4.out.c7; have m8 := M4.out.c8; have m9 := M4.out.c9; have m10 := M4.out.c10; have m11 := M4.out.c11; have m12 := M4.out.c12; have m13 := M4.out.c13)
    | (go_at_call 14; refine (HRT.out _ G4.out).mono ?_; clear HRT; rintro e V5 ⟨rfl, hg, hb⟩; have G5 := Lib.hid hg; clear hg hb)
    | (go_at_call 9; refine (HW.out _ G5.out).mono ?_; clear HW; rintro e V8 ⟨rfl, hg, hb⟩; have G8 := Lib.hid hg; clear hg hb)
    | fail)
  go_ret
  exact ⟨rfl, G8.out.b⟩
set_option maxHeartbeats 4000000 in
theorem texts_false (r : Rl) (z1 : ¬ (50 : Int) < r.std.size) (z2 : ¬ (50 : Int) < r.dst.size) (hr : rightR r = false) (w : World) (her : Er w) (hpw : Pw w) :
    Calls Tryd.prog 3 #[rlV r] w fun e w' => e = .returned (.bool true) ∧ Below w.heap.size w w' := by
  have G0 : Hid (∀ o, Gt w (w.alloc o)) := Lib.hid (Gt.start her hpw)
  have A0 := Lib.hid (RlAt.new w r 25)
  have HW : Hid (∀ V, Gt w V → Calls Tryd.prog 9 #[] V fun e w' => e = .returned (.bool true) ∧ Gt w w' ∧ Below V.heap.size V w') := Lib.hid (Gt.lift fun V hV => works_any V hV.e)
  have HL : Hid (∀ V, Gt w V → Calls Tryd.prog 10 #[rlV r] V fun e w' => e = .returned (rlV r) ∧ Gt w w' ∧ Below V.heap.size V w') := Lib.hid (Gt.lift fun V _ => lplain_any r V)
  have HT : Hid (∀ V, Gt w V → Calls Tryd.prog 11 #[rlV r] V fun e w' => e = .returned (.tuple #[.string ⟨#[]⟩, .int .i64 2]) ∧ Gt w w' ∧ Below V.heap.size V w') := Lib.hid (Gt.lift fun V hV => by have := text_any r V hV.p; unfold textE at this; simpa only [hr, if_true, if_false, Bool.false_eq_true] using this)
  have HR : Hid (∀ V, Gt w V → Calls Tryd.prog 13 #[rlV r] V fun e w' => e = .returned (.bool false) ∧ Gt w w' ∧ Below V.heap.size V w') := Lib.hid (Gt.lift fun V _ => by have := right_any r V; rwa [hr] at this)
  have HRR : Hid (∀ V, Gt w V → Calls Tryd.prog 12 #[rlV r] V fun e w' => e = .returned (.bool false) ∧ Gt w w' ∧ Below V.heap.size V w') := Lib.hid (Gt.lift fun V _ => by have := rright_any r (by omega) (by omega) V; rwa [hr] at this)
  clear her hpw hr
  go_enter Tryd.func3, Tryd.ntmps3
  go_wp2_with (first
    | (go_at_call 10; refine (HL.out _ (G0.out _)).mono ?_; clear HL; rintro e V1 ⟨rfl, hg, hb⟩; have G1 : Hid (∀ o, Gt w (V1.alloc o)) := Lib.hid hg.alloc; have A1 : Hid (∀ o, RlAt (V1.alloc o) w.heap.size r) := Lib.hid (A0.out.on hb).al; have M1 := Lib.hid (RlAt.new V1 r 29); clear hg hb; have a0 : ∀ o, (V1.alloc o).cell? ⟨w.heap.size, 0, none⟩ = some (.string r.std) := fun o => (A1.out o).c0; have a1 : ∀ o, (V1.alloc o).cell? ⟨w.heap.size, 1, none⟩ = some (.string r.dst) := fun o => (A1.out o).c1; have a2 : ∀ o, (V1.alloc o).cell? ⟨w.heap.size, 2, none⟩ = some (.int .i64 r.off) := fun o => (A1.out o).c2; have a3 : ∀ o, (V1.alloc o).cell? ⟨w.heap.size, 3, none⟩ = some (.int .i64 r.dstOff) := fun o => (A1.out o).c3; have a4 : ∀ o, (V1.alloc o).cell? ⟨w.heap.size, 4, none⟩ = some (.int .u8 r.start.kind) := fun o => (A1.out o).c4; have a5 : ∀ o, (V1.alloc o).cell? ⟨w.heap.size, 5, none⟩ = some (.int .i64 r.start.month) := fun o => (A1.out o).c5; have a6 : ∀ o, (V1.alloc o).cell? ⟨w.heap.size, 6, none⟩ = some (.int .i64 r.start.week) := fun o => (A1.out o).c6; have a7 : ∀ o, (V1.alloc o).cell? ⟨w.heap.size, 7, none⟩ = some (.int .i64 r.start.day) := fun o => (A1.out o).c7; have a8 : ∀ o, (V1.alloc o).cell? ⟨w.heap.size, 8, none⟩ = some (.int .i64 r.start.time) := fun o => (A1.out o).c8; have a9 : ∀ o, (V1.alloc o).cell? ⟨w.heap.size, 9, none⟩ = some (.int .u8 r.end_.kind) := fun o => (A1.out o).c9; have a10 : ∀ o, (V1.alloc o).cell? ⟨w.heap.size, 10, none⟩ = some (.int .i64 r.end_.month) := fun o => (A1.out o).c10; have a11 : ∀ o, (V1.alloc o).cell? ⟨w.heap.size, 11, none⟩ = some (.int .i64 r.end_.week) := fun o => (A1.out o).c11; have a12 : ∀ o, (V1.alloc o).cell? ⟨w.heap.size, 12, none⟩ = some (.int .i64 r.end_.day) := fun o => (A1.out o).c12; have a13 : ∀ o, (V1.alloc o).cell? ⟨w.heap.size, 13, none⟩ = some (.int .i64 r.end_.time) := fun o => (A1.out o).c13)
    | (go_at_call 11; refine (HT.out _ (G1.out _)).mono ?_; clear HT; rintro e V2 ⟨rfl, hg, hb⟩; have G2 := Lib.hid hg; have A2 := Lib.hid ((A1.out _).on hb); have M2 := Lib.hid (M1.out.on hb); clear hg hb; clear a0 a1 a2 a3 a4 a5 a6 a7 a8 a9 a10 a11 a12 a13; have a0 := A2.out.c0; have a1 := A2.out.c1; have a2 := A2.out.c2; have a3 := A2.out.c3; have a4 := A2.out.c4; have a5 := A2.out.c5; have a6 := A2.out.c6; have a7 := A2.out.c7; have a8 := A2.out.c8; have a9 := A2.out.c9; have a10 := A2.out.c10; have a11 := A2.out.c11; have a12 := A2.out.c12; have a13 := A2.out.c13; have m0 := M2.out.c0; have m1 := M2.out.c1; have m2 := M2.out.c2; have m3 := M2.out.c3; have m4 := M2.out.c4; have m5 := M2.out.c5; have m6 := M2.out.c6; have m7 := M2.out.c7; have m8 := M2.out.c8; have m9 := M2.out.c9; have m10 := M2.out.c10; have m11 := M2.out.c11; have m12 := M2.out.c12; have m13 := M2.out.c13)
    | (go_at_call 12; refine (HRR.out _ G2.out).mono ?_; clear HRR; rintro e V3 ⟨rfl, hg, hb⟩; have G3 := Lib.hid hg; have A3 := Lib.hid (A2.out.on hb); have M3 := Lib.hid (M2.out.on hb); clear hg hb; clear a0 m0 a1 m1 a2 m2 a3 m3 a4 m4 a5 m5 a6 m6 a7 m7 a8 m8 a9 m9 a10 m10 a11 m11 a12 m12 a13 m13; have a0 := A3.out.c0; have a1 := A3.out.c1; have a2 := A3.out.c2; have a3 := A3.out.c3; have a4 := A3.out.c4; have a5 := A3.out.c5; have a6 := A3.out.c6; have a7 := A3.out.c7; have a8 := A3.out.c8; have a9 := A3.out.c9; have a10 := A3.out.c10; have a11 := A3.out.c11; have a12 := A3.out.c12; have a13 := A3.out.c13)
    | (go_at_call 13; refine (HR.out _ G3.out).mono ?_; clear HR; rintro e V4 ⟨rfl, hg, hb⟩; have G4 := Lib.hid hg; have M4 := Lib.hid (M3.out.on hb); clear hg hb; clear a0 a1 a2 a3 a4 a5 a6 a7 a8 a9 a10 a11 a12 a13; have m0 := M4.out.c0; have m1 := M4.out.c1; have m2 := M4.out.c2; have m3 := M4.out.c3; have m4 := M4.out.c4; have m5 := M4.out.c5; have m6 := M4.out.c6; have m7 := M4.out.c7; have m8 := M4.out.c8; have m9 := M4.out.c9; have m10 := M4.out.c10; have m11 := M4.out.c11; have m12 := M4.out.c12; have m13 := M4.out.c13)
    | (go_at_call 9; refine (HW.out _ G4.out).mono ?_; clear HW; rintro e V8 ⟨rfl, hg, hb⟩; have G8 := Lib.hid hg; clear hg hb)
    | fail)
  go_ret
  exact ⟨rfl, G8.out.b⟩
set_option maxHeartbeats 4000000 in
theorem texts_0 (r : Rl) (z1 : (50 : Int) < r.std.size) (w : World) (her : Er w) (hpw : Pw w) :
    Calls Tryd.prog 3 #[rlV r] w fun e w' => e = .returned (.bool true) ∧ Below w.heap.size w w' := by
  have G0 : Hid (∀ o, Gt w (w.alloc o)) := Lib.hid (Gt.start her hpw)
  have HW : Hid (∀ V, Gt w V → Calls Tryd.prog 9 #[] V fun e w' => e = .returned (.bool true) ∧ Gt w w' ∧ Below V.heap.size V w') := Lib.hid (Gt.lift fun V hV => works_any V hV.e)
  clear her hpw
  go_enter Tryd.func3, Tryd.ntmps3
  go_wp2_with (first
    | (go_at_call 9; refine (HW.out _ (G0.out _)).mono ?_; clear HW; rintro e V8 ⟨rfl, hg, hb⟩; have G8 := Lib.hid hg; clear hg hb)
    | fail)
  go_ret
  exact ⟨rfl, G8.out.b⟩
set_option maxHeartbeats 4000000 in
theorem texts_1 (r : Rl) (z1 : ¬ (50 : Int) < r.std.size) (z2 : (50 : Int) < r.dst.size) (w : World) (her : Er w) (hpw : Pw w) :
    Calls Tryd.prog 3 #[rlV r] w fun e w' => e = .returned (.bool true) ∧ Below w.heap.size w w' := by
  have G0 : Hid (∀ o, Gt w (w.alloc o)) := Lib.hid (Gt.start her hpw)
  have HW : Hid (∀ V, Gt w V → Calls Tryd.prog 9 #[] V fun e w' => e = .returned (.bool true) ∧ Gt w w' ∧ Below V.heap.size V w') := Lib.hid (Gt.lift fun V hV => works_any V hV.e)
  clear her hpw
  go_enter Tryd.func3, Tryd.ntmps3
  go_wp2_with (first
    | (go_at_call 9; refine (HW.out _ (G0.out _)).mono ?_; clear HW; rintro e V8 ⟨rfl, hg, hb⟩; have G8 := Lib.hid hg; clear hg hb)
    | fail)
  go_ret
  exact ⟨rfl, G8.out.b⟩
theorem footerTexts_any (r : Rl) (w : World) (her : Er w) (hpw : Pw w) :
    Calls Tryd.prog 3 #[rlV r] w fun e w' => e = .returned (.bool true) ∧ Below w.heap.size w w' := by
  by_cases z1 : (50 : Int) < r.std.size
  · exact texts_0 r z1 w her hpw
  by_cases z2 : (50 : Int) < r.dst.size
  · exact texts_1 r z1 z2 w her hpw
  cases hr : rightR r with
  | true => exact texts_true r z1 z2 hr w her hpw
  | false => exact texts_false r z1 z2 hr w her hpw
end Go.Proofs.YtkfhipkcnocokaaDoor.Fo
