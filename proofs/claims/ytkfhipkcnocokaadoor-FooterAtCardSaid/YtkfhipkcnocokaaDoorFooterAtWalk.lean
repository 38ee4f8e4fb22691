/-
  Layer 7 (footer): the law FooterAt (ways by gen_fo7r2.py).
-/
import Derived.Test.YtkfhipkcnocokaaDoorFoDoc5
import Derived.Test.YtkfhipkcnocokaaDoorFoLawPlain
import Derived.Test.YtkfhipkcnocokaaDoorFoWorks
namespace Go.Proofs.YtkfhipkcnocokaaDoor.Fo
open Go.RowKit
set_option maxRecDepth 100000

/-- Both count the same. -/
theorem at_same (r : Rl) (s : Int) (z1 : r.std.size ≤ 9223372036854775807) (z2 : r.dst.size ≤ 9223372036854775807) : ∃ (a : Int) (b : Bool), (∀ V, Cv.Tab V → Calls Tryd.prog 17 #[rlV r, .int .i64 s] V fun e w' => e = .returned (.tuple #[.int .i64 a, .bool b]) ∧ Below V.heap.size V w') ∧
    (∀ V, Calls Tryd.prog 18 #[rlV r, .int .i64 s] V fun e w' => e = .returned (.tuple #[.int .i64 a, .bool b]) ∧ Below V.heap.size V w') := by
  cases hr : rightR r with
  | false => exact ⟨0, false, fun V _ => at_no r s hr V, fun V => dat_no r s hr z1 z2 V⟩
  | true =>
    by_cases hz : r.dst.size = 0
    · have hs : r.dst.toList.isEmpty = true := by rw [size_zero hz, Lib.toList_data]; rfl
      exact ⟨r.off, false, fun V _ => at_std r s hr hs V, fun V => dat_std r s hr hs z1 z2 V⟩
    · have hs := ne_empty hz
      have hq := hr
      unfold rightR at hq
      rw [Bool.and_eq_true, Bool.and_eq_true, if_neg hz, Bool.and_eq_true, Bool.and_eq_true, Bool.and_eq_true] at hq
      obtain ⟨-, o1, -, o2, b1, b2⟩ := hq
      have O1 := o1
      unfold offB inB at O1
      simp only [Bool.and_eq_true, decide_eq_true_eq] at O1
      have cb := clamp_bd s
      have hcl : max (-10000000000) (min 100000000000 s) = clampT s := by unfold clampT; omega
      obtain ⟨z, m, d, hR, hn⟩ := day_in ((clampT s + r.off) / 86400) (by omega) (by omega)
      cases hc : (sumS (begF r) (endF r) (clampT s) z 4).2 with
      | true => exact ⟨r.dstOff, true, fun V hV => at_true r s z m d hr hs b1 b2 o1 o2 hR hn hc V hV, fun V => dat_dst r s (clampT s) z m d true hr hs z1 z2 b1 b2 o1 o2 hcl hR hn hc _ rfl V⟩
      | false => exact ⟨r.off, false, fun V hV => at_false r s z m d hr hs b1 b2 o1 o2 hR hn hc V hV, fun V => dat_dst r s (clampT s) z m d false hr hs z1 z2 b1 b2 o1 o2 hcl hR hn hc _ rfl V⟩
/-- The rule that has a day twice. -/
abbrev oneR (d : Dy) : Rl := ⟨⟨#[65, 65, 65]⟩, ⟨#[66, 66, 66]⟩, 0, 0, d, d⟩
theorem one_right (d : Dy) : rightR (oneR d) = dayB d := by
  have h1 : nameB (⟨#[65, 65, 65]⟩ : ByteArray).data.toList = true := by decide
  have h2 : nameB (⟨#[66, 66, 66]⟩ : ByteArray).data.toList = true := by decide
  have h3 : offB 0 = true := by decide
  unfold rightR
  simp only
  rw [h1, h2, h3, if_neg (by decide)]
  simp
/-- What FooterAt keeps. -/
structure Jk (w V : World) (r : Rl) (d : Dy) : Prop where
  r : RlAt V w.heap.size r
  d : DyAt V (w.heap.size + 1) d
  b : Below w.heap.size w V
  e : Er V
  t : Cv.Tab V
theorem Jk.keep {w V V' : World} {r : Rl} {d : Dy} (h : Jk w V r d) (hb : Below V.heap.size V V') : Jk w V' r d := ⟨h.r.below hb h.r.lt, h.d.below hb h.d.lt, h.b.trans (hb.mono h.b.size), h.e.below hb h.e.hi, tab_keep h.t hb⟩
theorem Jk.alloc {w V : World} {r : Rl} {d : Dy} (h : Jk w V r d) (o : Obj) : Jk w (V.alloc o) r d := h.keep ((Below.refl V.heap.size V).alloc (Nat.le_refl _) o)
theorem Jk.start {w : World} (he : Er w) (ht : Cv.Tab w) (r : Rl) (d : Dy) (ty ty2 : TypeId) : Jk w ((w.alloc (.cells #[.string r.std, .string r.dst, .int .i64 r.off, .int .i64 r.dstOff, .int .u8 r.start.kind, .int .i64 r.start.month, .int .i64 r.start.week, .int .i64 r.start.day, .int .i64 r.start.time, .int .u8 r.end_.kind, .int .i64 r.end_.month, .int .i64 r.end_.week, .int .i64 r.end_.day, .int .i64 r.end_.time] ty)).alloc (.cells #[.int .u8 d.kind, .int .i64 d.month, .int .i64 d.week, .int .i64 d.day, .int .i64 d.time] ty2)) r d := by
  have hb := (Below.refl w.heap.size w).alloc (Nat.le_refl _) (.cells #[.string r.std, .string r.dst, .int .i64 r.off, .int .i64 r.dstOff, .int .u8 r.start.kind, .int .i64 r.start.month, .int .i64 r.start.week, .int .i64 r.start.day, .int .i64 r.start.time, .int .u8 r.end_.kind, .int .i64 r.end_.month, .int .i64 r.end_.week, .int .i64 r.end_.day, .int .i64 r.end_.time] ty)
  have R := RlAt.new w r ty
  generalize hX : w.alloc (.cells #[.string r.std, .string r.dst, .int .i64 r.off, .int .i64 r.dstOff, .int .u8 r.start.kind, .int .i64 r.start.month, .int .i64 r.start.week, .int .i64 r.start.day, .int .i64 r.start.time, .int .u8 r.end_.kind, .int .i64 r.end_.month, .int .i64 r.end_.week, .int .i64 r.end_.day, .int .i64 r.end_.time] ty) = X at *
  have hs : X.heap.size = w.heap.size + 1 := by rw [← hX]; simp
  have hc := (Below.refl X.heap.size X).alloc (Nat.le_refl _) (.cells #[.int .u8 d.kind, .int .i64 d.month, .int .i64 d.week, .int .i64 d.day, .int .i64 d.time] ty2)
  have hbb := hb.trans (hc.mono (by omega))
  exact ⟨R.below hc R.lt, hs ▸ DyAt.new X d ty2, hbb, he.below hbb he.hi, tab_keep ht hbb⟩
theorem Jk.lift {w : World} {r : Rl} {d : Dy} {P : Program} {f : FuncId} {args : Array Value} {v : Ending} (h : ∀ V, Jk w V r d → Calls P f args V fun e w' => e = v ∧ Below V.heap.size V w') : ∀ V, Jk w V r d → Calls P f args V fun e w' => e = v ∧ Jk w w' r d ∧ Below V.heap.size V w' :=
  fun V hV => (h V hV).mono fun _ _ ⟨he, hb⟩ => ⟨he, hV.keep hb, hb⟩
theorem RlAt.on {V V' : World} {B : Nat} {r : Rl} (h : RlAt V B r) (hb : Below V.heap.size V V') : RlAt V' B r := h.below hb h.lt
set_option maxHeartbeats 4000000 in
theorem footerAt_bad (r : Rl) (s : Int) (d : Dy) (year a : Int) (b : Bool) (hd : dayB d = false)
    (cA : ∀ V, Cv.Tab V → Calls Tryd.prog 17 #[rlV r, .int .i64 s] V fun e w' => e = .returned (.tuple #[.int .i64 a, .bool b]) ∧ Below V.heap.size V w') (cD : ∀ V, Calls Tryd.prog 18 #[rlV r, .int .i64 s] V fun e w' => e = .returned (.tuple #[.int .i64 a, .bool b]) ∧ Below V.heap.size V w')
    (w : World) (her : Er w) (ht : Cv.Tab w) : Calls Tryd.prog 6 #[rlV r, .int .i64 s, dyV d, .int .i64 year] w fun e w' => e = .returned (.bool true) ∧ Below w.heap.size w w' := by
  have K0 := Lib.hid (Jk.start her ht r d 25 23)
  have HW : Hid (∀ V, Jk w V r d → Calls Tryd.prog 9 #[] V fun e w' => e = .returned (.bool true) ∧ Jk w w' r d ∧ Below V.heap.size V w') := Lib.hid (Jk.lift fun V hV => works_any V hV.e)
  have HL : Hid (∀ V, Jk w V r d → Calls Tryd.prog 10 #[rlV r] V fun e w' => e = .returned (rlV r) ∧ Jk w w' r d ∧ Below V.heap.size V w') := Lib.hid (Jk.lift fun V _ => lplain_any r V)
  have HA : Hid (∀ V, Jk w V r d → Calls Tryd.prog 17 #[rlV r, .int .i64 s] V fun e w' => e = .returned (.tuple #[.int .i64 a, .bool b]) ∧ Jk w w' r d ∧ Below V.heap.size V w') := Lib.hid (Jk.lift fun V hV => cA V hV.t)
  have HD : Hid (∀ V, Jk w V r d → Calls Tryd.prog 18 #[rlV r, .int .i64 s] V fun e w' => e = .returned (.tuple #[.int .i64 a, .bool b]) ∧ Jk w w' r d ∧ Below V.heap.size V w') := Lib.hid (Jk.lift fun V _ => cD V)
  have HS : Hid (∀ V, Jk w V r d → Calls Tryd.prog 19 #[dyV d, .int .i64 year] V fun e w' => e = .returned (.tuple #[.int .i64 0, .int .i64 2]) ∧ Jk w w' r d ∧ Below V.heap.size V w') := Lib.hid (Jk.lift fun V hV => by
    have := switch_any d year V hV.t
    unfold switchE at this
    rwa [hd, if_neg (by decide)] at this)
  have HR : Hid (∀ V, Jk w V r d → Calls Tryd.prog 12 #[rlV (oneR d)] V fun e w' => e = .returned (.bool false) ∧ Jk w w' r d ∧ Below V.heap.size V w') := Lib.hid (Jk.lift fun V _ => by have := bright_any (oneR d) (by show (3 : Nat) ≤ _; decide) (by show (3 : Nat) ≤ _; decide) V; rwa [one_right, hd] at this)
  clear cA cD her ht hd
  obtain ⟨std, dst, off, dstOff, ⟨k1, m1, e1, d1, t1⟩, ⟨k2, m2, e2, d2, t2⟩⟩ := r
  obtain ⟨kk, mm, ww, dd, tt⟩ := d
  simp only at *
  go_enter Tryd.func6, Tryd.ntmps6
  go_wp2_with (first
    | (go_at_call 10; refine (HL.out _ K0.out).mono ?_; clear HL; rintro e V1 ⟨rfl, hg, hb⟩; have K1 : Hid (∀ o, Jk w (V1.alloc o) _ _) := Lib.hid hg.alloc; have M1 : Hid (RlAt _ V1.heap.size _) := Lib.hid (RlAt.new V1 ⟨std, dst, off, dstOff, ⟨k1, m1, e1, d1, t1⟩, ⟨k2, m2, e2, d2, t2⟩⟩ 29); clear hg hb; have a0 : ∀ o, (V1.alloc o).cell? ⟨w.heap.size, 0, none⟩ = some (.string std) := fun o => (K1.out o).r.c0; have a1 : ∀ o, (V1.alloc o).cell? ⟨w.heap.size, 1, none⟩ = some (.string dst) := fun o => (K1.out o).r.c1; have a2 : ∀ o, (V1.alloc o).cell? ⟨w.heap.size, 2, none⟩ = some (.int .i64 off) := fun o => (K1.out o).r.c2; have a3 : ∀ o, (V1.alloc o).cell? ⟨w.heap.size, 3, none⟩ = some (.int .i64 dstOff) := fun o => (K1.out o).r.c3; have a4 : ∀ o, (V1.alloc o).cell? ⟨w.heap.size, 4, none⟩ = some (.int .u8 k1) := fun o => (K1.out o).r.c4; have a5 : ∀ o, (V1.alloc o).cell? ⟨w.heap.size, 5, none⟩ = some (.int .i64 m1) := fun o => (K1.out o).r.c5; have a6 : ∀ o, (V1.alloc o).cell? ⟨w.heap.size, 6, none⟩ = some (.int .i64 e1) := fun o => (K1.out o).r.c6; have a7 : ∀ o, (V1.alloc o).cell? ⟨w.heap.size, 7, none⟩ = some (.int .i64 d1) := fun o => (K1.out o).r.c7; have a8 : ∀ o, (V1.alloc o).cell? ⟨w.heap.size, 8, none⟩ = some (.int .i64 t1) := fun o => (K1.out o).r.c8; have a9 : ∀ o, (V1.alloc o).cell? ⟨w.heap.size, 9, none⟩ = some (.int .u8 k2) := fun o => (K1.out o).r.c9; have a10 : ∀ o, (V1.alloc o).cell? ⟨w.heap.size, 10, none⟩ = some (.int .i64 m2) := fun o => (K1.out o).r.c10; have a11 : ∀ o, (V1.alloc o).cell? ⟨w.heap.size, 11, none⟩ = some (.int .i64 e2) := fun o => (K1.out o).r.c11; have a12 : ∀ o, (V1.alloc o).cell? ⟨w.heap.size, 12, none⟩ = some (.int .i64 d2) := fun o => (K1.out o).r.c12; have a13 : ∀ o, (V1.alloc o).cell? ⟨w.heap.size, 13, none⟩ = some (.int .i64 t2) := fun o => (K1.out o).r.c13)
    | (go_at_call 17; refine (HA.out _ (K1.out _)).mono ?_; clear HA a0 a1 a2 a3 a4 a5 a6 a7 a8 a9 a10 a11 a12 a13; rintro e V2 ⟨rfl, hg, hb⟩; have K2 := Lib.hid hg; have M2 := Lib.hid (M1.out.on hb); clear hg hb; have x0 := M2.out.c0; have x1 := M2.out.c1; have x2 := M2.out.c2; have x3 := M2.out.c3; have x4 := M2.out.c4; have x5 := M2.out.c5; have x6 := M2.out.c6; have x7 := M2.out.c7; have x8 := M2.out.c8; have x9 := M2.out.c9; have x10 := M2.out.c10; have x11 := M2.out.c11; have x12 := M2.out.c12; have x13 := M2.out.c13)
    | (go_at_call 18; refine (HD.out _ K2.out).mono ?_; clear HD x0 x1 x2 x3 x4 x5 x6 x7 x8 x9 x10 x11 x12 x13; rintro e V3 ⟨rfl, hg, hb⟩; have K3 := Lib.hid hg; clear hg hb; have g0 := K3.out.d.c0; have g1 := K3.out.d.c1; have g2 := K3.out.d.c2; have g3 := K3.out.d.c3; have g4 := K3.out.d.c4)
    | (go_at_call 19; refine (HS.out _ K3.out).mono ?_; clear HS g0 g1 g2 g3 g4; rintro e V4 ⟨rfl, hg, hb⟩; have K4 : Hid (∀ o, Jk w (V4.alloc o) _ _) := Lib.hid hg.alloc; have HG := Lib.hid hg; clear hg hb; have g0 := HG.out.d.c0; have g1 := HG.out.d.c1; have g2 := HG.out.d.c2; have g3 := HG.out.d.c3; have g4 := HG.out.d.c4)
    | (go_at_call 12; refine (HR.out _ (K4.out _)).mono ?_; clear HR g0 g1 g2 g3 g4; rintro e V5 ⟨rfl, hg, hb⟩; have K5 := Lib.hid hg; clear hg hb; have g0 := K5.out.d.c0; have g1 := K5.out.d.c1; have g2 := K5.out.d.c2; have g3 := K5.out.d.c3; have g4 := K5.out.d.c4)
    | (go_at_call 9; refine (HW.out _ K5.out).mono ?_; clear HW; rintro e V7 ⟨rfl, hg, hb⟩; have K7 := Lib.hid hg; clear hg hb)
    | fail)
  go_ret
  exact ⟨rfl, K7.out.b⟩
set_option maxHeartbeats 4000000 in
theorem footerAt_lo (r : Rl) (s : Int) (d : Dy) (year a : Int) (b : Bool) (hd : dayB d = true) (hy : year < 2)
    (cA : ∀ V, Cv.Tab V → Calls Tryd.prog 17 #[rlV r, .int .i64 s] V fun e w' => e = .returned (.tuple #[.int .i64 a, .bool b]) ∧ Below V.heap.size V w') (cD : ∀ V, Calls Tryd.prog 18 #[rlV r, .int .i64 s] V fun e w' => e = .returned (.tuple #[.int .i64 a, .bool b]) ∧ Below V.heap.size V w')
    (w : World) (her : Er w) (ht : Cv.Tab w) : Calls Tryd.prog 6 #[rlV r, .int .i64 s, dyV d, .int .i64 year] w fun e w' => e = .returned (.bool true) ∧ Below w.heap.size w w' := by
  have K0 := Lib.hid (Jk.start her ht r d 25 23)
  have HW : Hid (∀ V, Jk w V r d → Calls Tryd.prog 9 #[] V fun e w' => e = .returned (.bool true) ∧ Jk w w' r d ∧ Below V.heap.size V w') := Lib.hid (Jk.lift fun V hV => works_any V hV.e)
  have HL : Hid (∀ V, Jk w V r d → Calls Tryd.prog 10 #[rlV r] V fun e w' => e = .returned (rlV r) ∧ Jk w w' r d ∧ Below V.heap.size V w') := Lib.hid (Jk.lift fun V _ => lplain_any r V)
  have HA : Hid (∀ V, Jk w V r d → Calls Tryd.prog 17 #[rlV r, .int .i64 s] V fun e w' => e = .returned (.tuple #[.int .i64 a, .bool b]) ∧ Jk w w' r d ∧ Below V.heap.size V w') := Lib.hid (Jk.lift fun V hV => cA V hV.t)
  have HD : Hid (∀ V, Jk w V r d → Calls Tryd.prog 18 #[rlV r, .int .i64 s] V fun e w' => e = .returned (.tuple #[.int .i64 a, .bool b]) ∧ Jk w w' r d ∧ Below V.heap.size V w') := Lib.hid (Jk.lift fun V _ => cD V)
  have HS : Hid (∀ V, Jk w V r d → Calls Tryd.prog 19 #[dyV d, .int .i64 year] V fun e w' => e = .returned (.tuple #[.int .i64 0, .int .i64 30]) ∧ Jk w w' r d ∧ Below V.heap.size V w') := Lib.hid (Jk.lift fun V hV => by
    have := switch_any d year V hV.t
    unfold switchE at this
    rwa [hd, if_pos rfl, if_neg (by unfold inB; simp; omega)] at this)
  have HR : Hid (∀ V, Jk w V r d → Calls Tryd.prog 12 #[rlV (oneR d)] V fun e w' => e = .returned (.bool true) ∧ Jk w w' r d ∧ Below V.heap.size V w') := Lib.hid (Jk.lift fun V _ => by have := bright_any (oneR d) (by show (3 : Nat) ≤ _; decide) (by show (3 : Nat) ≤ _; decide) V; rwa [one_right, hd] at this)
  clear cA cD her ht hd
  obtain ⟨std, dst, off, dstOff, ⟨k1, m1, e1, d1, t1⟩, ⟨k2, m2, e2, d2, t2⟩⟩ := r
  obtain ⟨kk, mm, ww, dd, tt⟩ := d
  simp only at *
  go_enter Tryd.func6, Tryd.ntmps6
  go_wp2_with (first
    | (go_at_call 10; refine (HL.out _ K0.out).mono ?_; clear HL; rintro e V1 ⟨rfl, hg, hb⟩; have K1 : Hid (∀ o, Jk w (V1.alloc o) _ _) := Lib.hid hg.alloc; have M1 : Hid (RlAt _ V1.heap.size _) := Lib.hid (RlAt.new V1 ⟨std, dst, off, dstOff, ⟨k1, m1, e1, d1, t1⟩, ⟨k2, m2, e2, d2, t2⟩⟩ 29); clear hg hb; have a0 : ∀ o, (V1.alloc o).cell? ⟨w.heap.size, 0, none⟩ = some (.string std) := fun o => (K1.out o).r.c0; have a1 : ∀ o, (V1.alloc o).cell? ⟨w.heap.size, 1, none⟩ = some (.string dst) := fun o => (K1.out o).r.c1; have a2 : ∀ o, (V1.alloc o).cell? ⟨w.heap.size, 2, none⟩ = some (.int .i64 off) := fun o => (K1.out o).r.c2; have a3 : ∀ o, (V1.alloc o).cell? ⟨w.heap.size, 3, none⟩ = some (.int .i64 dstOff) := fun o => (K1.out o).r.c3; have a4 : ∀ o, (V1.alloc o).cell? ⟨w.heap.size, 4, none⟩ = some (.int .u8 k1) := fun o => (K1.out o).r.c4; have a5 : ∀ o, (V1.alloc o).cell? ⟨w.heap.size, 5, none⟩ = some (.int .i64 m1) := fun o => (K1.out o).r.c5; have a6 : ∀ o, (V1.alloc o).cell? ⟨w.heap.size, 6, none⟩ = some (.int .i64 e1) := fun o => (K1.out o).r.c6; have a7 : ∀ o, (V1.alloc o).cell? ⟨w.heap.size, 7, none⟩ = some (.int .i64 d1) := fun o => (K1.out o).r.c7; have a8 : ∀ o, (V1.alloc o).cell? ⟨w.heap.size, 8, none⟩ = some (.int .i64 t1) := fun o => (K1.out o).r.c8; have a9 : ∀ o, (V1.alloc o).cell? ⟨w.heap.size, 9, none⟩ = some (.int .u8 k2) := fun o => (K1.out o).r.c9; have a10 : ∀ o, (V1.alloc o).cell? ⟨w.heap.size, 10, none⟩ = some (.int .i64 m2) := fun o => (K1.out o).r.c10; have a11 : ∀ o, (V1.alloc o).cell? ⟨w.heap.size, 11, none⟩ = some (.int .i64 e2) := fun o => (K1.out o).r.c11; have a12 : ∀ o, (V1.alloc o).cell? ⟨w.heap.size, 12, none⟩ = some (.int .i64 d2) := fun o => (K1.out o).r.c12; have a13 : ∀ o, (V1.alloc o).cell? ⟨w.heap.size, 13, none⟩ = some (.int .i64 t2) := fun o => (K1.out o).r.c13)
    | (go_at_call 17; refine (HA.out _ (K1.out _)).mono ?_; clear HA a0 a1 a2 a3 a4 a5 a6 a7 a8 a9 a10 a11 a12 a13; rintro e V2 ⟨rfl, hg, hb⟩; have K2 := Lib.hid hg; have M2 := Lib.hid (M1.out.on hb); clear hg hb; have x0 := M2.out.c0; have x1 := M2.out.c1; have x2 := M2.out.c2; have x3 := M2.out.c3; have x4 := M2.out.c4; have x5 := M2.out.c5; have x6 := M2.out.c6; have x7 := M2.out.c7; have x8 := M2.out.c8; have x9 := M2.out.c9; have x10 := M2.out.c10; have x11 := M2.out.c11; have x12 := M2.out.c12; have x13 := M2.out.c13)
    | (go_at_call 18; refine (HD.out _ K2.out).mono ?_; clear HD x0 x1 x2 x3 x4 x5 x6 x7 x8 x9 x10 x11 x12 x13; rintro e V3 ⟨rfl, hg, hb⟩; have K3 := Lib.hid hg; clear hg hb; have g0 := K3.out.d.c0; have g1 := K3.out.d.c1; have g2 := K3.out.d.c2; have g3 := K3.out.d.c3; have g4 := K3.out.d.c4)
    | (go_at_call 19; refine (HS.out _ K3.out).mono ?_; clear HS g0 g1 g2 g3 g4; rintro e V4 ⟨rfl, hg, hb⟩; have K4 : Hid (∀ o, Jk w (V4.alloc o) _ _) := Lib.hid hg.alloc; have HG := Lib.hid hg; clear hg hb; have g0 := HG.out.d.c0; have g1 := HG.out.d.c1; have g2 := HG.out.d.c2; have g3 := HG.out.d.c3; have g4 := HG.out.d.c4)
    | (go_at_call 12; refine (HR.out _ (K4.out _)).mono ?_; clear HR g0 g1 g2 g3 g4; rintro e V5 ⟨rfl, hg, hb⟩; have K5 := Lib.hid hg; clear hg hb; have g0 := K5.out.d.c0; have g1 := K5.out.d.c1; have g2 := K5.out.d.c2; have g3 := K5.out.d.c3; have g4 := K5.out.d.c4)
    | (go_at_call 9; refine (HW.out _ K5.out).mono ?_; clear HW; rintro e V7 ⟨rfl, hg, hb⟩; have K7 := Lib.hid hg; clear hg hb)
    | fail)
  go_ret
  exact ⟨rfl, K7.out.b⟩
set_option maxHeartbeats 4000000 in
theorem footerAt_hi (r : Rl) (s : Int) (d : Dy) (year a : Int) (b : Bool) (hd : dayB d = true) (hy : ¬ year < 2) (hy2 : 9998 < year)
    (cA : ∀ V, Cv.Tab V → Calls Tryd.prog 17 #[rlV r, .int .i64 s] V fun e w' => e = .returned (.tuple #[.int .i64 a, .bool b]) ∧ Below V.heap.size V w') (cD : ∀ V, Calls Tryd.prog 18 #[rlV r, .int .i64 s] V fun e w' => e = .returned (.tuple #[.int .i64 a, .bool b]) ∧ Below V.heap.size V w')
    (w : World) (her : Er w) (ht : Cv.Tab w) : Calls Tryd.prog 6 #[rlV r, .int .i64 s, dyV d, .int .i64 year] w fun e w' => e = .returned (.bool true) ∧ Below w.heap.size w w' := by
  have K0 := Lib.hid (Jk.start her ht r d 25 23)
  have HW : Hid (∀ V, Jk w V r d → Calls Tryd.prog 9 #[] V fun e w' => e = .returned (.bool true) ∧ Jk w w' r d ∧ Below V.heap.size V w') := Lib.hid (Jk.lift fun V hV => works_any V hV.e)
  have HL : Hid (∀ V, Jk w V r d → Calls Tryd.prog 10 #[rlV r] V fun e w' => e = .returned (rlV r) ∧ Jk w w' r d ∧ Below V.heap.size V w') := Lib.hid (Jk.lift fun V _ => lplain_any r V)
  have HA : Hid (∀ V, Jk w V r d → Calls Tryd.prog 17 #[rlV r, .int .i64 s] V fun e w' => e = .returned (.tuple #[.int .i64 a, .bool b]) ∧ Jk w w' r d ∧ Below V.heap.size V w') := Lib.hid (Jk.lift fun V hV => cA V hV.t)
  have HD : Hid (∀ V, Jk w V r d → Calls Tryd.prog 18 #[rlV r, .int .i64 s] V fun e w' => e = .returned (.tuple #[.int .i64 a, .bool b]) ∧ Jk w w' r d ∧ Below V.heap.size V w') := Lib.hid (Jk.lift fun V _ => cD V)
  have HS : Hid (∀ V, Jk w V r d → Calls Tryd.prog 19 #[dyV d, .int .i64 year] V fun e w' => e = .returned (.tuple #[.int .i64 0, .int .i64 30]) ∧ Jk w w' r d ∧ Below V.heap.size V w') := Lib.hid (Jk.lift fun V hV => by
    have := switch_any d year V hV.t
    unfold switchE at this
    rwa [hd, if_pos rfl, if_neg (by unfold inB; simp; omega)] at this)
  have HR : Hid (∀ V, Jk w V r d → Calls Tryd.prog 12 #[rlV (oneR d)] V fun e w' => e = .returned (.bool true) ∧ Jk w w' r d ∧ Below V.heap.size V w') := Lib.hid (Jk.lift fun V _ => by have := bright_any (oneR d) (by show (3 : Nat) ≤ _; decide) (by show (3 : Nat) ≤ _; decide) V; rwa [one_right, hd] at this)
  clear cA cD her ht hd
  obtain ⟨std, dst, off, dstOff, ⟨k1, m1, e1, d1, t1⟩, ⟨k2, m2, e2, d2, t2⟩⟩ := r
  obtain ⟨kk, mm, ww, dd, tt⟩ := d
  simp only at *
  go_enter Tryd.func6, Tryd.ntmps6
  go_wp2_with (first
    | (go_at_call 10; refine (HL.out _ K0.out).mono ?_; clear HL; rintro e V1 ⟨rfl, hg, hb⟩; have K1 : Hid (∀ o, Jk w (V1.alloc o) _ _) := Lib.hid hg.alloc; have M1 : Hid (RlAt _ V1.heap.size _) := Lib.hid (RlAt.new V1 ⟨std, dst, off, dstOff, ⟨k1, m1, e1, d1, t1⟩, ⟨k2, m2, e2, d2, t2⟩⟩ 29); clear hg hb; have a0 : ∀ o, (V1.alloc o).cell? ⟨w.heap.size, 0, none⟩ = some (.string std) := fun o => (K1.out o).r.c0; have a1 : ∀ o, (V1.alloc o).cell? ⟨w.heap.size, 1, none⟩ = some (.string dst) := fun o => (K1.out o).r.c1; have a2 : ∀ o, (V1.alloc o).cell? ⟨w.heap.size, 2, none⟩ = some (.int .i64 off) := fun o => (K1.out o).r.c2; have a3 : ∀ o, (V1.alloc o).cell? ⟨w.heap.size, 3, none⟩ = some (.int .i64 dstOff) := fun o => (K1.out o).r.c3; have a4 : ∀ o, (V1.alloc o).cell? ⟨w.heap.size, 4, none⟩ = some (.int .u8 k1) := fun o => (K1.out o).r.c4; have a5 : ∀ o, (V1.alloc o).cell? ⟨w.heap.size, 5, none⟩ = some (.int .i64 m1) := fun o => (K1.out o).r.c5; have a6 : ∀ o, (V1.alloc o).cell? ⟨w.heap.size, 6, none⟩ = some (.int .i64 e1) := fun o => (K1.out o).r.c6; have a7 : ∀ o, (V1.alloc o).cell? ⟨w.heap.size, 7, none⟩ = some (.int .i64 d1) := fun o => (K1.out o).r.c7; have a8 : ∀ o, (V1.alloc o).cell? ⟨w.heap.size, 8, none⟩ = some (.int .i64 t1) := fun o => (K1.out o).r.c8; have a9 : ∀ o, (V1.alloc o).cell? ⟨w.heap.size, 9, none⟩ = some (.int .u8 k2) := fun o => (K1.out o).r.c9; have a10 : ∀ o, (V1.alloc o).cell? ⟨w.heap.size, 10, none⟩ = some (.int .i64 m2) := fun o => (K1.out o).r.c10; have a11 : ∀ o, (V1.alloc o).cell? ⟨w.heap.size, 11, none⟩ = some (.int .i64 e2) := fun o => (K1.out o).r.c11; have a12 : ∀ o, (V1.alloc o).cell? ⟨w.heap.size, 12, none⟩ = some (.int .i64 d2) := fun o => (K1.out o).r.c12; have a13 : ∀ o, (V1.alloc o).cell? ⟨w.heap.size, 13, none⟩ = some (.int .i64 t2) := fun o => (K1.out o).r.c13)
    | (go_at_call 17; refine (HA.out _ (K1.out _)).mono ?_; clear HA a0 a1 a2 a3 a4 a5 a6 a7 a8 a9 a10 a11 a12 a13; rintro e V2 ⟨rfl, hg, hb⟩; have K2 := Lib.hid hg; have M2 := Lib.hid (M1.out.on hb); clear hg hb; have x0 := M2.out.c0; have x1 := M2.out.c1; have x2 := M2.out.c2; have x3 := M2.out.c3; have x4 := M2.out.c4; have x5 := M2.out.c5; have x6 := M2.out.c6; have x7 := M2.out.c7; have x8 := M2.out.c8; have x9 := M2.out.c9; have x10 := M2.out.c10; have x11 := M2.out.c11; have x12 := M2.out.c12; have x13 := M2.out.c13)
    | (go_at_call 18; refine (HD.out _ K2.out).mono ?_; clear HD x0 x1 x2 x3 x4 x5 x6 x7 x8 x9 x10 x11 x12 x13; rintro e V3 ⟨rfl, hg, hb⟩; have K3 := Lib.hid hg; clear hg hb; have g0 := K3.out.d.c0; have g1 := K3.out.d.c1; have g2 := K3.out.d.c2; have g3 := K3.out.d.c3; have g4 := K3.out.d.c4)
    | (go_at_call 19; refine (HS.out _ K3.out).mono ?_; clear HS g0 g1 g2 g3 g4; rintro e V4 ⟨rfl, hg, hb⟩; have K4 : Hid (∀ o, Jk w (V4.alloc o) _ _) := Lib.hid hg.alloc; have HG := Lib.hid hg; clear hg hb; have g0 := HG.out.d.c0; have g1 := HG.out.d.c1; have g2 := HG.out.d.c2; have g3 := HG.out.d.c3; have g4 := HG.out.d.c4)
    | (go_at_call 12; refine (HR.out _ (K4.out _)).mono ?_; clear HR g0 g1 g2 g3 g4; rintro e V5 ⟨rfl, hg, hb⟩; have K5 := Lib.hid hg; clear hg hb; have g0 := K5.out.d.c0; have g1 := K5.out.d.c1; have g2 := K5.out.d.c2; have g3 := K5.out.d.c3; have g4 := K5.out.d.c4)
    | (go_at_call 9; refine (HW.out _ K5.out).mono ?_; clear HW; rintro e V7 ⟨rfl, hg, hb⟩; have K7 := Lib.hid hg; clear hg hb)
    | fail)
  go_ret
  exact ⟨rfl, K7.out.b⟩
set_option maxHeartbeats 4000000 in
theorem footerAt_in (r : Rl) (s : Int) (d : Dy) (year a : Int) (b : Bool) (hd : dayB d = true) (hy : ¬ year < 2) (hy2 : ¬ 9998 < year)
    (cA : ∀ V, Cv.Tab V → Calls Tryd.prog 17 #[rlV r, .int .i64 s] V fun e w' => e = .returned (.tuple #[.int .i64 a, .bool b]) ∧ Below V.heap.size V w') (cD : ∀ V, Calls Tryd.prog 18 #[rlV r, .int .i64 s] V fun e w' => e = .returned (.tuple #[.int .i64 a, .bool b]) ∧ Below V.heap.size V w')
    (w : World) (her : Er w) (ht : Cv.Tab w) : Calls Tryd.prog 6 #[rlV r, .int .i64 s, dyV d, .int .i64 year] w fun e w' => e = .returned (.bool true) ∧ Below w.heap.size w w' := by
  have K0 := Lib.hid (Jk.start her ht r d 25 23)
  have HW : Hid (∀ V, Jk w V r d → Calls Tryd.prog 9 #[] V fun e w' => e = .returned (.bool true) ∧ Jk w w' r d ∧ Below V.heap.size V w') := Lib.hid (Jk.lift fun V hV => works_any V hV.e)
  have HL : Hid (∀ V, Jk w V r d → Calls Tryd.prog 10 #[rlV r] V fun e w' => e = .returned (rlV r) ∧ Jk w w' r d ∧ Below V.heap.size V w') := Lib.hid (Jk.lift fun V _ => lplain_any r V)
  have HA : Hid (∀ V, Jk w V r d → Calls Tryd.prog 17 #[rlV r, .int .i64 s] V fun e w' => e = .returned (.tuple #[.int .i64 a, .bool b]) ∧ Jk w w' r d ∧ Below V.heap.size V w') := Lib.hid (Jk.lift fun V hV => cA V hV.t)
  have HD : Hid (∀ V, Jk w V r d → Calls Tryd.prog 18 #[rlV r, .int .i64 s] V fun e w' => e = .returned (.tuple #[.int .i64 a, .bool b]) ∧ Jk w w' r d ∧ Below V.heap.size V w') := Lib.hid (Jk.lift fun V _ => cD V)
  have HS : Hid (∀ V, Jk w V r d → Calls Tryd.prog 19 #[dyV d, .int .i64 year] V fun e w' => e = .returned (.tuple #[.int .i64 (switchV d year), .int .i64 0]) ∧ Jk w w' r d ∧ Below V.heap.size V w') := Lib.hid (Jk.lift fun V hV => by
    have := switch_any d year V hV.t
    unfold switchE at this
    rwa [hd, if_pos rfl, if_pos (show inB year 2 9998 = true by unfold inB; simp; omega)] at this)
  have HR : Hid (∀ V, Jk w V r d → Calls Tryd.prog 12 #[rlV (oneR d)] V fun e w' => e = .returned (.bool true) ∧ Jk w w' r d ∧ Below V.heap.size V w') := Lib.hid (Jk.lift fun V _ => by have := bright_any (oneR d) (by show (3 : Nat) ≤ _; decide) (by show (3 : Nat) ≤ _; decide) V; rwa [one_right, hd] at this)
  have HX : Hid (∀ V, Jk w V r d → Calls Tryd.prog 20 #[dyV d, .int .i64 year] V fun e w' => e = .returned (.int .i64 (switchV d year)) ∧ Jk w w' r d ∧ Below V.heap.size V w') := Lib.hid (Jk.lift fun V _ => dswitch_any d year hd (by omega) (by omega) V)
  generalize switchV d year = n at *
  clear cA cD her ht hd
  obtain ⟨std, dst, off, dstOff, ⟨k1, m1, e1, d1, t1⟩, ⟨k2, m2, e2, d2, t2⟩⟩ := r
  obtain ⟨kk, mm, ww, dd, tt⟩ := d
  simp only at *
  go_enter Tryd.func6, Tryd.ntmps6
  go_wp2_with (first
    | (go_at_call 10; refine (HL.out _ K0.out).mono ?_; clear HL; rintro e V1 ⟨rfl, hg, hb⟩; have K1 : Hid (∀ o, Jk w (V1.alloc o) _ _) := Lib.hid hg.alloc; have M1 : Hid (RlAt _ V1.heap.size _) := Lib.hid (RlAt.new V1 ⟨std, dst, off, dstOff, ⟨k1, m1, e1, d1, t1⟩, ⟨k2, m2, e2, d2, t2⟩⟩ 29); clear hg hb; have a0 : ∀ o, (V1.alloc o).cell? ⟨w.heap.size, 0, none⟩ = some (.string std) := fun o => (K1.out o).r.c0; have a1 : ∀ o, (V1.alloc o).cell? ⟨w.heap.size, 1, none⟩ = some (.string dst) := fun o => (K1.out o).r.c1; have a2 : ∀ o, (V1.alloc o).cell? ⟨w.heap.size, 2, none⟩ = some (.int .i64 off) := fun o => (K1.out o).r.c2; have a3 : ∀ o, (V1.alloc o).cell? ⟨w.heap.size, 3, none⟩ = some (.int .i64 dstOff) := fun o => (K1.out o).r.c3; have a4 : ∀ o, (V1.alloc o).cell? ⟨w.heap.size, 4, none⟩ = some (.int .u8 k1) := fun o => (K1.out o).r.c4; have a5 : ∀ o, (V1.alloc o).cell? ⟨w.heap.size, 5, none⟩ = some (.int .i64 m1) := fun o => (K1.out o).r.c5; have a6 : ∀ o, (V1.alloc o).cell? ⟨w.heap.size, 6, none⟩ = some (.int .i64 e1) := fun o => (K1.out o).r.c6; have a7 : ∀ o, (V1.alloc o).cell? ⟨w.heap.size, 7, none⟩ = some (.int .i64 d1) := fun o => (K1.out o).r.c7; have a8 : ∀ o, (V1.alloc o).cell? ⟨w.heap.size, 8, none⟩ = some (.int .i64 t1) := fun o => (K1.out o).r.c8; have a9 : ∀ o, (V1.alloc o).cell? ⟨w.heap.size, 9, none⟩ = some (.int .u8 k2) := fun o => (K1.out o).r.c9; have a10 : ∀ o, (V1.alloc o).cell? ⟨w.heap.size, 10, none⟩ = some (.int .i64 m2) := fun o => (K1.out o).r.c10; have a11 : ∀ o, (V1.alloc o).cell? ⟨w.heap.size, 11, none⟩ = some (.int .i64 e2) := fun o => (K1.out o).r.c11; have a12 : ∀ o, (V1.alloc o).cell? ⟨w.heap.size, 12, none⟩ = some (.int .i64 d2) := fun o => (K1.out o).r.c12; have a13 : ∀ o, (V1.alloc o).cell? ⟨w.heap.size, 13, none⟩ = some (.int .i64 t2) := fun o => (K1.out o).r.c13)
    | (go_at_call 17; refine (HA.out _ (K1.out _)).mono ?_; clear HA a0 a1 a2 a3 a4 a5 a6 a7 a8 a9 a10 a11 a12 a13; rintro e V2 ⟨rfl, hg, hb⟩; have K2 := Lib.hid hg; have M2 := Lib.hid (M1.out.on hb); clear hg hb; have x0 := M2.out.c0; have x1 := M2.out.c1; have x2 := M2.out.c2; have x3 := M2.out.c3; have x4 := M2.out.c4; have x5 := M2.out.c5; have x6 := M2.out.c6; have x7 := M2.out.c7; have x8 := M2.out.c8; have x9 := M2.out.c9; have x10 := M2.out.c10; have x11 := M2.out.c11; have x12 := M2.out.c12; have x13 := M2.out.c13)
    | (go_at_call 18; refine (HD.out _ K2.out).mono ?_; clear HD x0 x1 x2 x3 x4 x5 x6 x7 x8 x9 x10 x11 x12 x13; rintro e V3 ⟨rfl, hg, hb⟩; have K3 := Lib.hid hg; clear hg hb; have g0 := K3.out.d.c0; have g1 := K3.out.d.c1; have g2 := K3.out.d.c2; have g3 := K3.out.d.c3; have g4 := K3.out.d.c4)
    | (go_at_call 19; refine (HS.out _ K3.out).mono ?_; clear HS g0 g1 g2 g3 g4; rintro e V4 ⟨rfl, hg, hb⟩; have K4 : Hid (∀ o, Jk w (V4.alloc o) _ _) := Lib.hid hg.alloc; have HG := Lib.hid hg; clear hg hb; have g0 := HG.out.d.c0; have g1 := HG.out.d.c1; have g2 := HG.out.d.c2; have g3 := HG.out.d.c3; have g4 := HG.out.d.c4)
    | (go_at_call 12; refine (HR.out _ (K4.out _)).mono ?_; clear HR g0 g1 g2 g3 g4; rintro e V5 ⟨rfl, hg, hb⟩; have K5 := Lib.hid hg; clear hg hb; have g0 := K5.out.d.c0; have g1 := K5.out.d.c1; have g2 := K5.out.d.c2; have g3 := K5.out.d.c3; have g4 := K5.out.d.c4)
    | (go_at_call 20; refine (HX.out _ K5.out).mono ?_; clear HX g0 g1 g2 g3 g4; rintro e V6 ⟨rfl, hg, hb⟩; have K6 := Lib.hid hg; clear hg hb)
    | (go_at_call 9; refine (HW.out _ K6.out).mono ?_; clear HW; rintro e V7 ⟨rfl, hg, hb⟩; have K7 := Lib.hid hg; clear hg hb)
    | fail)
  go_ret
  exact ⟨rfl, K7.out.b⟩
theorem footerAt_any (r : Rl) (s : Int) (d : Dy) (year : Int) (z1 : r.std.size ≤ 9223372036854775807) (z2 : r.dst.size ≤ 9223372036854775807) (w : World) (her : Er w) (ht : Cv.Tab w) :
    Calls Tryd.prog 6 #[rlV r, .int .i64 s, dyV d, .int .i64 year] w fun e w' => e = .returned (.bool true) ∧ Below w.heap.size w w' := by
  obtain ⟨a, b, cA, cD⟩ := at_same r s z1 z2
  cases hd : dayB d with
  | false => exact footerAt_bad r s d year a b hd cA cD w her ht
  | true =>
    by_cases hy : year < 2
    · exact footerAt_lo r s d year a b hd hy cA cD w her ht
    · by_cases hy2 : 9998 < year
      · exact footerAt_hi r s d year a b hd hy hy2 cA cD w her ht
      · exact footerAt_in r s d year a b hd hy hy2 cA cD w her ht
end Go.Proofs.YtkfhipkcnocokaaDoor.Fo
