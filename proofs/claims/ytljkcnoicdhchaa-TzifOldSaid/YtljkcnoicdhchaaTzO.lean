/-
  Layer 6 (tzif): how long a block is, by its head.
-/
import Derived.Test.YtljkcnoicdhchaaTzN
import Derived.Lib.QuietBelow
namespace Go.Proofs.Ytljkcnoicdhchaa.Tz
open Go.RowKit

def restN (h : Hd) (wd : Nat) : Nat := h.leaps * (wd + 4) + h.stds + h.uts
def longN (h : Hd) (wd : Nat) : Nat := h.times * (wd + 1) + h.types * 6 + h.letters + restN h wd
structure HdOk (h : Hd) : Prop where
  uts : h.uts ≤ 4294967295
  stds : h.stds ≤ 4294967295
  leaps : h.leaps ≤ 4294967295
  times : h.times ≤ 4294967295
  types : h.types ≤ 4294967295
  letters : h.letters ≤ 4294967295
/-- A walk from any world of which the same is known. -/
theorem wp_world {P : Program} {c : Code} {Q : Exit → Act → World → Prop} {a : Act} {W : World} (R : World → Prop) (h : R W) (k : ∀ W, R W → Code.wp P c Q a W) : Code.wp P c Q a W := k W h
theorem below_class {W w' : World} (h : ∃ p : Regrown, w' = Sort.grow (redrawn W p.d) p.os) : Below W.heap.size W w' := by
  obtain ⟨p, rfl⟩ := h; exact below_regrown W p.d p.os
set_option maxRecDepth 100000 in
set_option maxHeartbeats 1000000 in
theorem restLong_any (h : Hd) (wd : Nat) (hw : wd = 4 ∨ wd = 8) (ho : HdOk h) (w : World) : Calls Try.prog 41 #[hdVal h, .int .i64 wd] w fun e w' => e = .returned (.int .i64 (restN h wd)) ∧ Below w.heap.size w w' := by
  obtain ⟨o1, o2, o3, o4, o5, o6⟩ := ho
  obtain ⟨version, uts, stds, leaps, times, types, letters⟩ := h
  simp only at o1 o2 o3 o4 o5 o6
  unfold hdVal restN
  simp only
  have b1 : (0 : Int) ≤ (uts : Int) := by omega
  have b2 : (0 : Int) ≤ (stds : Int) := by omega
  have b3 : (0 : Int) ≤ (leaps : Int) := by omega
  have c1 : (uts : Int) ≤ 4294967295 := by omega
  have c2 : (stds : Int) ≤ 4294967295 := by omega
  have c3 : (leaps : Int) ≤ 4294967295 := by omega
  have HB : Hid (Below w.heap.size w (w.alloc (.cells #[.int .u8 version, .int .i64 uts, .int .i64 stds, .int .i64 leaps, .int .i64 times, .int .i64 types, .int .i64 letters] 60))) := Lib.hid ((Below.refl _ _).alloc (Nat.le_refl _) _)
  rcases hw with rfl | rfl
  all_goals
    go_enter Try.func41, Try.ntmps41
    go_wp2_with fail
    go_ret
    refine ⟨?_, HB.out⟩
    congr 2 <;> omega
set_option maxRecDepth 100000 in
set_option maxHeartbeats 1000000 in
theorem blockLong_any (h : Hd) (wd : Nat) (hw : wd = 4 ∨ wd = 8) (ho : HdOk h) (w : World) : Calls Try.prog 23 #[hdVal h, .int .i64 wd] w fun e w' => e = .returned (.int .i64 (longN h wd)) ∧ Below w.heap.size w w' := by
  have HR : Hid (∀ V, Calls Try.prog 41 #[hdVal h, .int .i64 wd] V fun e w' => e = .returned (.int .i64 (restN h wd)) ∧ Below V.heap.size V w') := Lib.hid fun V => restLong_any h wd hw ho V
  have hr : restN h wd ≤ 70000000000 := by
    obtain ⟨o1, o2, o3, o4, o5, o6⟩ := ho
    unfold restN
    rcases hw with rfl | rfl <;> omega
  obtain ⟨r, hre⟩ : ∃ r, restN h wd = r := ⟨_, rfl⟩
  unfold longN
  rw [hre] at HR hr ⊢
  clear hre
  obtain ⟨o1, o2, o3, o4, o5, o6⟩ := ho
  obtain ⟨version, uts, stds, leaps, times, types, letters⟩ := h
  simp only at o1 o2 o3 o4 o5 o6
  unfold hdVal at HR ⊢
  simp only at HR ⊢
  have b4 : (0 : Int) ≤ (times : Int) := by omega
  have b5 : (0 : Int) ≤ (types : Int) := by omega
  have b6 : (0 : Int) ≤ (letters : Int) := by omega
  have b7 : (0 : Int) ≤ (r : Int) := by omega
  have c4 : (times : Int) ≤ 4294967295 := by omega
  have c5 : (types : Int) ≤ 4294967295 := by omega
  have c6 : (letters : Int) ≤ 4294967295 := by omega
  have c7 : (r : Int) ≤ 70000000000 := by omega
  have HB : Hid (Below w.heap.size w (w.alloc (.cells #[.int .u8 version, .int .i64 uts, .int .i64 stds, .int .i64 leaps, .int .i64 times, .int .i64 types, .int .i64 letters] 60))) := Lib.hid ((Below.refl _ _).alloc (Nat.le_refl _) _)
  have hq : ∀ i, (w.alloc (.cells #[.int .u8 version, .int .i64 uts, .int .i64 stds, .int .i64 leaps, .int .i64 times, .int .i64 types, .int .i64 letters] 60)).cell? ⟨w.heap.size, i, none⟩ = (#[.int .u8 version, .int .i64 uts, .int .i64 stds, .int .i64 leaps, .int .i64 times, .int .i64 types, .int .i64 letters] : Array Value)[i]? := fun i => World.cell?_alloc_mark w _ 60 (0, 0) i
  have q0 := hq 0; have q1 := hq 1; have q2 := hq 2; have q3 := hq 3; have q4 := hq 4; have q5 := hq 5; have q6 := hq 6
  simp only [List.getElem?_toArray, List.getElem?_cons_zero, List.getElem?_cons_succ] at q0 q1 q2 q3 q4 q5 q6
  have HQ0 := Lib.hid q0; have HQ1 := Lib.hid q1; have HQ2 := Lib.hid q2; have HQ3 := Lib.hid q3; have HQ4 := Lib.hid q4; have HQ5 := Lib.hid q5; have HQ6 := Lib.hid q6
  have HL : Hid (w.heap.size < (w.alloc (.cells #[.int .u8 version, .int .i64 uts, .int .i64 stds, .int .i64 leaps, .int .i64 times, .int .i64 types, .int .i64 letters] 60)).heap.size) := Lib.hid (by simp)
  clear hq q0 q1 q2 q3 q4 q5 q6
  rcases hw with rfl | rfl
  all_goals
    go_enter Try.func23, Try.ntmps23
    go_wp2_with fail
    refine wp_world (R := fun V => Below w.heap.size w V ∧ w.heap.size < V.heap.size ∧ V.cell? ⟨w.heap.size, 0, none⟩ = some (.int .u8 version) ∧ V.cell? ⟨w.heap.size, 1, none⟩ = some (.int .i64 uts) ∧ V.cell? ⟨w.heap.size, 2, none⟩ = some (.int .i64 stds) ∧ V.cell? ⟨w.heap.size, 3, none⟩ = some (.int .i64 leaps) ∧ V.cell? ⟨w.heap.size, 4, none⟩ = some (.int .i64 times) ∧ V.cell? ⟨w.heap.size, 5, none⟩ = some (.int .i64 types) ∧ V.cell? ⟨w.heap.size, 6, none⟩ = some (.int .i64 letters)) ⟨HB.out, HL.out, HQ0.out, HQ1.out, HQ2.out, HQ3.out, HQ4.out, HQ5.out, HQ6.out⟩ ?_
    clear HB HL HQ0 HQ1 HQ2 HQ3 HQ4 HQ5 HQ6
    rintro V ⟨hb, hl, h0, h1, h2, h3, h4, h5, h6⟩
    have HBV := Lib.hid hb
    have key : ∀ (i : Nat) (u : Value), V.cell? ⟨w.heap.size, i, none⟩ = some u → ∀ d os, (Sort.grow (redrawn V d) os).cell? ⟨w.heap.size, i, none⟩ = some u := fun i u hu d os => ((below_regrown V d os).cell (p := ⟨w.heap.size, i, none⟩) hl).trans hu
    have p0 := key _ _ h0; have p1 := key _ _ h1; have p2 := key _ _ h2; have p3 := key _ _ h3; have p4 := key _ _ h4; have p5 := key _ _ h5; have p6 := key _ _ h6
    clear key hb hl h0 h1 h2 h3 h4 h5 h6
    have s0 : IntKind.i64.wrap ((times : Int) * 5) = (times : Int) * 5 := IntWalk.i64_in _ (by omega)
    have s9 : IntKind.i64.wrap ((times : Int) * 9) = (times : Int) * 9 := IntWalk.i64_in _ (by omega)
    have s1 : IntKind.i64.wrap ((types : Int) * 6) = (types : Int) * 6 := IntWalk.i64_in _ (by omega)
    have s2 : IntKind.i64.wrap ((times : Int) * 5 + (types : Int) * 6) = (times : Int) * 5 + (types : Int) * 6 := IntWalk.i64_in _ (by omega)
    have s3 : IntKind.i64.wrap ((times : Int) * 9 + (types : Int) * 6) = (times : Int) * 9 + (types : Int) * 6 := IntWalk.i64_in _ (by omega)
    have s4 : IntKind.i64.wrap ((times : Int) * 5 + (types : Int) * 6 + (letters : Int)) = (times : Int) * 5 + (types : Int) * 6 + (letters : Int) := IntWalk.i64_in _ (by omega)
    have s5 : IntKind.i64.wrap ((times : Int) * 9 + (types : Int) * 6 + (letters : Int)) = (times : Int) * 9 + (types : Int) * 6 + (letters : Int) := IntWalk.i64_in _ (by omega)
    have s6 : IntKind.i64.wrap ((times : Int) * 5 + (types : Int) * 6 + (letters : Int) + (r : Int)) = (times : Int) * 5 + (types : Int) * 6 + (letters : Int) + (r : Int) := IntWalk.i64_in _ (by omega)
    have s7 : IntKind.i64.wrap ((times : Int) * 9 + (types : Int) * 6 + (letters : Int) + (r : Int)) = (times : Int) * 9 + (types : Int) * 6 + (letters : Int) + (r : Int) := IntWalk.i64_in _ (by omega)
    clear b4 b5 b6 b7 c4 c5 c6 c7
    refine wp_region_quiet_below (by kernel_rfl) (by kernel_rfl) ?_
    repeat (first | go_big_quiet_step ((go_at_call 41; with_reducible exact Calls.regrown_of (HR.out _))) | quiet_step ((go_at_call 41; with_reducible exact Calls.regrown_of (HR.out _))))
    refine wpQuiet_nil ?_
    intro w8 hV
    have HB8 := Lib.hid (below_class hV)
    clear hV p0 p1 p2 p3 p4 p5 p6
    go_wp2_with fail
    go_ret
    refine ⟨?_, HBV.out.trans (HB8.out.mono HBV.out.size)⟩
    congr 2 <;> omega
end Go.Proofs.Ytljkcnoicdhchaa.Tz
