/-
  Layer 6 (tzif): the law TzifMore (written by gen_more6.py).
-/
import Derived.Test.YtohpdpcjhmopbaaTzMc
namespace Go.Proofs.Ytohpdpcjhmopbaa.Tz
open Go.RowKit

set_option maxRecDepth 100000 in
set_option maxHeartbeats 2000000 in
theorem more_a (z : Zn) (vt vs vi : Value) (B : Nat) (sec more idx : Int) (w : World) (h : ZnAt w B z vt vs vi) (hB : B ≤ w.heap.size) (hf : fewZ z 500 = false) :
    Calls Try.prog 6 #[.agg #[vt, vs, vi, .string z.footer], .int .i64 sec, .int .u32 more, .int .i64 idx] w fun e w' => e = .returned (.bool true) ∧ Below w.heap.size w w' := by
  obtain ⟨At, ct, rfl⟩ := h.types.len
  obtain ⟨As, cs, rfl⟩ := h.times.len
  obtain ⟨Ai, ci, rfl⟩ := h.index.len
  have H := Lib.hid h
  obtain ⟨W0, hW0⟩ : ∃ W0, w.alloc (.cells #[.slice At z.types.length ct, .slice As z.times.length cs, .slice Ai z.index.length ci, .string z.footer] 26) = W0 := ⟨_, rfl⟩
  have HB0 : Hid (Below w.heap.size w W0) := Lib.hid (by rw [← hW0]; exact (Below.refl _ _).alloc (Nat.le_refl _) _)
  have HSZ : Hid (W0.heap.size = w.heap.size + 1) := Lib.hid (by rw [← hW0]; simp)
  have HC0 : Hid (∀ i u, (#[.slice At z.types.length ct, .slice As z.times.length cs, .slice Ai z.index.length ci, .string z.footer] : Array Value)[i]? = some u → W0.cell? ⟨w.heap.size, i, none⟩ = some u) := Lib.hid fun i u hu => by rw [← hW0]; exact cell_new w _ _ _ i u rfl hu
  have HB : Hid (Below W0.heap.size W0 W0) := Lib.hid (Below.refl _ _)
  have HC : Hid (∀ V, Below W0.heap.size W0 V → ∀ i u, (#[.slice At z.types.length ct, .slice As z.times.length cs, .slice Ai z.index.length ci, .string z.footer] : Array Value)[i]? = some u → V.cell? ⟨w.heap.size, i, none⟩ = some u) := Lib.hid fun V hb i u hu => cells_at w.heap.size hb (by rw [HSZ.out]; omega) (HC0.out i u hu)
  have HZ : Hid (∀ V, Below W0.heap.size W0 V → ZnAt V B z (.slice At z.types.length ct) (.slice As z.times.length cs) (.slice Ai z.index.length ci)) := Lib.hid fun V hb => (H.out.below HB0.out hB).below hb (by rw [HSZ.out]; omega)
  have HFEW : Hid (∀ V, Below W0.heap.size W0 V → Calls Try.prog 8 #[.agg #[.slice At z.types.length ct, .slice As z.times.length cs, .slice Ai z.index.length ci, .string z.footer], .int .i64 500] V fun e V' => e = .returned (.bool false) ∧ Below V.heap.size V V') := Lib.hid fun V hb => by
    have := few_any z _ _ _ B 500 V (HZ.out V hb)
    rwa [hf] at this
  have q0 := HC.out _ HB.out 0 _ rfl; have q1 := HC.out _ HB.out 1 _ rfl; have q2 := HC.out _ HB.out 2 _ rfl; have q3 := HC.out _ HB.out 3 _ rfl
  clear h hf hB
  go_enter Try.func6, Try.ntmps6
  go_wp2_with (first
    | (go_at_call 8; refine (HFEW.out _ HB.out).mono ?_; clear HFEW q0 q1 q2 q3; rintro e V1 ⟨rfl, hb⟩; have HB1 := Lib.hid (HB.out.trans (hb.mono HB.out.size)); clear hb; have q0 := HC.out _ HB1.out 0 _ rfl; have q1 := HC.out _ HB1.out 1 _ rfl; have q2 := HC.out _ HB1.out 2 _ rfl; have q3 := HC.out _ HB1.out 3 _ rfl)
    | (go_at_call 9; refine (works_any _).mono ?_; rintro e V9 ⟨rfl, hb⟩; have HB9 := Lib.hid (HB1.out.trans (hb.mono HB1.out.size)); clear hb)
    | fail)
  go_ret
  exact ⟨rfl, HB0.out.trans (HB9.out.mono HB0.out.size)⟩
set_option maxRecDepth 100000 in
set_option maxHeartbeats 2000000 in
theorem more_b (z : Zn) (vt vs vi : Value) (B : Nat) (sec more idx : Int) (w : World) (h : ZnAt w B z vt vs vi) (hB : B ≤ w.heap.size) (hf : fewZ z 500 = true) (ho : ZnOk z) (hr : rightZ z = false) :
    Calls Try.prog 6 #[.agg #[vt, vs, vi, .string z.footer], .int .i64 sec, .int .u32 more, .int .i64 idx] w fun e w' => e = .returned (.bool true) ∧ Below w.heap.size w w' := by
  obtain ⟨At, ct, rfl⟩ := h.types.len
  obtain ⟨As, cs, rfl⟩ := h.times.len
  obtain ⟨Ai, ci, rfl⟩ := h.index.len
  have H := Lib.hid h
  obtain ⟨W0, hW0⟩ : ∃ W0, w.alloc (.cells #[.slice At z.types.length ct, .slice As z.times.length cs, .slice Ai z.index.length ci, .string z.footer] 26) = W0 := ⟨_, rfl⟩
  have HB0 : Hid (Below w.heap.size w W0) := Lib.hid (by rw [← hW0]; exact (Below.refl _ _).alloc (Nat.le_refl _) _)
  have HSZ : Hid (W0.heap.size = w.heap.size + 1) := Lib.hid (by rw [← hW0]; simp)
  have HC0 : Hid (∀ i u, (#[.slice At z.types.length ct, .slice As z.times.length cs, .slice Ai z.index.length ci, .string z.footer] : Array Value)[i]? = some u → W0.cell? ⟨w.heap.size, i, none⟩ = some u) := Lib.hid fun i u hu => by rw [← hW0]; exact cell_new w _ _ _ i u rfl hu
  have HB : Hid (Below W0.heap.size W0 W0) := Lib.hid (Below.refl _ _)
  have HC : Hid (∀ V, Below W0.heap.size W0 V → ∀ i u, (#[.slice At z.types.length ct, .slice As z.times.length cs, .slice Ai z.index.length ci, .string z.footer] : Array Value)[i]? = some u → V.cell? ⟨w.heap.size, i, none⟩ = some u) := Lib.hid fun V hb i u hu => cells_at w.heap.size hb (by rw [HSZ.out]; omega) (HC0.out i u hu)
  have HZ : Hid (∀ V, Below W0.heap.size W0 V → ZnAt V B z (.slice At z.types.length ct) (.slice As z.times.length cs) (.slice Ai z.index.length ci)) := Lib.hid fun V hb => (H.out.below HB0.out hB).below hb (by rw [HSZ.out]; omega)
  have HFEW : Hid (∀ V, Below W0.heap.size W0 V → Calls Try.prog 8 #[.agg #[.slice At z.types.length ct, .slice As z.times.length cs, .slice Ai z.index.length ci, .string z.footer], .int .i64 500] V fun e V' => e = .returned (.bool true) ∧ Below V.heap.size V V') := Lib.hid fun V hb => by
    have := few_any z _ _ _ B 500 V (HZ.out V hb)
    rwa [hf] at this
  have HRT : Hid (∀ V, Below W0.heap.size W0 V → Calls Try.prog 13 #[.agg #[.slice At z.types.length ct, .slice As z.times.length cs, .slice Ai z.index.length ci, .string z.footer]] V fun e V' => e = .returned (.bool false) ∧ Below V.heap.size V V') := Lib.hid fun V hb => by
    have := right_any z _ _ _ B V (HZ.out V hb) ho (by have := hb.size; have := HSZ.out; omega)
    rwa [hr] at this
  have q0 := HC.out _ HB.out 0 _ rfl; have q1 := HC.out _ HB.out 1 _ rfl; have q2 := HC.out _ HB.out 2 _ rfl; have q3 := HC.out _ HB.out 3 _ rfl
  clear h hf hB hr ho
  go_enter Try.func6, Try.ntmps6
  go_wp2_with (first
    | (go_at_call 8; refine (HFEW.out _ HB.out).mono ?_; clear HFEW q0 q1 q2 q3; rintro e V1 ⟨rfl, hb⟩; have HB1 := Lib.hid (HB.out.trans (hb.mono HB.out.size)); clear hb; have q0 := HC.out _ HB1.out 0 _ rfl; have q1 := HC.out _ HB1.out 1 _ rfl; have q2 := HC.out _ HB1.out 2 _ rfl; have q3 := HC.out _ HB1.out 3 _ rfl)
    | (go_at_call 13; refine (HRT.out _ HB1.out).mono ?_; clear HRT q0 q1 q2 q3; rintro e V2 ⟨rfl, hb⟩; have HB2 := Lib.hid (HB1.out.trans (hb.mono HB1.out.size)); clear hb; have q0 := HC.out _ HB2.out 0 _ rfl; have q1 := HC.out _ HB2.out 1 _ rfl; have q2 := HC.out _ HB2.out 2 _ rfl; have q3 := HC.out _ HB2.out 3 _ rfl)
    | (go_at_call 9; refine (works_any _).mono ?_; rintro e V9 ⟨rfl, hb⟩; have HB9 := Lib.hid (HB2.out.trans (hb.mono HB2.out.size)); clear hb)
    | fail)
  go_ret
  exact ⟨rfl, HB0.out.trans (HB9.out.mono HB0.out.size)⟩
set_option maxRecDepth 100000 in
set_option maxHeartbeats 2000000 in
theorem more_c (z : Zn) (vt vs vi : Value) (B : Nat) (sec more idx : Int) (w : World) (h : ZnAt w B z vt vs vi) (hB : B ≤ w.heap.size) (hf : fewZ z 500 = true) (ho : ZnOk z) (hr : rightZ z = true) (h1 : 499 ≤ z.times.length) :
    Calls Try.prog 6 #[.agg #[vt, vs, vi, .string z.footer], .int .i64 sec, .int .u32 more, .int .i64 idx] w fun e w' => e = .returned (.bool true) ∧ Below w.heap.size w w' := by
  obtain ⟨At, ct, rfl⟩ := h.types.len
  obtain ⟨As, cs, rfl⟩ := h.times.len
  obtain ⟨Ai, ci, rfl⟩ := h.index.len
  have H := Lib.hid h
  obtain ⟨W0, hW0⟩ : ∃ W0, w.alloc (.cells #[.slice At z.types.length ct, .slice As z.times.length cs, .slice Ai z.index.length ci, .string z.footer] 26) = W0 := ⟨_, rfl⟩
  have HB0 : Hid (Below w.heap.size w W0) := Lib.hid (by rw [← hW0]; exact (Below.refl _ _).alloc (Nat.le_refl _) _)
  have HSZ : Hid (W0.heap.size = w.heap.size + 1) := Lib.hid (by rw [← hW0]; simp)
  have HC0 : Hid (∀ i u, (#[.slice At z.types.length ct, .slice As z.times.length cs, .slice Ai z.index.length ci, .string z.footer] : Array Value)[i]? = some u → W0.cell? ⟨w.heap.size, i, none⟩ = some u) := Lib.hid fun i u hu => by rw [← hW0]; exact cell_new w _ _ _ i u rfl hu
  have HB : Hid (Below W0.heap.size W0 W0) := Lib.hid (Below.refl _ _)
  have HC : Hid (∀ V, Below W0.heap.size W0 V → ∀ i u, (#[.slice At z.types.length ct, .slice As z.times.length cs, .slice Ai z.index.length ci, .string z.footer] : Array Value)[i]? = some u → V.cell? ⟨w.heap.size, i, none⟩ = some u) := Lib.hid fun V hb i u hu => cells_at w.heap.size hb (by rw [HSZ.out]; omega) (HC0.out i u hu)
  have HZ : Hid (∀ V, Below W0.heap.size W0 V → ZnAt V B z (.slice At z.types.length ct) (.slice As z.times.length cs) (.slice Ai z.index.length ci)) := Lib.hid fun V hb => (H.out.below HB0.out hB).below hb (by rw [HSZ.out]; omega)
  have HFEW : Hid (∀ V, Below W0.heap.size W0 V → Calls Try.prog 8 #[.agg #[.slice At z.types.length ct, .slice As z.times.length cs, .slice Ai z.index.length ci, .string z.footer], .int .i64 500] V fun e V' => e = .returned (.bool true) ∧ Below V.heap.size V V') := Lib.hid fun V hb => by
    have := few_any z _ _ _ B 500 V (HZ.out V hb)
    rwa [hf] at this
  have HRT : Hid (∀ V, Below W0.heap.size W0 V → Calls Try.prog 13 #[.agg #[.slice At z.types.length ct, .slice As z.times.length cs, .slice Ai z.index.length ci, .string z.footer]] V fun e V' => e = .returned (.bool true) ∧ Below V.heap.size V V') := Lib.hid fun V hb => by
    have := right_any z _ _ _ B V (HZ.out V hb) ho (by have := hb.size; have := HSZ.out; omega)
    rwa [hr] at this
  have q0 := HC.out _ HB.out 0 _ rfl; have q1 := HC.out _ HB.out 1 _ rfl; have q2 := HC.out _ HB.out 2 _ rfl; have q3 := HC.out _ HB.out 3 _ rfl
  have h1 : (499 : Int) ≤ (z.times.length : Int) := by omega
  clear h hf hB hr ho
  go_enter Try.func6, Try.ntmps6
  go_wp2_with (first
    | (go_at_call 8; refine (HFEW.out _ HB.out).mono ?_; clear HFEW q0 q1 q2 q3; rintro e V1 ⟨rfl, hb⟩; have HB1 := Lib.hid (HB.out.trans (hb.mono HB.out.size)); clear hb; have q0 := HC.out _ HB1.out 0 _ rfl; have q1 := HC.out _ HB1.out 1 _ rfl; have q2 := HC.out _ HB1.out 2 _ rfl; have q3 := HC.out _ HB1.out 3 _ rfl)
    | (go_at_call 13; refine (HRT.out _ HB1.out).mono ?_; clear HRT q0 q1 q2 q3; rintro e V2 ⟨rfl, hb⟩; have HB2 := Lib.hid (HB1.out.trans (hb.mono HB1.out.size)); clear hb; have q0 := HC.out _ HB2.out 0 _ rfl; have q1 := HC.out _ HB2.out 1 _ rfl; have q2 := HC.out _ HB2.out 2 _ rfl; have q3 := HC.out _ HB2.out 3 _ rfl)
    | (go_at_call 9; refine (works_any _).mono ?_; rintro e V9 ⟨rfl, hb⟩; have HB9 := Lib.hid (HB2.out.trans (hb.mono HB2.out.size)); clear hb)
    | fail)
  go_ret
  exact ⟨rfl, HB0.out.trans (HB9.out.mono HB0.out.size)⟩
set_option maxRecDepth 100000 in
set_option maxHeartbeats 2000000 in
theorem more_d (z : Zn) (vt vs vi : Value) (B : Nat) (sec more idx : Int) (w : World) (h : ZnAt w B z vt vs vi) (hB : B ≤ w.heap.size) (hf : fewZ z 500 = true) (ho : ZnOk z) (hr : rightZ z = true) (h1 : z.times.length < 499) (h2 : idx < 0) :
    Calls Try.prog 6 #[.agg #[vt, vs, vi, .string z.footer], .int .i64 sec, .int .u32 more, .int .i64 idx] w fun e w' => e = .returned (.bool true) ∧ Below w.heap.size w w' := by
  obtain ⟨At, ct, rfl⟩ := h.types.len
  obtain ⟨As, cs, rfl⟩ := h.times.len
  obtain ⟨Ai, ci, rfl⟩ := h.index.len
  have H := Lib.hid h
  obtain ⟨W0, hW0⟩ : ∃ W0, w.alloc (.cells #[.slice At z.types.length ct, .slice As z.times.length cs, .slice Ai z.index.length ci, .string z.footer] 26) = W0 := ⟨_, rfl⟩
  have HB0 : Hid (Below w.heap.size w W0) := Lib.hid (by rw [← hW0]; exact (Below.refl _ _).alloc (Nat.le_refl _) _)
  have HSZ : Hid (W0.heap.size = w.heap.size + 1) := Lib.hid (by rw [← hW0]; simp)
  have HC0 : Hid (∀ i u, (#[.slice At z.types.length ct, .slice As z.times.length cs, .slice Ai z.index.length ci, .string z.footer] : Array Value)[i]? = some u → W0.cell? ⟨w.heap.size, i, none⟩ = some u) := Lib.hid fun i u hu => by rw [← hW0]; exact cell_new w _ _ _ i u rfl hu
  have HB : Hid (Below W0.heap.size W0 W0) := Lib.hid (Below.refl _ _)
  have HC : Hid (∀ V, Below W0.heap.size W0 V → ∀ i u, (#[.slice At z.types.length ct, .slice As z.times.length cs, .slice Ai z.index.length ci, .string z.footer] : Array Value)[i]? = some u → V.cell? ⟨w.heap.size, i, none⟩ = some u) := Lib.hid fun V hb i u hu => cells_at w.heap.size hb (by rw [HSZ.out]; omega) (HC0.out i u hu)
  have HZ : Hid (∀ V, Below W0.heap.size W0 V → ZnAt V B z (.slice At z.types.length ct) (.slice As z.times.length cs) (.slice Ai z.index.length ci)) := Lib.hid fun V hb => (H.out.below HB0.out hB).below hb (by rw [HSZ.out]; omega)
  have HFEW : Hid (∀ V, Below W0.heap.size W0 V → Calls Try.prog 8 #[.agg #[.slice At z.types.length ct, .slice As z.times.length cs, .slice Ai z.index.length ci, .string z.footer], .int .i64 500] V fun e V' => e = .returned (.bool true) ∧ Below V.heap.size V V') := Lib.hid fun V hb => by
    have := few_any z _ _ _ B 500 V (HZ.out V hb)
    rwa [hf] at this
  have HRT : Hid (∀ V, Below W0.heap.size W0 V → Calls Try.prog 13 #[.agg #[.slice At z.types.length ct, .slice As z.times.length cs, .slice Ai z.index.length ci, .string z.footer]] V fun e V' => e = .returned (.bool true) ∧ Below V.heap.size V V') := Lib.hid fun V hb => by
    have := right_any z _ _ _ B V (HZ.out V hb) ho (by have := hb.size; have := HSZ.out; omega)
    rwa [hr] at this
  have q0 := HC.out _ HB.out 0 _ rfl; have q1 := HC.out _ HB.out 1 _ rfl; have q2 := HC.out _ HB.out 2 _ rfl; have q3 := HC.out _ HB.out 3 _ rfl
  have h1 : ¬ (499 : Int) ≤ (z.times.length : Int) := by omega
  clear h hf hB hr ho
  go_enter Try.func6, Try.ntmps6
  go_wp2_with (first
    | (go_at_call 8; refine (HFEW.out _ HB.out).mono ?_; clear HFEW q0 q1 q2 q3; rintro e V1 ⟨rfl, hb⟩; have HB1 := Lib.hid (HB.out.trans (hb.mono HB.out.size)); clear hb; have q0 := HC.out _ HB1.out 0 _ rfl; have q1 := HC.out _ HB1.out 1 _ rfl; have q2 := HC.out _ HB1.out 2 _ rfl; have q3 := HC.out _ HB1.out 3 _ rfl)
    | (go_at_call 13; refine (HRT.out _ HB1.out).mono ?_; clear HRT q0 q1 q2 q3; rintro e V2 ⟨rfl, hb⟩; have HB2 := Lib.hid (HB1.out.trans (hb.mono HB1.out.size)); clear hb; have q0 := HC.out _ HB2.out 0 _ rfl; have q1 := HC.out _ HB2.out 1 _ rfl; have q2 := HC.out _ HB2.out 2 _ rfl; have q3 := HC.out _ HB2.out 3 _ rfl)
    | (go_at_call 9; refine (works_any _).mono ?_; rintro e V9 ⟨rfl, hb⟩; have HB9 := Lib.hid (HB2.out.trans (hb.mono HB2.out.size)); clear hb)
    | fail)
  go_ret
  exact ⟨rfl, HB0.out.trans (HB9.out.mono HB0.out.size)⟩
set_option maxRecDepth 100000 in
set_option maxHeartbeats 2000000 in
theorem more_e (z : Zn) (vt vs vi : Value) (B : Nat) (sec more idx : Int) (w : World) (h : ZnAt w B z vt vs vi) (hB : B ≤ w.heap.size) (hf : fewZ z 500 = true) (ho : ZnOk z) (hr : rightZ z = true) (h1 : z.times.length < 499) (h2 : 0 ≤ idx) (h3 : z.types.length ≤ idx) :
    Calls Try.prog 6 #[.agg #[vt, vs, vi, .string z.footer], .int .i64 sec, .int .u32 more, .int .i64 idx] w fun e w' => e = .returned (.bool true) ∧ Below w.heap.size w w' := by
  obtain ⟨At, ct, rfl⟩ := h.types.len
  obtain ⟨As, cs, rfl⟩ := h.times.len
  obtain ⟨Ai, ci, rfl⟩ := h.index.len
  have H := Lib.hid h
  obtain ⟨W0, hW0⟩ : ∃ W0, w.alloc (.cells #[.slice At z.types.length ct, .slice As z.times.length cs, .slice Ai z.index.length ci, .string z.footer] 26) = W0 := ⟨_, rfl⟩
  have HB0 : Hid (Below w.heap.size w W0) := Lib.hid (by rw [← hW0]; exact (Below.refl _ _).alloc (Nat.le_refl _) _)
  have HSZ : Hid (W0.heap.size = w.heap.size + 1) := Lib.hid (by rw [← hW0]; simp)
  have HC0 : Hid (∀ i u, (#[.slice At z.types.length ct, .slice As z.times.length cs, .slice Ai z.index.length ci, .string z.footer] : Array Value)[i]? = some u → W0.cell? ⟨w.heap.size, i, none⟩ = some u) := Lib.hid fun i u hu => by rw [← hW0]; exact cell_new w _ _ _ i u rfl hu
  have HB : Hid (Below W0.heap.size W0 W0) := Lib.hid (Below.refl _ _)
  have HC : Hid (∀ V, Below W0.heap.size W0 V → ∀ i u, (#[.slice At z.types.length ct, .slice As z.times.length cs, .slice Ai z.index.length ci, .string z.footer] : Array Value)[i]? = some u → V.cell? ⟨w.heap.size, i, none⟩ = some u) := Lib.hid fun V hb i u hu => cells_at w.heap.size hb (by rw [HSZ.out]; omega) (HC0.out i u hu)
  have HZ : Hid (∀ V, Below W0.heap.size W0 V → ZnAt V B z (.slice At z.types.length ct) (.slice As z.times.length cs) (.slice Ai z.index.length ci)) := Lib.hid fun V hb => (H.out.below HB0.out hB).below hb (by rw [HSZ.out]; omega)
  have HFEW : Hid (∀ V, Below W0.heap.size W0 V → Calls Try.prog 8 #[.agg #[.slice At z.types.length ct, .slice As z.times.length cs, .slice Ai z.index.length ci, .string z.footer], .int .i64 500] V fun e V' => e = .returned (.bool true) ∧ Below V.heap.size V V') := Lib.hid fun V hb => by
    have := few_any z _ _ _ B 500 V (HZ.out V hb)
    rwa [hf] at this
  have HRT : Hid (∀ V, Below W0.heap.size W0 V → Calls Try.prog 13 #[.agg #[.slice At z.types.length ct, .slice As z.times.length cs, .slice Ai z.index.length ci, .string z.footer]] V fun e V' => e = .returned (.bool true) ∧ Below V.heap.size V V') := Lib.hid fun V hb => by
    have := right_any z _ _ _ B V (HZ.out V hb) ho (by have := hb.size; have := HSZ.out; omega)
    rwa [hr] at this
  have q0 := HC.out _ HB.out 0 _ rfl; have q1 := HC.out _ HB.out 1 _ rfl; have q2 := HC.out _ HB.out 2 _ rfl; have q3 := HC.out _ HB.out 3 _ rfl
  have h1 : ¬ (499 : Int) ≤ (z.times.length : Int) := by omega
  have h2 : ¬ idx < 0 := by omega
  clear h hf hB hr ho
  go_enter Try.func6, Try.ntmps6
  go_wp2_with (first
    | (go_at_call 8; refine (HFEW.out _ HB.out).mono ?_; clear HFEW q0 q1 q2 q3; rintro e V1 ⟨rfl, hb⟩; have HB1 := Lib.hid (HB.out.trans (hb.mono HB.out.size)); clear hb; have q0 := HC.out _ HB1.out 0 _ rfl; have q1 := HC.out _ HB1.out 1 _ rfl; have q2 := HC.out _ HB1.out 2 _ rfl; have q3 := HC.out _ HB1.out 3 _ rfl)
    | (go_at_call 13; refine (HRT.out _ HB1.out).mono ?_; clear HRT q0 q1 q2 q3; rintro e V2 ⟨rfl, hb⟩; have HB2 := Lib.hid (HB1.out.trans (hb.mono HB1.out.size)); clear hb; have q0 := HC.out _ HB2.out 0 _ rfl; have q1 := HC.out _ HB2.out 1 _ rfl; have q2 := HC.out _ HB2.out 2 _ rfl; have q3 := HC.out _ HB2.out 3 _ rfl)
    | (go_at_call 9; refine (works_any _).mono ?_; rintro e V9 ⟨rfl, hb⟩; have HB9 := Lib.hid (HB2.out.trans (hb.mono HB2.out.size)); clear hb)
    | fail)
  go_ret
  exact ⟨rfl, HB0.out.trans (HB9.out.mono HB0.out.size)⟩
end Go.Proofs.Ytohpdpcjhmopbaa.Tz
