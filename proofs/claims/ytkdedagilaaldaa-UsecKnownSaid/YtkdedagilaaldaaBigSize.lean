/-
  What clepsydraref01.Size answers.
-/
import Derived.Test.YtkdedagilaaldaaBigPlain
namespace Go.Proofs.Ytkdedagilaaldaa.Us
open Go.RowKit

set_option maxHeartbeats 600000 in
theorem size_below4 (m m' : Bool) (a0 a1 a2 a3 a4 b0 b1 b2 b3 b4 : Int) (w : World) (h : a4 < b4) :
    Calls Try.prog 26 #[.agg #[.bool m, .int .u64 a0, .int .u64 a1, .int .u64 a2, .int .u64 a3, .int .u64 a4], .agg #[.bool m', .int .u64 b0, .int .u64 b1, .int .u64 b2, .int .u64 b3, .int .u64 b4]] w fun e w' => e = .returned (.int .i64 (-1)) ∧ Keeps w w' := by
  go_enter Try.func26, Try.ntmps26
  go_wp2
  refine wp_loop_rounds 6 ?_
  rw [rounds_succ]
  go_wp2
  go_quiet (fail)
  go_wp2
  go_ret
  exact ⟨rfl, by repeat (first | with_reducible exact Keeps.refl _ | (with_reducible refine Keeps.setCell ?_ ?hz _; case hz => simp; omega) | with_reducible refine Keeps.drewN ?_ _ | with_reducible refine Keeps.alloc ?_ _ _)⟩

set_option maxHeartbeats 600000 in
theorem size_above4 (m m' : Bool) (a0 a1 a2 a3 a4 b0 b1 b2 b3 b4 : Int) (w : World) (h : b4 < a4) :
    Calls Try.prog 26 #[.agg #[.bool m, .int .u64 a0, .int .u64 a1, .int .u64 a2, .int .u64 a3, .int .u64 a4], .agg #[.bool m', .int .u64 b0, .int .u64 b1, .int .u64 b2, .int .u64 b3, .int .u64 b4]] w fun e w' => e = .returned (.int .i64 1) ∧ Keeps w w' := by
  go_enter Try.func26, Try.ntmps26
  go_wp2
  refine wp_loop_rounds 6 ?_
  rw [rounds_succ]
  go_wp2
  go_quiet (fail)
  go_wp2
  go_quiet (fail)
  go_wp2
  go_ret
  exact ⟨rfl, by repeat (first | with_reducible exact Keeps.refl _ | (with_reducible refine Keeps.setCell ?_ ?hz _; case hz => simp; omega) | with_reducible refine Keeps.drewN ?_ _ | with_reducible refine Keeps.alloc ?_ _ _)⟩

set_option maxHeartbeats 600000 in
theorem size_below3 (m m' : Bool) (a0 a1 a2 a3 a4 b0 b1 b2 b3 : Int) (w : World) (h : a3 < b3) :
    Calls Try.prog 26 #[.agg #[.bool m, .int .u64 a0, .int .u64 a1, .int .u64 a2, .int .u64 a3, .int .u64 a4], .agg #[.bool m', .int .u64 b0, .int .u64 b1, .int .u64 b2, .int .u64 b3, .int .u64 a4]] w fun e w' => e = .returned (.int .i64 (-1)) ∧ Keeps w w' := by
  go_enter Try.func26, Try.ntmps26
  go_wp2
  refine wp_loop_rounds 6 ?_
  rw [rounds_succ]
  go_wp2
  go_quiet (fail)
  go_wp2
  go_quiet (fail)
  go_wp2
  rw [rounds_succ]
  go_wp2
  go_quiet (fail)
  go_wp2
  go_ret
  exact ⟨rfl, by repeat (first | with_reducible exact Keeps.refl _ | (with_reducible refine Keeps.setCell ?_ ?hz _; case hz => simp; omega) | with_reducible refine Keeps.drewN ?_ _ | with_reducible refine Keeps.alloc ?_ _ _)⟩

set_option maxHeartbeats 600000 in
theorem size_above3 (m m' : Bool) (a0 a1 a2 a3 a4 b0 b1 b2 b3 : Int) (w : World) (h : b3 < a3) :
    Calls Try.prog 26 #[.agg #[.bool m, .int .u64 a0, .int .u64 a1, .int .u64 a2, .int .u64 a3, .int .u64 a4], .agg #[.bool m', .int .u64 b0, .int .u64 b1, .int .u64 b2, .int .u64 b3, .int .u64 a4]] w fun e w' => e = .returned (.int .i64 1) ∧ Keeps w w' := by
  go_enter Try.func26, Try.ntmps26
  go_wp2
  refine wp_loop_rounds 6 ?_
  rw [rounds_succ]
  go_wp2
  go_quiet (fail)
  go_wp2
  go_quiet (fail)
  go_wp2
  rw [rounds_succ]
  go_wp2
  go_quiet (fail)
  go_wp2
  go_quiet (fail)
  go_wp2
  go_ret
  exact ⟨rfl, by repeat (first | with_reducible exact Keeps.refl _ | (with_reducible refine Keeps.setCell ?_ ?hz _; case hz => simp; omega) | with_reducible refine Keeps.drewN ?_ _ | with_reducible refine Keeps.alloc ?_ _ _)⟩

set_option maxHeartbeats 600000 in
theorem size_below2 (m m' : Bool) (a0 a1 a2 a3 a4 b0 b1 b2 : Int) (w : World) (h : a2 < b2) :
    Calls Try.prog 26 #[.agg #[.bool m, .int .u64 a0, .int .u64 a1, .int .u64 a2, .int .u64 a3, .int .u64 a4], .agg #[.bool m', .int .u64 b0, .int .u64 b1, .int .u64 b2, .int .u64 a3, .int .u64 a4]] w fun e w' => e = .returned (.int .i64 (-1)) ∧ Keeps w w' := by
  go_enter Try.func26, Try.ntmps26
  go_wp2
  refine wp_loop_rounds 6 ?_
  rw [rounds_succ]
  go_wp2
  go_quiet (fail)
  go_wp2
  go_quiet (fail)
  go_wp2
  rw [rounds_succ]
  go_wp2
  go_quiet (fail)
  go_wp2
  go_quiet (fail)
  go_wp2
  rw [rounds_succ]
  go_wp2
  go_quiet (fail)
  go_wp2
  go_ret
  exact ⟨rfl, by repeat (first | with_reducible exact Keeps.refl _ | (with_reducible refine Keeps.setCell ?_ ?hz _; case hz => simp; omega) | with_reducible refine Keeps.drewN ?_ _ | with_reducible refine Keeps.alloc ?_ _ _)⟩

set_option maxHeartbeats 600000 in
theorem size_above2 (m m' : Bool) (a0 a1 a2 a3 a4 b0 b1 b2 : Int) (w : World) (h : b2 < a2) :
    Calls Try.prog 26 #[.agg #[.bool m, .int .u64 a0, .int .u64 a1, .int .u64 a2, .int .u64 a3, .int .u64 a4], .agg #[.bool m', .int .u64 b0, .int .u64 b1, .int .u64 b2, .int .u64 a3, .int .u64 a4]] w fun e w' => e = .returned (.int .i64 1) ∧ Keeps w w' := by
  go_enter Try.func26, Try.ntmps26
  go_wp2
  refine wp_loop_rounds 6 ?_
  rw [rounds_succ]
  go_wp2
  go_quiet (fail)
  go_wp2
  go_quiet (fail)
  go_wp2
  rw [rounds_succ]
  go_wp2
  go_quiet (fail)
  go_wp2
  go_quiet (fail)
  go_wp2
  rw [rounds_succ]
  go_wp2
  go_quiet (fail)
  go_wp2
  go_quiet (fail)
  go_wp2
  go_ret
  exact ⟨rfl, by repeat (first | with_reducible exact Keeps.refl _ | (with_reducible refine Keeps.setCell ?_ ?hz _; case hz => simp; omega) | with_reducible refine Keeps.drewN ?_ _ | with_reducible refine Keeps.alloc ?_ _ _)⟩

set_option maxHeartbeats 600000 in
theorem size_below1 (m m' : Bool) (a0 a1 a2 a3 a4 b0 b1 : Int) (w : World) (h : a1 < b1) :
    Calls Try.prog 26 #[.agg #[.bool m, .int .u64 a0, .int .u64 a1, .int .u64 a2, .int .u64 a3, .int .u64 a4], .agg #[.bool m', .int .u64 b0, .int .u64 b1, .int .u64 a2, .int .u64 a3, .int .u64 a4]] w fun e w' => e = .returned (.int .i64 (-1)) ∧ Keeps w w' := by
  go_enter Try.func26, Try.ntmps26
  go_wp2
  refine wp_loop_rounds 6 ?_
  rw [rounds_succ]
  go_wp2
  go_quiet (fail)
  go_wp2
  go_quiet (fail)
  go_wp2
  rw [rounds_succ]
  go_wp2
  go_quiet (fail)
  go_wp2
  go_quiet (fail)
  go_wp2
  rw [rounds_succ]
  go_wp2
  go_quiet (fail)
  go_wp2
  go_quiet (fail)
  go_wp2
  rw [rounds_succ]
  go_wp2
  go_quiet (fail)
  go_wp2
  go_ret
  exact ⟨rfl, by repeat (first | with_reducible exact Keeps.refl _ | (with_reducible refine Keeps.setCell ?_ ?hz _; case hz => simp; omega) | with_reducible refine Keeps.drewN ?_ _ | with_reducible refine Keeps.alloc ?_ _ _)⟩

set_option maxHeartbeats 600000 in
theorem size_above1 (m m' : Bool) (a0 a1 a2 a3 a4 b0 b1 : Int) (w : World) (h : b1 < a1) :
    Calls Try.prog 26 #[.agg #[.bool m, .int .u64 a0, .int .u64 a1, .int .u64 a2, .int .u64 a3, .int .u64 a4], .agg #[.bool m', .int .u64 b0, .int .u64 b1, .int .u64 a2, .int .u64 a3, .int .u64 a4]] w fun e w' => e = .returned (.int .i64 1) ∧ Keeps w w' := by
  go_enter Try.func26, Try.ntmps26
  go_wp2
  refine wp_loop_rounds 6 ?_
  rw [rounds_succ]
  go_wp2
  go_quiet (fail)
  go_wp2
  go_quiet (fail)
  go_wp2
  rw [rounds_succ]
  go_wp2
  go_quiet (fail)
  go_wp2
  go_quiet (fail)
  go_wp2
  rw [rounds_succ]
  go_wp2
  go_quiet (fail)
  go_wp2
  go_quiet (fail)
  go_wp2
  rw [rounds_succ]
  go_wp2
  go_quiet (fail)
  go_wp2
  go_quiet (fail)
  go_wp2
  go_ret
  exact ⟨rfl, by repeat (first | with_reducible exact Keeps.refl _ | (with_reducible refine Keeps.setCell ?_ ?hz _; case hz => simp; omega) | with_reducible refine Keeps.drewN ?_ _ | with_reducible refine Keeps.alloc ?_ _ _)⟩

set_option maxHeartbeats 600000 in
theorem size_below0 (m m' : Bool) (a0 a1 a2 a3 a4 b0 : Int) (w : World) (h : a0 < b0) :
    Calls Try.prog 26 #[.agg #[.bool m, .int .u64 a0, .int .u64 a1, .int .u64 a2, .int .u64 a3, .int .u64 a4], .agg #[.bool m', .int .u64 b0, .int .u64 a1, .int .u64 a2, .int .u64 a3, .int .u64 a4]] w fun e w' => e = .returned (.int .i64 (-1)) ∧ Keeps w w' := by
  go_enter Try.func26, Try.ntmps26
  go_wp2
  refine wp_loop_rounds 6 ?_
  rw [rounds_succ]
  go_wp2
  go_quiet (fail)
  go_wp2
  go_quiet (fail)
  go_wp2
  rw [rounds_succ]
  go_wp2
  go_quiet (fail)
  go_wp2
  go_quiet (fail)
  go_wp2
  rw [rounds_succ]
  go_wp2
  go_quiet (fail)
  go_wp2
  go_quiet (fail)
  go_wp2
  rw [rounds_succ]
  go_wp2
  go_quiet (fail)
  go_wp2
  go_quiet (fail)
  go_wp2
  rw [rounds_succ]
  go_wp2
  go_quiet (fail)
  go_wp2
  go_ret
  exact ⟨rfl, by repeat (first | with_reducible exact Keeps.refl _ | (with_reducible refine Keeps.setCell ?_ ?hz _; case hz => simp; omega) | with_reducible refine Keeps.drewN ?_ _ | with_reducible refine Keeps.alloc ?_ _ _)⟩

set_option maxHeartbeats 600000 in
theorem size_above0 (m m' : Bool) (a0 a1 a2 a3 a4 b0 : Int) (w : World) (h : b0 < a0) :
    Calls Try.prog 26 #[.agg #[.bool m, .int .u64 a0, .int .u64 a1, .int .u64 a2, .int .u64 a3, .int .u64 a4], .agg #[.bool m', .int .u64 b0, .int .u64 a1, .int .u64 a2, .int .u64 a3, .int .u64 a4]] w fun e w' => e = .returned (.int .i64 1) ∧ Keeps w w' := by
  go_enter Try.func26, Try.ntmps26
  go_wp2
  refine wp_loop_rounds 6 ?_
  rw [rounds_succ]
  go_wp2
  go_quiet (fail)
  go_wp2
  go_quiet (fail)
  go_wp2
  rw [rounds_succ]
  go_wp2
  go_quiet (fail)
  go_wp2
  go_quiet (fail)
  go_wp2
  rw [rounds_succ]
  go_wp2
  go_quiet (fail)
  go_wp2
  go_quiet (fail)
  go_wp2
  rw [rounds_succ]
  go_wp2
  go_quiet (fail)
  go_wp2
  go_quiet (fail)
  go_wp2
  rw [rounds_succ]
  go_wp2
  go_quiet (fail)
  go_wp2
  go_quiet (fail)
  go_wp2
  go_ret
  exact ⟨rfl, by repeat (first | with_reducible exact Keeps.refl _ | (with_reducible refine Keeps.setCell ?_ ?hz _; case hz => simp; omega) | with_reducible refine Keeps.drewN ?_ _ | with_reducible refine Keeps.alloc ?_ _ _)⟩

set_option maxHeartbeats 600000 in
theorem size_same (m m' : Bool) (a0 a1 a2 a3 a4 : Int) (w : World) :
    Calls Try.prog 26 #[.agg #[.bool m, .int .u64 a0, .int .u64 a1, .int .u64 a2, .int .u64 a3, .int .u64 a4], .agg #[.bool m', .int .u64 a0, .int .u64 a1, .int .u64 a2, .int .u64 a3, .int .u64 a4]] w fun e w' => e = .returned (.int .i64 0) ∧ Keeps w w' := by
  go_enter Try.func26, Try.ntmps26
  go_wp2
  refine wp_loop_rounds 6 ?_
  rw [rounds_succ]
  go_wp2
  go_quiet (fail)
  go_wp2
  go_quiet (fail)
  go_wp2
  rw [rounds_succ]
  go_wp2
  go_quiet (fail)
  go_wp2
  go_quiet (fail)
  go_wp2
  rw [rounds_succ]
  go_wp2
  go_quiet (fail)
  go_wp2
  go_quiet (fail)
  go_wp2
  rw [rounds_succ]
  go_wp2
  go_quiet (fail)
  go_wp2
  go_quiet (fail)
  go_wp2
  rw [rounds_succ]
  go_wp2
  go_quiet (fail)
  go_wp2
  go_quiet (fail)
  go_wp2
  rw [rounds_succ]
  go_wp2
  go_ret
  exact ⟨rfl, by repeat (first | with_reducible exact Keeps.refl _ | (with_reducible refine Keeps.setCell ?_ ?hz _; case hz => simp; omega) | with_reducible refine Keeps.drewN ?_ _ | with_reducible refine Keeps.alloc ?_ _ _)⟩

/-- -1, 0 or 1. -/
def szV (a b : Int) : Int := if a < b then -1 else if b < a then 1 else 0
theorem size_big (m m' : Bool) (na nb : Int) (x y : Value) (w : World) (hx : IsBig m na x) (hy : IsBig m' nb y) :
    Calls Try.prog 26 #[x, y] w fun e w' => e = .returned (.int .i64 (szV na nb)) ∧ Keeps w w' := by
  obtain ⟨a0, a1, a2, a3, a4, ⟨ha0, ha1, ha2, ha3, ha4⟩, hna, rfl⟩ := hx
  obtain ⟨b0, b1, b2, b3, b4, ⟨hb0, hb1, hb2, hb3, hb4⟩, hnb, rfl⟩ := hy
  unfold Dg at ha0 ha1 ha2 ha3 ha4 hb0 hb1 hb2 hb3 hb4
  unfold szV
  by_cases l4 : a4 < b4
  · rw [if_pos (by omega)]; exact size_below4 m m' _ _ _ _ _ _ _ _ _ _ w l4
  by_cases g4 : b4 < a4
  · rw [if_neg (by omega), if_pos (by omega)]; exact size_above4 m m' _ _ _ _ _ _ _ _ _ _ w g4
  obtain rfl : a4 = b4 := by omega
  by_cases l3 : a3 < b3
  · rw [if_pos (by omega)]; exact size_below3 m m' _ _ _ _ _ _ _ _ _ w l3
  by_cases g3 : b3 < a3
  · rw [if_neg (by omega), if_pos (by omega)]; exact size_above3 m m' _ _ _ _ _ _ _ _ _ w g3
  obtain rfl : a3 = b3 := by omega
  by_cases l2 : a2 < b2
  · rw [if_pos (by omega)]; exact size_below2 m m' _ _ _ _ _ _ _ _ w l2
  by_cases g2 : b2 < a2
  · rw [if_neg (by omega), if_pos (by omega)]; exact size_above2 m m' _ _ _ _ _ _ _ _ w g2
  obtain rfl : a2 = b2 := by omega
  by_cases l1 : a1 < b1
  · rw [if_pos (by omega)]; exact size_below1 m m' _ _ _ _ _ _ _ w l1
  by_cases g1 : b1 < a1
  · rw [if_neg (by omega), if_pos (by omega)]; exact size_above1 m m' _ _ _ _ _ _ _ w g1
  obtain rfl : a1 = b1 := by omega
  by_cases l0 : a0 < b0
  · rw [if_pos (by omega)]; exact size_below0 m m' _ _ _ _ _ _ w l0
  by_cases g0 : b0 < a0
  · rw [if_neg (by omega), if_pos (by omega)]; exact size_above0 m m' _ _ _ _ _ _ w g0
  obtain rfl : a0 = b0 := by omega
  rw [if_neg (by omega), if_neg (by omega)]
  exact size_same m m' _ _ _ _ _ w

end Go.Proofs.Ytkdedagilaaldaa.Us
