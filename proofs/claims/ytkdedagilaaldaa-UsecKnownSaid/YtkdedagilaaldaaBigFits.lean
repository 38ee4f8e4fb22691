/-
  What clepsydraref01.Fits answers.
-/
import Derived.Test.YtkdedagilaaldaaBigPlain
namespace Go.Proofs.Ytkdedagilaaldaa.Us
open Go.RowKit

set_option maxHeartbeats 600000 in
theorem fits2_true (a0 a1 a2 a3 a4 : Int) (w : World) (h : 0 < a2) :
    Calls Try.prog 19 #[.agg #[.bool true, .int .u64 a0, .int .u64 a1, .int .u64 a2, .int .u64 a3, .int .u64 a4]] w fun e w' => e = .returned (.tuple #[.int .i64 0, .bool false]) ∧ Keeps w w' := by
  go_enter Try.func19, Try.ntmps19
  go_wp2
  go_ret2
  exact ⟨rfl, by repeat (first | with_reducible exact Keeps.refl _ | (with_reducible refine Keeps.setCell ?_ ?hz _; case hz => simp; omega) | with_reducible refine Keeps.drewN ?_ _ | with_reducible refine Keeps.alloc ?_ _ _)⟩

set_option maxHeartbeats 600000 in
theorem fits3_true (a0 a1 a3 a4 : Int) (w : World) (h : 0 < a3) :
    Calls Try.prog 19 #[.agg #[.bool true, .int .u64 a0, .int .u64 a1, .int .u64 0, .int .u64 a3, .int .u64 a4]] w fun e w' => e = .returned (.tuple #[.int .i64 0, .bool false]) ∧ Keeps w w' := by
  go_enter Try.func19, Try.ntmps19
  go_wp2
  go_ret2
  exact ⟨rfl, by repeat (first | with_reducible exact Keeps.refl _ | (with_reducible refine Keeps.setCell ?_ ?hz _; case hz => simp; omega) | with_reducible refine Keeps.drewN ?_ _ | with_reducible refine Keeps.alloc ?_ _ _)⟩

set_option maxHeartbeats 600000 in
theorem fits4_true (a0 a1 a4 : Int) (w : World) (h : 0 < a4) :
    Calls Try.prog 19 #[.agg #[.bool true, .int .u64 a0, .int .u64 a1, .int .u64 0, .int .u64 0, .int .u64 a4]] w fun e w' => e = .returned (.tuple #[.int .i64 0, .bool false]) ∧ Keeps w w' := by
  go_enter Try.func19, Try.ntmps19
  go_wp2
  go_ret2
  exact ⟨rfl, by repeat (first | with_reducible exact Keeps.refl _ | (with_reducible refine Keeps.setCell ?_ ?hz _; case hz => simp; omega) | with_reducible refine Keeps.drewN ?_ _ | with_reducible refine Keeps.alloc ?_ _ _)⟩

set_option maxHeartbeats 600000 in
theorem fits2_false (a0 a1 a2 a3 a4 : Int) (w : World) (h : 0 < a2) :
    Calls Try.prog 19 #[.agg #[.bool false, .int .u64 a0, .int .u64 a1, .int .u64 a2, .int .u64 a3, .int .u64 a4]] w fun e w' => e = .returned (.tuple #[.int .i64 0, .bool false]) ∧ Keeps w w' := by
  go_enter Try.func19, Try.ntmps19
  go_wp2
  go_ret2
  exact ⟨rfl, by repeat (first | with_reducible exact Keeps.refl _ | (with_reducible refine Keeps.setCell ?_ ?hz _; case hz => simp; omega) | with_reducible refine Keeps.drewN ?_ _ | with_reducible refine Keeps.alloc ?_ _ _)⟩

set_option maxHeartbeats 600000 in
theorem fits3_false (a0 a1 a3 a4 : Int) (w : World) (h : 0 < a3) :
    Calls Try.prog 19 #[.agg #[.bool false, .int .u64 a0, .int .u64 a1, .int .u64 0, .int .u64 a3, .int .u64 a4]] w fun e w' => e = .returned (.tuple #[.int .i64 0, .bool false]) ∧ Keeps w w' := by
  go_enter Try.func19, Try.ntmps19
  go_wp2
  go_ret2
  exact ⟨rfl, by repeat (first | with_reducible exact Keeps.refl _ | (with_reducible refine Keeps.setCell ?_ ?hz _; case hz => simp; omega) | with_reducible refine Keeps.drewN ?_ _ | with_reducible refine Keeps.alloc ?_ _ _)⟩

set_option maxHeartbeats 600000 in
theorem fits4_false (a0 a1 a4 : Int) (w : World) (h : 0 < a4) :
    Calls Try.prog 19 #[.agg #[.bool false, .int .u64 a0, .int .u64 a1, .int .u64 0, .int .u64 0, .int .u64 a4]] w fun e w' => e = .returned (.tuple #[.int .i64 0, .bool false]) ∧ Keeps w w' := by
  go_enter Try.func19, Try.ntmps19
  go_wp2
  go_ret2
  exact ⟨rfl, by repeat (first | with_reducible exact Keeps.refl _ | (with_reducible refine Keeps.setCell ?_ ?hz _; case hz => simp; omega) | with_reducible refine Keeps.drewN ?_ _ | with_reducible refine Keeps.alloc ?_ _ _)⟩

set_option maxHeartbeats 600000 in
theorem fits_minus (a0 a1 : Int) (w : World) (h0 : 0 ≤ a0 ∧ a0 ≤ 4294967295) (h1 : 0 ≤ a1 ∧ a1 ≤ 4294967295) (h : a1 * 4294967296 + a0 ≤ 9223372036854775808) :
    Calls Try.prog 19 #[.agg #[.bool true, .int .u64 a0, .int .u64 a1, .int .u64 0, .int .u64 0, .int .u64 0]] w fun e w' => e = .returned (.tuple #[.int .i64 (-(a1 * 4294967296 + a0)), .bool true]) ∧ Keeps w w' := by
  go_enter Try.func19, Try.ntmps19
  go_wp2
  go_ret2
  exact ⟨ret_num_bool (by rw [IntKind.wrap_u64]; unfold wrap64; omega), by repeat (first | with_reducible exact Keeps.refl _ | (with_reducible refine Keeps.setCell ?_ ?hz _; case hz => simp; omega) | with_reducible refine Keeps.drewN ?_ _ | with_reducible refine Keeps.alloc ?_ _ _)⟩

set_option maxHeartbeats 600000 in
theorem fits_minus_no (a0 a1 : Int) (w : World) (h0 : 0 ≤ a0 ∧ a0 ≤ 4294967295) (h1 : 0 ≤ a1 ∧ a1 ≤ 4294967295) (h : ¬ a1 * 4294967296 + a0 ≤ 9223372036854775808) :
    Calls Try.prog 19 #[.agg #[.bool true, .int .u64 a0, .int .u64 a1, .int .u64 0, .int .u64 0, .int .u64 0]] w fun e w' => e = .returned (.tuple #[.int .i64 0, .bool false]) ∧ Keeps w w' := by
  go_enter Try.func19, Try.ntmps19
  go_wp2
  go_ret2
  exact ⟨rfl, by repeat (first | with_reducible exact Keeps.refl _ | (with_reducible refine Keeps.setCell ?_ ?hz _; case hz => simp; omega) | with_reducible refine Keeps.drewN ?_ _ | with_reducible refine Keeps.alloc ?_ _ _)⟩

set_option maxHeartbeats 600000 in
theorem fits_plus (a0 a1 : Int) (w : World) (h0 : 0 ≤ a0 ∧ a0 ≤ 4294967295) (h1 : 0 ≤ a1 ∧ a1 ≤ 4294967295) (h : a1 * 4294967296 + a0 < 9223372036854775808) :
    Calls Try.prog 19 #[.agg #[.bool false, .int .u64 a0, .int .u64 a1, .int .u64 0, .int .u64 0, .int .u64 0]] w fun e w' => e = .returned (.tuple #[.int .i64 (a1 * 4294967296 + a0), .bool true]) ∧ Keeps w w' := by
  go_enter Try.func19, Try.ntmps19
  go_wp2
  go_ret2
  exact ⟨rfl, by repeat (first | with_reducible exact Keeps.refl _ | (with_reducible refine Keeps.setCell ?_ ?hz _; case hz => simp; omega) | with_reducible refine Keeps.drewN ?_ _ | with_reducible refine Keeps.alloc ?_ _ _)⟩

set_option maxHeartbeats 600000 in
theorem fits_plus_no (a0 a1 : Int) (w : World) (h0 : 0 ≤ a0 ∧ a0 ≤ 4294967295) (h1 : 0 ≤ a1 ∧ a1 ≤ 4294967295) (h : ¬ a1 * 4294967296 + a0 < 9223372036854775808) :
    Calls Try.prog 19 #[.agg #[.bool false, .int .u64 a0, .int .u64 a1, .int .u64 0, .int .u64 0, .int .u64 0]] w fun e w' => e = .returned (.tuple #[.int .i64 0, .bool false]) ∧ Keeps w w' := by
  go_enter Try.func19, Try.ntmps19
  go_wp2
  go_ret2
  exact ⟨rfl, by repeat (first | with_reducible exact Keeps.refl _ | (with_reducible refine Keeps.setCell ?_ ?hz _; case hz => simp; omega) | with_reducible refine Keeps.drewN ?_ _ | with_reducible refine Keeps.alloc ?_ _ _)⟩

/-- The whole number, with its sign. -/
def sgd (m : Bool) (n : Int) : Int := if m then -n else n
theorem fits_big (m : Bool) (n : Int) (x : Value) (w : World) (hx : IsBig m n x) :
    Calls Try.prog 19 #[x] w fun e w' => e = .returned (.tuple #[.int .i64 (fit (sgd m n)), .bool (fits (sgd m n))]) ∧ Keeps w w' := by
  obtain ⟨a0, a1, a2, a3, a4, ⟨ha0, ha1, ha2, ha3, ha4⟩, hna, rfl⟩ := hx
  unfold Dg at ha0 ha1 ha2 ha3 ha4
  have no : ∀ k : Int, ¬ (-9223372036854775808 ≤ k ∧ k ≤ 9223372036854775807) → fits k = false ∧ fit k = 0 := fun k h => ⟨fits_no h, fit_no (fits_no h)⟩
  have yes : ∀ k : Int, (-9223372036854775808 ≤ k ∧ k ≤ 9223372036854775807) → fits k = true ∧ fit k = k := fun k h => ⟨fits_yes h, fit_yes (fits_yes h)⟩
  cases m <;> simp only [sgd, if_true, if_false, Bool.false_eq_true]
  · by_cases h2 : 0 < a2
    · rw [(no n (by omega)).1, (no n (by omega)).2]; exact fits2_false a0 a1 a2 a3 a4 w h2
    obtain rfl : a2 = 0 := by omega
    by_cases h3 : 0 < a3
    · rw [(no n (by omega)).1, (no n (by omega)).2]; exact fits3_false a0 a1 a3 a4 w h3
    obtain rfl : a3 = 0 := by omega
    by_cases h4 : 0 < a4
    · rw [(no n (by omega)).1, (no n (by omega)).2]; exact fits4_false a0 a1 a4 w h4
    obtain rfl : a4 = 0 := by omega
    by_cases h : a1 * 4294967296 + a0 < 9223372036854775808
    · rw [(yes n (by omega)).1, (yes n (by omega)).2, show n = a1 * 4294967296 + a0 by omega]; exact fits_plus a0 a1 w ha0 ha1 h
    · rw [(no n (by omega)).1, (no n (by omega)).2]; exact fits_plus_no a0 a1 w ha0 ha1 h
  · by_cases h2 : 0 < a2
    · rw [(no (-n) (by omega)).1, (no (-n) (by omega)).2]; exact fits2_true a0 a1 a2 a3 a4 w h2
    obtain rfl : a2 = 0 := by omega
    by_cases h3 : 0 < a3
    · rw [(no (-n) (by omega)).1, (no (-n) (by omega)).2]; exact fits3_true a0 a1 a3 a4 w h3
    obtain rfl : a3 = 0 := by omega
    by_cases h4 : 0 < a4
    · rw [(no (-n) (by omega)).1, (no (-n) (by omega)).2]; exact fits4_true a0 a1 a4 w h4
    obtain rfl : a4 = 0 := by omega
    by_cases h : a1 * 4294967296 + a0 ≤ 9223372036854775808
    · rw [(yes (-n) (by omega)).1, (yes (-n) (by omega)).2, show -n = -(a1 * 4294967296 + a0) by omega]; exact fits_minus a0 a1 w ha0 ha1 h
    · rw [(no (-n) (by omega)).1, (no (-n) (by omega)).2]; exact fits_minus_no a0 a1 w ha0 ha1 h

end Go.Proofs.Ytkdedagilaaldaa.Us
