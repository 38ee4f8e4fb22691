/-
  What clepsydraref01.Of and Neg answers.
-/
import Derived.Test.YtkdedagilaaldaaBigPlain
namespace Go.Proofs.Ytkdedagilaaldaa.Us
open Go.RowKit

set_option maxHeartbeats 600000 in
theorem of_neg (n : Int) (w : World) (h : -9223372036854775808 ≤ n ∧ n ≤ 9223372036854775807) (hn : n < 0) :
    Calls Try.prog 9 #[.int .i64 n] w (GivesBig true n.natAbs w) := by
  have e : IntKind.u64.wrap (-(IntKind.u64.wrap n)) = (n.natAbs : Int) := by
    rw [IntKind.wrap_u64, IntKind.wrap_u64]; omega
  obtain ⟨k, hk⟩ : ∃ k : Int, (n.natAbs : Int) = k := ⟨_, rfl⟩
  rw [hk] at e
  have hl := low32 k
  have HD : Hid (Dg (k % 4294967296) ∧ Dg (k / 4294967296) ∧ Dg 0 ∧ Dg 0 ∧ Dg 0) := by unfold Hid Dg; omega
  have HV : Hid (k % 4294967296 + 4294967296 * (k / 4294967296) + 18446744073709551616 * 0 + 79228162514264337593543950336 * 0 + 340282366920938463463374607431768211456 * 0 = (n.natAbs : Int)) := by unfold Hid; omega
  clear hk
  go_enter Try.func9, Try.ntmps9
  go_wp2
  refine bodyPost_ret (v := .agg #[.bool true, .int .u64 (k % 4294967296), .int .u64 (k / 4294967296), .int .u64 0, .int .u64 0, .int .u64 0]) (by simp [results, Try.results9, go_sem]) rfl ⟨_, ⟨_, _, _, _, _, HD.out, HV.out, rfl⟩, rfl, ?_⟩
  exact by repeat (first | with_reducible exact Keeps.refl _ | (with_reducible refine Keeps.setCell ?_ ?hz _; case hz => simp; omega) | with_reducible refine Keeps.drewN ?_ _ | with_reducible refine Keeps.alloc ?_ _ _)

set_option maxHeartbeats 600000 in
theorem of_pos (n : Int) (w : World) (h : -9223372036854775808 ≤ n ∧ n ≤ 9223372036854775807) (hn : ¬ n < 0) :
    Calls Try.prog 9 #[.int .i64 n] w (GivesBig false n.natAbs w) := by
  have hl := low32 n
  have HD : Hid (Dg (n % 4294967296) ∧ Dg (n / 4294967296) ∧ Dg 0 ∧ Dg 0 ∧ Dg 0) := by unfold Hid Dg; omega
  have HV : Hid (n % 4294967296 + 4294967296 * (n / 4294967296) + 18446744073709551616 * 0 + 79228162514264337593543950336 * 0 + 340282366920938463463374607431768211456 * 0 = (n.natAbs : Int)) := by unfold Hid; omega
  go_enter Try.func9, Try.ntmps9
  go_wp2
  refine bodyPost_ret (v := .agg #[.bool false, .int .u64 (n % 4294967296), .int .u64 (n / 4294967296), .int .u64 0, .int .u64 0, .int .u64 0]) (by simp [results, Try.results9, go_sem]) rfl ⟨_, ⟨_, _, _, _, _, HD.out, HV.out, rfl⟩, rfl, ?_⟩
  exact by repeat (first | with_reducible exact Keeps.refl _ | (with_reducible refine Keeps.setCell ?_ ?hz _; case hz => simp; omega) | with_reducible refine Keeps.drewN ?_ _ | with_reducible refine Keeps.alloc ?_ _ _)

theorem of_big (n : Int) (w : World) (h : -9223372036854775808 ≤ n ∧ n ≤ 9223372036854775807) :
    Calls Try.prog 9 #[.int .i64 n] w (GivesBig (decide (n < 0)) n.natAbs w) := by
  by_cases hn : n < 0
  · rw [decide_eq_true hn]; exact of_neg n w h hn
  · rw [decide_eq_false hn]; exact of_pos n w h hn

set_option maxHeartbeats 600000 in
theorem neg_big (m : Bool) (n : Int) (x : Value) (w : World) (hx : IsBig m n x) :
    Calls Try.prog 15 #[x] w (GivesBig (!m) n w) := by
  obtain ⟨a0, a1, a2, a3, a4, hd, hna, rfl⟩ := hx
  have HD := Lib.hid hd; have HV := Lib.hid hna
  clear hd hna
  go_enter Try.func15, Try.ntmps15
  go_wp2
  refine bodyPost_ret (v := .agg #[.bool !m, .int .u64 a0, .int .u64 a1, .int .u64 a2, .int .u64 a3, .int .u64 a4]) (by simp [results, Try.results15, go_sem]) rfl ⟨_, ⟨a0, a1, a2, a3, a4, HD.out, HV.out, rfl⟩, rfl, ?_⟩
  exact by repeat (first | with_reducible exact Keeps.refl _ | (with_reducible refine Keeps.setCell ?_ ?hz _; case hz => simp; omega) | with_reducible refine Keeps.drewN ?_ _ | with_reducible refine Keeps.alloc ?_ _ _)

end Go.Proofs.Ytkdedagilaaldaa.Us
