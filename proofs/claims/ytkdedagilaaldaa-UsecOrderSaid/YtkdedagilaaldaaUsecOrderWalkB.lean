/-
  The walk of the law UsecOrder, by the contracts of package usec: a is above b, and they are changed round.
-/
import Derived.Test.YtkdedagilaaldaaUsecOrderWalkA
namespace Go.Proofs.Ytkdedagilaaldaa.Us
open Go.RowKit

set_option maxHeartbeats 1000000 in
theorem order_B1p_low (a b c : Int) (w : World) (ha : -9223372036854775808 ≤ a ∧ a ≤ 9223372036854775807) (hb : -9223372036854775808 ≤ b ∧ b ≤ 9223372036854775807) (hc : -9223372036854775808 ≤ c ∧ c ≤ 9223372036854775807)
    (hab : b < a) (he : fits (b + c) = false) (hp : 0 < c) (hcl : c < b) :
    Calls Try.prog 8 #[.int .i64 a, .int .i64 b, .int .i64 c] w fun e w' => e = .returned (.bool true) ∧ Grown w w' := by
  have hqr : decide (dq a c < dq b c) = false := by rw [decide_eq_false_iff_not]; have := dq_mono b a c (by omega) hp; omega
  have hl1 := laterV_mono c b a hb ha hc (by omega)
  have hl2 := laterV_from c a hc
  go_enter Try.func8, Try.ntmps8
  go_wp2_with fail
  refine (add_any b c _ hb hc).mono ?_; rintro e w' ⟨rfl, rfl⟩
  go_wp2_with fail
  refine (add_any a c _ ha hc).mono ?_; rintro e w' ⟨rfl, rfl⟩
  go_wp2_with fail
  refine (div_yes b c _ hb hc (by omega) (by omega)).mono ?_; rintro e w' ⟨rfl, nb, rfl⟩
  go_wp2_with fail
  refine (div_yes a c _ ha hc (by omega) (by omega)).mono ?_; rintro e w' ⟨rfl, na, rfl⟩
  go_wp2_with fail
  refine (later_any c b _ hc hb).mono ?_; rintro e w' ⟨rfl, rfl⟩
  go_wp2_with fail
  refine (later_any c a _ hc ha).mono ?_; rintro e w' ⟨rfl, rfl⟩
  go_wp2_with fail
  refine (later_any c a _ hc ha).mono ?_; rintro e w' ⟨rfl, rfl⟩
  go_wp2_with fail
  refine (clamp_low c b a _ (by omega)).mono ?_; rintro e w' ⟨rfl, rfl⟩
  go_wp2_with fail
  refine (clamp_mid b b a _ (by omega) (by omega)).mono ?_; rintro e w' ⟨rfl, rfl⟩
  go_wp2_with fail
  refine (works_yes _).mono ?_; rintro e w' ⟨rfl, n, rfl⟩
  go_wp2_with fail
  go_ret
  exact ⟨rfl, by repeat (first | exact Grown.refl _ | apply grown_drewN)⟩

set_option maxHeartbeats 1000000 in
theorem order_B1p_high (a b c : Int) (w : World) (ha : -9223372036854775808 ≤ a ∧ a ≤ 9223372036854775807) (hb : -9223372036854775808 ≤ b ∧ b ≤ 9223372036854775807) (hc : -9223372036854775808 ≤ c ∧ c ≤ 9223372036854775807)
    (hab : b < a) (he : fits (b + c) = false) (hp : 0 < c) (hcl : ¬ c < b) (hch : a < c) :
    Calls Try.prog 8 #[.int .i64 a, .int .i64 b, .int .i64 c] w fun e w' => e = .returned (.bool true) ∧ Grown w w' := by
  have hqr : decide (dq a c < dq b c) = false := by rw [decide_eq_false_iff_not]; have := dq_mono b a c (by omega) hp; omega
  have hl1 := laterV_mono c b a hb ha hc (by omega)
  have hl2 := laterV_from c a hc
  go_enter Try.func8, Try.ntmps8
  go_wp2_with fail
  refine (add_any b c _ hb hc).mono ?_; rintro e w' ⟨rfl, rfl⟩
  go_wp2_with fail
  refine (add_any a c _ ha hc).mono ?_; rintro e w' ⟨rfl, rfl⟩
  go_wp2_with fail
  refine (div_yes b c _ hb hc (by omega) (by omega)).mono ?_; rintro e w' ⟨rfl, nb, rfl⟩
  go_wp2_with fail
  refine (div_yes a c _ ha hc (by omega) (by omega)).mono ?_; rintro e w' ⟨rfl, na, rfl⟩
  go_wp2_with fail
  refine (later_any c b _ hc hb).mono ?_; rintro e w' ⟨rfl, rfl⟩
  go_wp2_with fail
  refine (later_any c a _ hc ha).mono ?_; rintro e w' ⟨rfl, rfl⟩
  go_wp2_with fail
  refine (later_any c a _ hc ha).mono ?_; rintro e w' ⟨rfl, rfl⟩
  go_wp2_with fail
  refine (clamp_high c b a _ (by omega) (by omega)).mono ?_; rintro e w' ⟨rfl, rfl⟩
  go_wp2_with fail
  refine (clamp_mid a b a _ (by omega) (by omega)).mono ?_; rintro e w' ⟨rfl, rfl⟩
  go_wp2_with fail
  refine (works_yes _).mono ?_; rintro e w' ⟨rfl, n, rfl⟩
  go_wp2_with fail
  go_ret
  exact ⟨rfl, by repeat (first | exact Grown.refl _ | apply grown_drewN)⟩

set_option maxHeartbeats 1000000 in
theorem order_B1p_mid (a b c : Int) (w : World) (ha : -9223372036854775808 ≤ a ∧ a ≤ 9223372036854775807) (hb : -9223372036854775808 ≤ b ∧ b ≤ 9223372036854775807) (hc : -9223372036854775808 ≤ c ∧ c ≤ 9223372036854775807)
    (hab : b < a) (he : fits (b + c) = false) (hp : 0 < c) (hcl : ¬ c < b) (hch : ¬ a < c) :
    Calls Try.prog 8 #[.int .i64 a, .int .i64 b, .int .i64 c] w fun e w' => e = .returned (.bool true) ∧ Grown w w' := by
  have hqr : decide (dq a c < dq b c) = false := by rw [decide_eq_false_iff_not]; have := dq_mono b a c (by omega) hp; omega
  have hl1 := laterV_mono c b a hb ha hc (by omega)
  have hl2 := laterV_from c a hc
  go_enter Try.func8, Try.ntmps8
  go_wp2_with fail
  refine (add_any b c _ hb hc).mono ?_; rintro e w' ⟨rfl, rfl⟩
  go_wp2_with fail
  refine (add_any a c _ ha hc).mono ?_; rintro e w' ⟨rfl, rfl⟩
  go_wp2_with fail
  refine (div_yes b c _ hb hc (by omega) (by omega)).mono ?_; rintro e w' ⟨rfl, nb, rfl⟩
  go_wp2_with fail
  refine (div_yes a c _ ha hc (by omega) (by omega)).mono ?_; rintro e w' ⟨rfl, na, rfl⟩
  go_wp2_with fail
  refine (later_any c b _ hc hb).mono ?_; rintro e w' ⟨rfl, rfl⟩
  go_wp2_with fail
  refine (later_any c a _ hc ha).mono ?_; rintro e w' ⟨rfl, rfl⟩
  go_wp2_with fail
  refine (later_any c a _ hc ha).mono ?_; rintro e w' ⟨rfl, rfl⟩
  go_wp2_with fail
  refine (clamp_mid c b a _ (by omega) (by omega)).mono ?_; rintro e w' ⟨rfl, rfl⟩
  go_wp2_with fail
  refine (clamp_mid c b a _ (by omega) (by omega)).mono ?_; rintro e w' ⟨rfl, rfl⟩
  go_wp2_with fail
  refine (works_yes _).mono ?_; rintro e w' ⟨rfl, n, rfl⟩
  go_wp2_with fail
  go_ret
  exact ⟨rfl, by repeat (first | exact Grown.refl _ | apply grown_drewN)⟩

set_option maxHeartbeats 1000000 in
theorem order_B1n_low (a b c : Int) (w : World) (ha : -9223372036854775808 ≤ a ∧ a ≤ 9223372036854775807) (hb : -9223372036854775808 ≤ b ∧ b ≤ 9223372036854775807) (hc : -9223372036854775808 ≤ c ∧ c ≤ 9223372036854775807)
    (hab : b < a) (he : fits (b + c) = false) (hp : ¬ 0 < c) (hcl : c < b) :
    Calls Try.prog 8 #[.int .i64 a, .int .i64 b, .int .i64 c] w fun e w' => e = .returned (.bool true) ∧ Grown w w' := by
  have hl1 := laterV_mono c b a hb ha hc (by omega)
  have hl2 := laterV_from c a hc
  go_enter Try.func8, Try.ntmps8
  go_wp2_with fail
  refine (add_any b c _ hb hc).mono ?_; rintro e w' ⟨rfl, rfl⟩
  go_wp2_with fail
  refine (add_any a c _ ha hc).mono ?_; rintro e w' ⟨rfl, rfl⟩
  go_wp2_with fail
  refine (later_any c b _ hc hb).mono ?_; rintro e w' ⟨rfl, rfl⟩
  go_wp2_with fail
  refine (later_any c a _ hc ha).mono ?_; rintro e w' ⟨rfl, rfl⟩
  go_wp2_with fail
  refine (later_any c a _ hc ha).mono ?_; rintro e w' ⟨rfl, rfl⟩
  go_wp2_with fail
  refine (clamp_low c b a _ (by omega)).mono ?_; rintro e w' ⟨rfl, rfl⟩
  go_wp2_with fail
  refine (clamp_mid b b a _ (by omega) (by omega)).mono ?_; rintro e w' ⟨rfl, rfl⟩
  go_wp2_with fail
  refine (works_yes _).mono ?_; rintro e w' ⟨rfl, n, rfl⟩
  go_wp2_with fail
  go_ret
  exact ⟨rfl, by repeat (first | exact Grown.refl _ | apply grown_drewN)⟩

set_option maxHeartbeats 1000000 in
theorem order_B1n_high (a b c : Int) (w : World) (ha : -9223372036854775808 ≤ a ∧ a ≤ 9223372036854775807) (hb : -9223372036854775808 ≤ b ∧ b ≤ 9223372036854775807) (hc : -9223372036854775808 ≤ c ∧ c ≤ 9223372036854775807)
    (hab : b < a) (he : fits (b + c) = false) (hp : ¬ 0 < c) (hcl : ¬ c < b) (hch : a < c) :
    Calls Try.prog 8 #[.int .i64 a, .int .i64 b, .int .i64 c] w fun e w' => e = .returned (.bool true) ∧ Grown w w' := by
  have hl1 := laterV_mono c b a hb ha hc (by omega)
  have hl2 := laterV_from c a hc
  go_enter Try.func8, Try.ntmps8
  go_wp2_with fail
  refine (add_any b c _ hb hc).mono ?_; rintro e w' ⟨rfl, rfl⟩
  go_wp2_with fail
  refine (add_any a c _ ha hc).mono ?_; rintro e w' ⟨rfl, rfl⟩
  go_wp2_with fail
  refine (later_any c b _ hc hb).mono ?_; rintro e w' ⟨rfl, rfl⟩
  go_wp2_with fail
  refine (later_any c a _ hc ha).mono ?_; rintro e w' ⟨rfl, rfl⟩
  go_wp2_with fail
  refine (later_any c a _ hc ha).mono ?_; rintro e w' ⟨rfl, rfl⟩
  go_wp2_with fail
  refine (clamp_high c b a _ (by omega) (by omega)).mono ?_; rintro e w' ⟨rfl, rfl⟩
  go_wp2_with fail
  refine (clamp_mid a b a _ (by omega) (by omega)).mono ?_; rintro e w' ⟨rfl, rfl⟩
  go_wp2_with fail
  refine (works_yes _).mono ?_; rintro e w' ⟨rfl, n, rfl⟩
  go_wp2_with fail
  go_ret
  exact ⟨rfl, by repeat (first | exact Grown.refl _ | apply grown_drewN)⟩

set_option maxHeartbeats 1000000 in
theorem order_B1n_mid (a b c : Int) (w : World) (ha : -9223372036854775808 ≤ a ∧ a ≤ 9223372036854775807) (hb : -9223372036854775808 ≤ b ∧ b ≤ 9223372036854775807) (hc : -9223372036854775808 ≤ c ∧ c ≤ 9223372036854775807)
    (hab : b < a) (he : fits (b + c) = false) (hp : ¬ 0 < c) (hcl : ¬ c < b) (hch : ¬ a < c) :
    Calls Try.prog 8 #[.int .i64 a, .int .i64 b, .int .i64 c] w fun e w' => e = .returned (.bool true) ∧ Grown w w' := by
  have hl1 := laterV_mono c b a hb ha hc (by omega)
  have hl2 := laterV_from c a hc
  go_enter Try.func8, Try.ntmps8
  go_wp2_with fail
  refine (add_any b c _ hb hc).mono ?_; rintro e w' ⟨rfl, rfl⟩
  go_wp2_with fail
  refine (add_any a c _ ha hc).mono ?_; rintro e w' ⟨rfl, rfl⟩
  go_wp2_with fail
  refine (later_any c b _ hc hb).mono ?_; rintro e w' ⟨rfl, rfl⟩
  go_wp2_with fail
  refine (later_any c a _ hc ha).mono ?_; rintro e w' ⟨rfl, rfl⟩
  go_wp2_with fail
  refine (later_any c a _ hc ha).mono ?_; rintro e w' ⟨rfl, rfl⟩
  go_wp2_with fail
  refine (clamp_mid c b a _ (by omega) (by omega)).mono ?_; rintro e w' ⟨rfl, rfl⟩
  go_wp2_with fail
  refine (clamp_mid c b a _ (by omega) (by omega)).mono ?_; rintro e w' ⟨rfl, rfl⟩
  go_wp2_with fail
  refine (works_yes _).mono ?_; rintro e w' ⟨rfl, n, rfl⟩
  go_wp2_with fail
  go_ret
  exact ⟨rfl, by repeat (first | exact Grown.refl _ | apply grown_drewN)⟩

set_option maxHeartbeats 1000000 in
theorem order_B2p_low (a b c : Int) (w : World) (ha : -9223372036854775808 ≤ a ∧ a ≤ 9223372036854775807) (hb : -9223372036854775808 ≤ b ∧ b ≤ 9223372036854775807) (hc : -9223372036854775808 ≤ c ∧ c ≤ 9223372036854775807)
    (hab : b < a) (he : fits (b + c) = true) (hf : fits (a + c) = false) (hp : 0 < c) (hcl : c < b) :
    Calls Try.prog 8 #[.int .i64 a, .int .i64 b, .int .i64 c] w fun e w' => e = .returned (.bool true) ∧ Grown w w' := by
  have hqr : decide (dq a c < dq b c) = false := by rw [decide_eq_false_iff_not]; have := dq_mono b a c (by omega) hp; omega
  have hl1 := laterV_mono c b a hb ha hc (by omega)
  have hl2 := laterV_from c a hc
  go_enter Try.func8, Try.ntmps8
  go_wp2_with fail
  refine (add_any b c _ hb hc).mono ?_; rintro e w' ⟨rfl, rfl⟩
  go_wp2_with fail
  refine (add_any a c _ ha hc).mono ?_; rintro e w' ⟨rfl, rfl⟩
  go_wp2_with fail
  refine (div_yes b c _ hb hc (by omega) (by omega)).mono ?_; rintro e w' ⟨rfl, nb, rfl⟩
  go_wp2_with fail
  refine (div_yes a c _ ha hc (by omega) (by omega)).mono ?_; rintro e w' ⟨rfl, na, rfl⟩
  go_wp2_with fail
  refine (later_any c b _ hc hb).mono ?_; rintro e w' ⟨rfl, rfl⟩
  go_wp2_with fail
  refine (later_any c a _ hc ha).mono ?_; rintro e w' ⟨rfl, rfl⟩
  go_wp2_with fail
  refine (later_any c a _ hc ha).mono ?_; rintro e w' ⟨rfl, rfl⟩
  go_wp2_with fail
  refine (clamp_low c b a _ (by omega)).mono ?_; rintro e w' ⟨rfl, rfl⟩
  go_wp2_with fail
  refine (clamp_mid b b a _ (by omega) (by omega)).mono ?_; rintro e w' ⟨rfl, rfl⟩
  go_wp2_with fail
  refine (works_yes _).mono ?_; rintro e w' ⟨rfl, n, rfl⟩
  go_wp2_with fail
  go_ret
  exact ⟨rfl, by repeat (first | exact Grown.refl _ | apply grown_drewN)⟩

set_option maxHeartbeats 1000000 in
theorem order_B2p_high (a b c : Int) (w : World) (ha : -9223372036854775808 ≤ a ∧ a ≤ 9223372036854775807) (hb : -9223372036854775808 ≤ b ∧ b ≤ 9223372036854775807) (hc : -9223372036854775808 ≤ c ∧ c ≤ 9223372036854775807)
    (hab : b < a) (he : fits (b + c) = true) (hf : fits (a + c) = false) (hp : 0 < c) (hcl : ¬ c < b) (hch : a < c) :
    Calls Try.prog 8 #[.int .i64 a, .int .i64 b, .int .i64 c] w fun e w' => e = .returned (.bool true) ∧ Grown w w' := by
  have hqr : decide (dq a c < dq b c) = false := by rw [decide_eq_false_iff_not]; have := dq_mono b a c (by omega) hp; omega
  have hl1 := laterV_mono c b a hb ha hc (by omega)
  have hl2 := laterV_from c a hc
  go_enter Try.func8, Try.ntmps8
  go_wp2_with fail
  refine (add_any b c _ hb hc).mono ?_; rintro e w' ⟨rfl, rfl⟩
  go_wp2_with fail
  refine (add_any a c _ ha hc).mono ?_; rintro e w' ⟨rfl, rfl⟩
  go_wp2_with fail
  refine (div_yes b c _ hb hc (by omega) (by omega)).mono ?_; rintro e w' ⟨rfl, nb, rfl⟩
  go_wp2_with fail
  refine (div_yes a c _ ha hc (by omega) (by omega)).mono ?_; rintro e w' ⟨rfl, na, rfl⟩
  go_wp2_with fail
  refine (later_any c b _ hc hb).mono ?_; rintro e w' ⟨rfl, rfl⟩
  go_wp2_with fail
  refine (later_any c a _ hc ha).mono ?_; rintro e w' ⟨rfl, rfl⟩
  go_wp2_with fail
  refine (later_any c a _ hc ha).mono ?_; rintro e w' ⟨rfl, rfl⟩
  go_wp2_with fail
  refine (clamp_high c b a _ (by omega) (by omega)).mono ?_; rintro e w' ⟨rfl, rfl⟩
  go_wp2_with fail
  refine (clamp_mid a b a _ (by omega) (by omega)).mono ?_; rintro e w' ⟨rfl, rfl⟩
  go_wp2_with fail
  refine (works_yes _).mono ?_; rintro e w' ⟨rfl, n, rfl⟩
  go_wp2_with fail
  go_ret
  exact ⟨rfl, by repeat (first | exact Grown.refl _ | apply grown_drewN)⟩

set_option maxHeartbeats 1000000 in
theorem order_B2p_mid (a b c : Int) (w : World) (ha : -9223372036854775808 ≤ a ∧ a ≤ 9223372036854775807) (hb : -9223372036854775808 ≤ b ∧ b ≤ 9223372036854775807) (hc : -9223372036854775808 ≤ c ∧ c ≤ 9223372036854775807)
    (hab : b < a) (he : fits (b + c) = true) (hf : fits (a + c) = false) (hp : 0 < c) (hcl : ¬ c < b) (hch : ¬ a < c) :
    Calls Try.prog 8 #[.int .i64 a, .int .i64 b, .int .i64 c] w fun e w' => e = .returned (.bool true) ∧ Grown w w' := by
  have hqr : decide (dq a c < dq b c) = false := by rw [decide_eq_false_iff_not]; have := dq_mono b a c (by omega) hp; omega
  have hl1 := laterV_mono c b a hb ha hc (by omega)
  have hl2 := laterV_from c a hc
  go_enter Try.func8, Try.ntmps8
  go_wp2_with fail
  refine (add_any b c _ hb hc).mono ?_; rintro e w' ⟨rfl, rfl⟩
  go_wp2_with fail
  refine (add_any a c _ ha hc).mono ?_; rintro e w' ⟨rfl, rfl⟩
  go_wp2_with fail
  refine (div_yes b c _ hb hc (by omega) (by omega)).mono ?_; rintro e w' ⟨rfl, nb, rfl⟩
  go_wp2_with fail
  refine (div_yes a c _ ha hc (by omega) (by omega)).mono ?_; rintro e w' ⟨rfl, na, rfl⟩
  go_wp2_with fail
  refine (later_any c b _ hc hb).mono ?_; rintro e w' ⟨rfl, rfl⟩
  go_wp2_with fail
  refine (later_any c a _ hc ha).mono ?_; rintro e w' ⟨rfl, rfl⟩
  go_wp2_with fail
  refine (later_any c a _ hc ha).mono ?_; rintro e w' ⟨rfl, rfl⟩
  go_wp2_with fail
  refine (clamp_mid c b a _ (by omega) (by omega)).mono ?_; rintro e w' ⟨rfl, rfl⟩
  go_wp2_with fail
  refine (clamp_mid c b a _ (by omega) (by omega)).mono ?_; rintro e w' ⟨rfl, rfl⟩
  go_wp2_with fail
  refine (works_yes _).mono ?_; rintro e w' ⟨rfl, n, rfl⟩
  go_wp2_with fail
  go_ret
  exact ⟨rfl, by repeat (first | exact Grown.refl _ | apply grown_drewN)⟩

set_option maxHeartbeats 1000000 in
theorem order_B2n_low (a b c : Int) (w : World) (ha : -9223372036854775808 ≤ a ∧ a ≤ 9223372036854775807) (hb : -9223372036854775808 ≤ b ∧ b ≤ 9223372036854775807) (hc : -9223372036854775808 ≤ c ∧ c ≤ 9223372036854775807)
    (hab : b < a) (he : fits (b + c) = true) (hf : fits (a + c) = false) (hp : ¬ 0 < c) (hcl : c < b) :
    Calls Try.prog 8 #[.int .i64 a, .int .i64 b, .int .i64 c] w fun e w' => e = .returned (.bool true) ∧ Grown w w' := by
  have hl1 := laterV_mono c b a hb ha hc (by omega)
  have hl2 := laterV_from c a hc
  go_enter Try.func8, Try.ntmps8
  go_wp2_with fail
  refine (add_any b c _ hb hc).mono ?_; rintro e w' ⟨rfl, rfl⟩
  go_wp2_with fail
  refine (add_any a c _ ha hc).mono ?_; rintro e w' ⟨rfl, rfl⟩
  go_wp2_with fail
  refine (later_any c b _ hc hb).mono ?_; rintro e w' ⟨rfl, rfl⟩
  go_wp2_with fail
  refine (later_any c a _ hc ha).mono ?_; rintro e w' ⟨rfl, rfl⟩
  go_wp2_with fail
  refine (later_any c a _ hc ha).mono ?_; rintro e w' ⟨rfl, rfl⟩
  go_wp2_with fail
  refine (clamp_low c b a _ (by omega)).mono ?_; rintro e w' ⟨rfl, rfl⟩
  go_wp2_with fail
  refine (clamp_mid b b a _ (by omega) (by omega)).mono ?_; rintro e w' ⟨rfl, rfl⟩
  go_wp2_with fail
  refine (works_yes _).mono ?_; rintro e w' ⟨rfl, n, rfl⟩
  go_wp2_with fail
  go_ret
  exact ⟨rfl, by repeat (first | exact Grown.refl _ | apply grown_drewN)⟩

set_option maxHeartbeats 1000000 in
theorem order_B2n_high (a b c : Int) (w : World) (ha : -9223372036854775808 ≤ a ∧ a ≤ 9223372036854775807) (hb : -9223372036854775808 ≤ b ∧ b ≤ 9223372036854775807) (hc : -9223372036854775808 ≤ c ∧ c ≤ 9223372036854775807)
    (hab : b < a) (he : fits (b + c) = true) (hf : fits (a + c) = false) (hp : ¬ 0 < c) (hcl : ¬ c < b) (hch : a < c) :
    Calls Try.prog 8 #[.int .i64 a, .int .i64 b, .int .i64 c] w fun e w' => e = .returned (.bool true) ∧ Grown w w' := by
  have hl1 := laterV_mono c b a hb ha hc (by omega)
  have hl2 := laterV_from c a hc
  go_enter Try.func8, Try.ntmps8
  go_wp2_with fail
  refine (add_any b c _ hb hc).mono ?_; rintro e w' ⟨rfl, rfl⟩
  go_wp2_with fail
  refine (add_any a c _ ha hc).mono ?_; rintro e w' ⟨rfl, rfl⟩
  go_wp2_with fail
  refine (later_any c b _ hc hb).mono ?_; rintro e w' ⟨rfl, rfl⟩
  go_wp2_with fail
  refine (later_any c a _ hc ha).mono ?_; rintro e w' ⟨rfl, rfl⟩
  go_wp2_with fail
  refine (later_any c a _ hc ha).mono ?_; rintro e w' ⟨rfl, rfl⟩
  go_wp2_with fail
  refine (clamp_high c b a _ (by omega) (by omega)).mono ?_; rintro e w' ⟨rfl, rfl⟩
  go_wp2_with fail
  refine (clamp_mid a b a _ (by omega) (by omega)).mono ?_; rintro e w' ⟨rfl, rfl⟩
  go_wp2_with fail
  refine (works_yes _).mono ?_; rintro e w' ⟨rfl, n, rfl⟩
  go_wp2_with fail
  go_ret
  exact ⟨rfl, by repeat (first | exact Grown.refl _ | apply grown_drewN)⟩

set_option maxHeartbeats 1000000 in
theorem order_B2n_mid (a b c : Int) (w : World) (ha : -9223372036854775808 ≤ a ∧ a ≤ 9223372036854775807) (hb : -9223372036854775808 ≤ b ∧ b ≤ 9223372036854775807) (hc : -9223372036854775808 ≤ c ∧ c ≤ 9223372036854775807)
    (hab : b < a) (he : fits (b + c) = true) (hf : fits (a + c) = false) (hp : ¬ 0 < c) (hcl : ¬ c < b) (hch : ¬ a < c) :
    Calls Try.prog 8 #[.int .i64 a, .int .i64 b, .int .i64 c] w fun e w' => e = .returned (.bool true) ∧ Grown w w' := by
  have hl1 := laterV_mono c b a hb ha hc (by omega)
  have hl2 := laterV_from c a hc
  go_enter Try.func8, Try.ntmps8
  go_wp2_with fail
  refine (add_any b c _ hb hc).mono ?_; rintro e w' ⟨rfl, rfl⟩
  go_wp2_with fail
  refine (add_any a c _ ha hc).mono ?_; rintro e w' ⟨rfl, rfl⟩
  go_wp2_with fail
  refine (later_any c b _ hc hb).mono ?_; rintro e w' ⟨rfl, rfl⟩
  go_wp2_with fail
  refine (later_any c a _ hc ha).mono ?_; rintro e w' ⟨rfl, rfl⟩
  go_wp2_with fail
  refine (later_any c a _ hc ha).mono ?_; rintro e w' ⟨rfl, rfl⟩
  go_wp2_with fail
  refine (clamp_mid c b a _ (by omega) (by omega)).mono ?_; rintro e w' ⟨rfl, rfl⟩
  go_wp2_with fail
  refine (clamp_mid c b a _ (by omega) (by omega)).mono ?_; rintro e w' ⟨rfl, rfl⟩
  go_wp2_with fail
  refine (works_yes _).mono ?_; rintro e w' ⟨rfl, n, rfl⟩
  go_wp2_with fail
  go_ret
  exact ⟨rfl, by repeat (first | exact Grown.refl _ | apply grown_drewN)⟩

set_option maxHeartbeats 1000000 in
theorem order_B3p_low (a b c : Int) (w : World) (ha : -9223372036854775808 ≤ a ∧ a ≤ 9223372036854775807) (hb : -9223372036854775808 ≤ b ∧ b ≤ 9223372036854775807) (hc : -9223372036854775808 ≤ c ∧ c ≤ 9223372036854775807)
    (hab : b < a) (he : fits (b + c) = true) (hf : fits (a + c) = true) (hp : 0 < c) (hcl : c < b) :
    Calls Try.prog 8 #[.int .i64 a, .int .i64 b, .int .i64 c] w fun e w' => e = .returned (.bool true) ∧ Grown w w' := by
  have hst : decide (fit (a + c) < fit (b + c)) = false := by rw [decide_eq_false_iff_not, fit_yes he, fit_yes hf]; omega
  have hqr : decide (dq a c < dq b c) = false := by rw [decide_eq_false_iff_not]; have := dq_mono b a c (by omega) hp; omega
  have hl1 := laterV_mono c b a hb ha hc (by omega)
  have hl2 := laterV_from c a hc
  go_enter Try.func8, Try.ntmps8
  go_wp2_with fail
  refine (add_any b c _ hb hc).mono ?_; rintro e w' ⟨rfl, rfl⟩
  go_wp2_with fail
  refine (add_any a c _ ha hc).mono ?_; rintro e w' ⟨rfl, rfl⟩
  go_wp2_with fail
  refine (div_yes b c _ hb hc (by omega) (by omega)).mono ?_; rintro e w' ⟨rfl, nb, rfl⟩
  go_wp2_with fail
  refine (div_yes a c _ ha hc (by omega) (by omega)).mono ?_; rintro e w' ⟨rfl, na, rfl⟩
  go_wp2_with fail
  refine (later_any c b _ hc hb).mono ?_; rintro e w' ⟨rfl, rfl⟩
  go_wp2_with fail
  refine (later_any c a _ hc ha).mono ?_; rintro e w' ⟨rfl, rfl⟩
  go_wp2_with fail
  refine (later_any c a _ hc ha).mono ?_; rintro e w' ⟨rfl, rfl⟩
  go_wp2_with fail
  refine (clamp_low c b a _ (by omega)).mono ?_; rintro e w' ⟨rfl, rfl⟩
  go_wp2_with fail
  refine (clamp_mid b b a _ (by omega) (by omega)).mono ?_; rintro e w' ⟨rfl, rfl⟩
  go_wp2_with fail
  refine (works_yes _).mono ?_; rintro e w' ⟨rfl, n, rfl⟩
  go_wp2_with fail
  go_ret
  exact ⟨rfl, by repeat (first | exact Grown.refl _ | apply grown_drewN)⟩

set_option maxHeartbeats 1000000 in
theorem order_B3p_high (a b c : Int) (w : World) (ha : -9223372036854775808 ≤ a ∧ a ≤ 9223372036854775807) (hb : -9223372036854775808 ≤ b ∧ b ≤ 9223372036854775807) (hc : -9223372036854775808 ≤ c ∧ c ≤ 9223372036854775807)
    (hab : b < a) (he : fits (b + c) = true) (hf : fits (a + c) = true) (hp : 0 < c) (hcl : ¬ c < b) (hch : a < c) :
    Calls Try.prog 8 #[.int .i64 a, .int .i64 b, .int .i64 c] w fun e w' => e = .returned (.bool true) ∧ Grown w w' := by
  have hst : decide (fit (a + c) < fit (b + c)) = false := by rw [decide_eq_false_iff_not, fit_yes he, fit_yes hf]; omega
  have hqr : decide (dq a c < dq b c) = false := by rw [decide_eq_false_iff_not]; have := dq_mono b a c (by omega) hp; omega
  have hl1 := laterV_mono c b a hb ha hc (by omega)
  have hl2 := laterV_from c a hc
  go_enter Try.func8, Try.ntmps8
  go_wp2_with fail
  refine (add_any b c _ hb hc).mono ?_; rintro e w' ⟨rfl, rfl⟩
  go_wp2_with fail
  refine (add_any a c _ ha hc).mono ?_; rintro e w' ⟨rfl, rfl⟩
  go_wp2_with fail
  refine (div_yes b c _ hb hc (by omega) (by omega)).mono ?_; rintro e w' ⟨rfl, nb, rfl⟩
  go_wp2_with fail
  refine (div_yes a c _ ha hc (by omega) (by omega)).mono ?_; rintro e w' ⟨rfl, na, rfl⟩
  go_wp2_with fail
  refine (later_any c b _ hc hb).mono ?_; rintro e w' ⟨rfl, rfl⟩
  go_wp2_with fail
  refine (later_any c a _ hc ha).mono ?_; rintro e w' ⟨rfl, rfl⟩
  go_wp2_with fail
  refine (later_any c a _ hc ha).mono ?_; rintro e w' ⟨rfl, rfl⟩
  go_wp2_with fail
  refine (clamp_high c b a _ (by omega) (by omega)).mono ?_; rintro e w' ⟨rfl, rfl⟩
  go_wp2_with fail
  refine (clamp_mid a b a _ (by omega) (by omega)).mono ?_; rintro e w' ⟨rfl, rfl⟩
  go_wp2_with fail
  refine (works_yes _).mono ?_; rintro e w' ⟨rfl, n, rfl⟩
  go_wp2_with fail
  go_ret
  exact ⟨rfl, by repeat (first | exact Grown.refl _ | apply grown_drewN)⟩

set_option maxHeartbeats 1000000 in
theorem order_B3p_mid (a b c : Int) (w : World) (ha : -9223372036854775808 ≤ a ∧ a ≤ 9223372036854775807) (hb : -9223372036854775808 ≤ b ∧ b ≤ 9223372036854775807) (hc : -9223372036854775808 ≤ c ∧ c ≤ 9223372036854775807)
    (hab : b < a) (he : fits (b + c) = true) (hf : fits (a + c) = true) (hp : 0 < c) (hcl : ¬ c < b) (hch : ¬ a < c) :
    Calls Try.prog 8 #[.int .i64 a, .int .i64 b, .int .i64 c] w fun e w' => e = .returned (.bool true) ∧ Grown w w' := by
  have hst : decide (fit (a + c) < fit (b + c)) = false := by rw [decide_eq_false_iff_not, fit_yes he, fit_yes hf]; omega
  have hqr : decide (dq a c < dq b c) = false := by rw [decide_eq_false_iff_not]; have := dq_mono b a c (by omega) hp; omega
  have hl1 := laterV_mono c b a hb ha hc (by omega)
  have hl2 := laterV_from c a hc
  go_enter Try.func8, Try.ntmps8
  go_wp2_with fail
  refine (add_any b c _ hb hc).mono ?_; rintro e w' ⟨rfl, rfl⟩
  go_wp2_with fail
  refine (add_any a c _ ha hc).mono ?_; rintro e w' ⟨rfl, rfl⟩
  go_wp2_with fail
  refine (div_yes b c _ hb hc (by omega) (by omega)).mono ?_; rintro e w' ⟨rfl, nb, rfl⟩
  go_wp2_with fail
  refine (div_yes a c _ ha hc (by omega) (by omega)).mono ?_; rintro e w' ⟨rfl, na, rfl⟩
  go_wp2_with fail
  refine (later_any c b _ hc hb).mono ?_; rintro e w' ⟨rfl, rfl⟩
  go_wp2_with fail
  refine (later_any c a _ hc ha).mono ?_; rintro e w' ⟨rfl, rfl⟩
  go_wp2_with fail
  refine (later_any c a _ hc ha).mono ?_; rintro e w' ⟨rfl, rfl⟩
  go_wp2_with fail
  refine (clamp_mid c b a _ (by omega) (by omega)).mono ?_; rintro e w' ⟨rfl, rfl⟩
  go_wp2_with fail
  refine (clamp_mid c b a _ (by omega) (by omega)).mono ?_; rintro e w' ⟨rfl, rfl⟩
  go_wp2_with fail
  refine (works_yes _).mono ?_; rintro e w' ⟨rfl, n, rfl⟩
  go_wp2_with fail
  go_ret
  exact ⟨rfl, by repeat (first | exact Grown.refl _ | apply grown_drewN)⟩

set_option maxHeartbeats 1000000 in
theorem order_B3n_low (a b c : Int) (w : World) (ha : -9223372036854775808 ≤ a ∧ a ≤ 9223372036854775807) (hb : -9223372036854775808 ≤ b ∧ b ≤ 9223372036854775807) (hc : -9223372036854775808 ≤ c ∧ c ≤ 9223372036854775807)
    (hab : b < a) (he : fits (b + c) = true) (hf : fits (a + c) = true) (hp : ¬ 0 < c) (hcl : c < b) :
    Calls Try.prog 8 #[.int .i64 a, .int .i64 b, .int .i64 c] w fun e w' => e = .returned (.bool true) ∧ Grown w w' := by
  have hst : decide (fit (a + c) < fit (b + c)) = false := by rw [decide_eq_false_iff_not, fit_yes he, fit_yes hf]; omega
  have hl1 := laterV_mono c b a hb ha hc (by omega)
  have hl2 := laterV_from c a hc
  go_enter Try.func8, Try.ntmps8
  go_wp2_with fail
  refine (add_any b c _ hb hc).mono ?_; rintro e w' ⟨rfl, rfl⟩
  go_wp2_with fail
  refine (add_any a c _ ha hc).mono ?_; rintro e w' ⟨rfl, rfl⟩
  go_wp2_with fail
  refine (later_any c b _ hc hb).mono ?_; rintro e w' ⟨rfl, rfl⟩
  go_wp2_with fail
  refine (later_any c a _ hc ha).mono ?_; rintro e w' ⟨rfl, rfl⟩
  go_wp2_with fail
  refine (later_any c a _ hc ha).mono ?_; rintro e w' ⟨rfl, rfl⟩
  go_wp2_with fail
  refine (clamp_low c b a _ (by omega)).mono ?_; rintro e w' ⟨rfl, rfl⟩
  go_wp2_with fail
  refine (clamp_mid b b a _ (by omega) (by omega)).mono ?_; rintro e w' ⟨rfl, rfl⟩
  go_wp2_with fail
  refine (works_yes _).mono ?_; rintro e w' ⟨rfl, n, rfl⟩
  go_wp2_with fail
  go_ret
  exact ⟨rfl, by repeat (first | exact Grown.refl _ | apply grown_drewN)⟩

set_option maxHeartbeats 1000000 in
theorem order_B3n_high (a b c : Int) (w : World) (ha : -9223372036854775808 ≤ a ∧ a ≤ 9223372036854775807) (hb : -9223372036854775808 ≤ b ∧ b ≤ 9223372036854775807) (hc : -9223372036854775808 ≤ c ∧ c ≤ 9223372036854775807)
    (hab : b < a) (he : fits (b + c) = true) (hf : fits (a + c) = true) (hp : ¬ 0 < c) (hcl : ¬ c < b) (hch : a < c) :
    Calls Try.prog 8 #[.int .i64 a, .int .i64 b, .int .i64 c] w fun e w' => e = .returned (.bool true) ∧ Grown w w' := by
  have hst : decide (fit (a + c) < fit (b + c)) = false := by rw [decide_eq_false_iff_not, fit_yes he, fit_yes hf]; omega
  have hl1 := laterV_mono c b a hb ha hc (by omega)
  have hl2 := laterV_from c a hc
  go_enter Try.func8, Try.ntmps8
  go_wp2_with fail
  refine (add_any b c _ hb hc).mono ?_; rintro e w' ⟨rfl, rfl⟩
  go_wp2_with fail
  refine (add_any a c _ ha hc).mono ?_; rintro e w' ⟨rfl, rfl⟩
  go_wp2_with fail
  refine (later_any c b _ hc hb).mono ?_; rintro e w' ⟨rfl, rfl⟩
  go_wp2_with fail
  refine (later_any c a _ hc ha).mono ?_; rintro e w' ⟨rfl, rfl⟩
  go_wp2_with fail
  refine (later_any c a _ hc ha).mono ?_; rintro e w' ⟨rfl, rfl⟩
  go_wp2_with fail
  refine (clamp_high c b a _ (by omega) (by omega)).mono ?_; rintro e w' ⟨rfl, rfl⟩
  go_wp2_with fail
  refine (clamp_mid a b a _ (by omega) (by omega)).mono ?_; rintro e w' ⟨rfl, rfl⟩
  go_wp2_with fail
  refine (works_yes _).mono ?_; rintro e w' ⟨rfl, n, rfl⟩
  go_wp2_with fail
  go_ret
  exact ⟨rfl, by repeat (first | exact Grown.refl _ | apply grown_drewN)⟩

set_option maxHeartbeats 1000000 in
theorem order_B3n_mid (a b c : Int) (w : World) (ha : -9223372036854775808 ≤ a ∧ a ≤ 9223372036854775807) (hb : -9223372036854775808 ≤ b ∧ b ≤ 9223372036854775807) (hc : -9223372036854775808 ≤ c ∧ c ≤ 9223372036854775807)
    (hab : b < a) (he : fits (b + c) = true) (hf : fits (a + c) = true) (hp : ¬ 0 < c) (hcl : ¬ c < b) (hch : ¬ a < c) :
    Calls Try.prog 8 #[.int .i64 a, .int .i64 b, .int .i64 c] w fun e w' => e = .returned (.bool true) ∧ Grown w w' := by
  have hst : decide (fit (a + c) < fit (b + c)) = false := by rw [decide_eq_false_iff_not, fit_yes he, fit_yes hf]; omega
  have hl1 := laterV_mono c b a hb ha hc (by omega)
  have hl2 := laterV_from c a hc
  go_enter Try.func8, Try.ntmps8
  go_wp2_with fail
  refine (add_any b c _ hb hc).mono ?_; rintro e w' ⟨rfl, rfl⟩
  go_wp2_with fail
  refine (add_any a c _ ha hc).mono ?_; rintro e w' ⟨rfl, rfl⟩
  go_wp2_with fail
  refine (later_any c b _ hc hb).mono ?_; rintro e w' ⟨rfl, rfl⟩
  go_wp2_with fail
  refine (later_any c a _ hc ha).mono ?_; rintro e w' ⟨rfl, rfl⟩
  go_wp2_with fail
  refine (later_any c a _ hc ha).mono ?_; rintro e w' ⟨rfl, rfl⟩
  go_wp2_with fail
  refine (clamp_mid c b a _ (by omega) (by omega)).mono ?_; rintro e w' ⟨rfl, rfl⟩
  go_wp2_with fail
  refine (clamp_mid c b a _ (by omega) (by omega)).mono ?_; rintro e w' ⟨rfl, rfl⟩
  go_wp2_with fail
  refine (works_yes _).mono ?_; rintro e w' ⟨rfl, n, rfl⟩
  go_wp2_with fail
  go_ret
  exact ⟨rfl, by repeat (first | exact Grown.refl _ | apply grown_drewN)⟩

theorem order_B (a b c : Int) (w : World) (ha : -9223372036854775808 ≤ a ∧ a ≤ 9223372036854775807) (hb : -9223372036854775808 ≤ b ∧ b ≤ 9223372036854775807) (hc : -9223372036854775808 ≤ c ∧ c ≤ 9223372036854775807) (hab : b < a) :
    Calls Try.prog 8 #[.int .i64 a, .int .i64 b, .int .i64 c] w fun e w' => e = .returned (.bool true) ∧ Grown w w' := by
  by_cases hp : 0 < c <;> by_cases hcl : c < b <;> by_cases hch : a < c <;> cases he : fits (b + c) <;> cases hf : fits (a + c)
  · exact order_B1p_low a b c w ha hb hc hab he hp hcl
  · exact order_B1p_low a b c w ha hb hc hab he hp hcl
  · exact order_B2p_low a b c w ha hb hc hab he hf hp hcl
  · exact order_B3p_low a b c w ha hb hc hab he hf hp hcl
  · exact order_B1p_low a b c w ha hb hc hab he hp hcl
  · exact order_B1p_low a b c w ha hb hc hab he hp hcl
  · exact order_B2p_low a b c w ha hb hc hab he hf hp hcl
  · exact order_B3p_low a b c w ha hb hc hab he hf hp hcl
  · exact order_B1p_high a b c w ha hb hc hab he hp hcl hch
  · exact order_B1p_high a b c w ha hb hc hab he hp hcl hch
  · exact order_B2p_high a b c w ha hb hc hab he hf hp hcl hch
  · exact order_B3p_high a b c w ha hb hc hab he hf hp hcl hch
  · exact order_B1p_mid a b c w ha hb hc hab he hp hcl hch
  · exact order_B1p_mid a b c w ha hb hc hab he hp hcl hch
  · exact order_B2p_mid a b c w ha hb hc hab he hf hp hcl hch
  · exact order_B3p_mid a b c w ha hb hc hab he hf hp hcl hch
  · exact order_B1n_low a b c w ha hb hc hab he hp hcl
  · exact order_B1n_low a b c w ha hb hc hab he hp hcl
  · exact order_B2n_low a b c w ha hb hc hab he hf hp hcl
  · exact order_B3n_low a b c w ha hb hc hab he hf hp hcl
  · exact order_B1n_low a b c w ha hb hc hab he hp hcl
  · exact order_B1n_low a b c w ha hb hc hab he hp hcl
  · exact order_B2n_low a b c w ha hb hc hab he hf hp hcl
  · exact order_B3n_low a b c w ha hb hc hab he hf hp hcl
  · exact order_B1n_high a b c w ha hb hc hab he hp hcl hch
  · exact order_B1n_high a b c w ha hb hc hab he hp hcl hch
  · exact order_B2n_high a b c w ha hb hc hab he hf hp hcl hch
  · exact order_B3n_high a b c w ha hb hc hab he hf hp hcl hch
  · exact order_B1n_mid a b c w ha hb hc hab he hp hcl hch
  · exact order_B1n_mid a b c w ha hb hc hab he hp hcl hch
  · exact order_B2n_mid a b c w ha hb hc hab he hf hp hcl hch
  · exact order_B3n_mid a b c w ha hb hc hab he hf hp hcl hch

theorem order_walk (a b c : Int) (wa : (Lit.int .i64 a).wf = true) (wb : (Lit.int .i64 b).wf = true) (wc : (Lit.int .i64 c).wf = true) (w : World) :
    Calls Try.prog 8 #[.int .i64 a, .int .i64 b, .int .i64 c] w fun e w' => e = .returned (.bool true) ∧ Grown w w' := by
  by_cases h : b < a
  · exact order_B a b c w (of_wf wa) (of_wf wb) (of_wf wc) h
  · exact order_A a b c w (of_wf wa) (of_wf wb) (of_wf wc) h

end Go.Proofs.Ytkdedagilaaldaa.Us
