/-
  The walk of the law UsecClamp, by the contracts of package usec and of the document's whole numbers.
-/
import Derived.Test.YtkdedagilaaldaaUsecRulesWalk
import Derived.Test.YtkdedagilaaldaaBigZ
namespace Go.Proofs.Ytkdedagilaaldaa.Us
open Go.RowKit

set_option maxHeartbeats 1000000 in
theorem clamp_lh_n_inf (a l h s : Int) (w : World) (ha : -9223372036854775808 ≤ a ∧ a ≤ 9223372036854775807) (hsp : -9223372036854775808 ≤ s ∧ s ≤ 9223372036854775807)
    (hl : a < l) (hh : h < a) (hs : s < 0) (hf : fits (a) = true) (hi : (a == 9223372036854775807) = true) (hlast : (laterV a s == 9223372036854775807) = true) :
    Calls Try.prog 5 #[.int .i64 a, .int .i64 l, .int .i64 h, .int .i64 s] w fun e w' => e = .returned (.bool true) ∧ Grown w w' := by
  go_enter Try.func5, Try.ntmps5
  go_wp2_with fail
  refine (clamp_low a l h _ (by omega)).mono ?_; rintro e w' ⟨rfl, rfl⟩
  go_wp2_with fail
  refine (of_z a _ ha).mono ?_; rintro e w1 ⟨v1, hv1, rfl, hk1⟩
  have H1 := Lib.hid hv1; have K1 := Lib.hid hk1; clear hv1 hk1
  go_wp2_with fail
  refine (of_z 0 _ (by omega)).mono ?_; rintro e w2 ⟨v2, hv2, rfl, hk2⟩
  have H2 := Lib.hid hv2; have K2 := Lib.hid (K1.out.trans hk2); clear hv2 hk2
  go_wp2_with fail
  refine (add_z a 0 v1 v2 _ H1.out H2.out (by omega) (by omega)).mono ?_; rintro e w3 ⟨v3, hv3, rfl, hk3⟩
  rw [Int.add_zero] at hv3
  have H3 := Lib.hid hv3; have K3 := Lib.hid (K2.out.trans hk3); clear hv3 hk3
  go_wp2_with fail
  refine (fits_z (a) v3 _ H3.out).mono ?_; rintro e w4 ⟨rfl, hk4⟩
  have K4 := Lib.hid (K3.out.trans hk4); clear hk4
  go_wp2_with fail
  refine (later_any a s _ ha hsp).mono ?_; rintro e w' ⟨rfl, rfl⟩
  go_wp2_with fail
  refine (works_yes _).mono ?_; rintro e w' ⟨rfl, n, rfl⟩
  go_wp2_with fail
  go_ret
  exact ⟨rfl, (K4.out.drewN _).grown⟩

set_option maxHeartbeats 1000000 in
theorem clamp_lh_n_sum (a l h s : Int) (w : World) (ha : -9223372036854775808 ≤ a ∧ a ≤ 9223372036854775807) (hsp : -9223372036854775808 ≤ s ∧ s ≤ 9223372036854775807)
    (hl : a < l) (hh : h < a) (hs : s < 0) (hf : fits (a) = true) (hi : (a == 9223372036854775807) = false) (hj : (s == 9223372036854775807) = false) (hlast : (laterV a s == fit (a)) = true) :
    Calls Try.prog 5 #[.int .i64 a, .int .i64 l, .int .i64 h, .int .i64 s] w fun e w' => e = .returned (.bool true) ∧ Grown w w' := by
  go_enter Try.func5, Try.ntmps5
  go_wp2_with fail
  refine (clamp_low a l h _ (by omega)).mono ?_; rintro e w' ⟨rfl, rfl⟩
  go_wp2_with fail
  refine (of_z a _ ha).mono ?_; rintro e w1 ⟨v1, hv1, rfl, hk1⟩
  have H1 := Lib.hid hv1; have K1 := Lib.hid hk1; clear hv1 hk1
  go_wp2_with fail
  refine (of_z 0 _ (by omega)).mono ?_; rintro e w2 ⟨v2, hv2, rfl, hk2⟩
  have H2 := Lib.hid hv2; have K2 := Lib.hid (K1.out.trans hk2); clear hv2 hk2
  go_wp2_with fail
  refine (add_z a 0 v1 v2 _ H1.out H2.out (by omega) (by omega)).mono ?_; rintro e w3 ⟨v3, hv3, rfl, hk3⟩
  rw [Int.add_zero] at hv3
  have H3 := Lib.hid hv3; have K3 := Lib.hid (K2.out.trans hk3); clear hv3 hk3
  go_wp2_with fail
  refine (fits_z (a) v3 _ H3.out).mono ?_; rintro e w4 ⟨rfl, hk4⟩
  have K4 := Lib.hid (K3.out.trans hk4); clear hk4
  go_wp2_with fail
  refine (later_any a s _ ha hsp).mono ?_; rintro e w' ⟨rfl, rfl⟩
  go_wp2_with fail
  refine (works_yes _).mono ?_; rintro e w' ⟨rfl, n, rfl⟩
  go_wp2_with fail
  go_ret
  exact ⟨rfl, (K4.out.drewN _).grown⟩

set_option maxHeartbeats 1000000 in
theorem clamp_lh_p_nofit (a l h s : Int) (w : World) (ha : -9223372036854775808 ≤ a ∧ a ≤ 9223372036854775807) (hsp : -9223372036854775808 ≤ s ∧ s ≤ 9223372036854775807)
    (hl : a < l) (hh : h < a) (hs : ¬ s < 0) (hf : fits (a + s) = false) (hlast : (laterV a s == 9223372036854775807) = true) :
    Calls Try.prog 5 #[.int .i64 a, .int .i64 l, .int .i64 h, .int .i64 s] w fun e w' => e = .returned (.bool true) ∧ Grown w w' := by
  go_enter Try.func5, Try.ntmps5
  go_wp2_with fail
  refine (clamp_low a l h _ (by omega)).mono ?_; rintro e w' ⟨rfl, rfl⟩
  go_wp2_with fail
  refine (of_z a _ ha).mono ?_; rintro e w1 ⟨v1, hv1, rfl, hk1⟩
  have H1 := Lib.hid hv1; have K1 := Lib.hid hk1; clear hv1 hk1
  go_wp2_with fail
  refine (of_z s _ (by omega)).mono ?_; rintro e w2 ⟨v2, hv2, rfl, hk2⟩
  have H2 := Lib.hid hv2; have K2 := Lib.hid (K1.out.trans hk2); clear hv2 hk2
  go_wp2_with fail
  refine (add_z a s v1 v2 _ H1.out H2.out (by omega) (by omega)).mono ?_; rintro e w3 ⟨v3, hv3, rfl, hk3⟩
  have H3 := Lib.hid hv3; have K3 := Lib.hid (K2.out.trans hk3); clear hv3 hk3
  go_wp2_with fail
  refine (fits_z (a + s) v3 _ H3.out).mono ?_; rintro e w4 ⟨rfl, hk4⟩
  have K4 := Lib.hid (K3.out.trans hk4); clear hk4
  go_wp2_with fail
  refine (later_any a s _ ha hsp).mono ?_; rintro e w' ⟨rfl, rfl⟩
  go_wp2_with fail
  refine (works_yes _).mono ?_; rintro e w' ⟨rfl, n, rfl⟩
  go_wp2_with fail
  go_ret
  exact ⟨rfl, (K4.out.drewN _).grown⟩

set_option maxHeartbeats 1000000 in
theorem clamp_lh_p_inf (a l h s : Int) (w : World) (ha : -9223372036854775808 ≤ a ∧ a ≤ 9223372036854775807) (hsp : -9223372036854775808 ≤ s ∧ s ≤ 9223372036854775807)
    (hl : a < l) (hh : h < a) (hs : ¬ s < 0) (hf : fits (a + s) = true) (hi : (a == 9223372036854775807) = true) (hlast : (laterV a s == 9223372036854775807) = true) :
    Calls Try.prog 5 #[.int .i64 a, .int .i64 l, .int .i64 h, .int .i64 s] w fun e w' => e = .returned (.bool true) ∧ Grown w w' := by
  go_enter Try.func5, Try.ntmps5
  go_wp2_with fail
  refine (clamp_low a l h _ (by omega)).mono ?_; rintro e w' ⟨rfl, rfl⟩
  go_wp2_with fail
  refine (of_z a _ ha).mono ?_; rintro e w1 ⟨v1, hv1, rfl, hk1⟩
  have H1 := Lib.hid hv1; have K1 := Lib.hid hk1; clear hv1 hk1
  go_wp2_with fail
  refine (of_z s _ (by omega)).mono ?_; rintro e w2 ⟨v2, hv2, rfl, hk2⟩
  have H2 := Lib.hid hv2; have K2 := Lib.hid (K1.out.trans hk2); clear hv2 hk2
  go_wp2_with fail
  refine (add_z a s v1 v2 _ H1.out H2.out (by omega) (by omega)).mono ?_; rintro e w3 ⟨v3, hv3, rfl, hk3⟩
  have H3 := Lib.hid hv3; have K3 := Lib.hid (K2.out.trans hk3); clear hv3 hk3
  go_wp2_with fail
  refine (fits_z (a + s) v3 _ H3.out).mono ?_; rintro e w4 ⟨rfl, hk4⟩
  have K4 := Lib.hid (K3.out.trans hk4); clear hk4
  go_wp2_with fail
  refine (later_any a s _ ha hsp).mono ?_; rintro e w' ⟨rfl, rfl⟩
  go_wp2_with fail
  refine (works_yes _).mono ?_; rintro e w' ⟨rfl, n, rfl⟩
  go_wp2_with fail
  go_ret
  exact ⟨rfl, (K4.out.drewN _).grown⟩

set_option maxHeartbeats 1000000 in
theorem clamp_lh_p_span (a l h s : Int) (w : World) (ha : -9223372036854775808 ≤ a ∧ a ≤ 9223372036854775807) (hsp : -9223372036854775808 ≤ s ∧ s ≤ 9223372036854775807)
    (hl : a < l) (hh : h < a) (hs : ¬ s < 0) (hf : fits (a + s) = true) (hi : (a == 9223372036854775807) = false) (hj : (s == 9223372036854775807) = true) (hlast : (laterV a s == 9223372036854775807) = true) :
    Calls Try.prog 5 #[.int .i64 a, .int .i64 l, .int .i64 h, .int .i64 s] w fun e w' => e = .returned (.bool true) ∧ Grown w w' := by
  go_enter Try.func5, Try.ntmps5
  go_wp2_with fail
  refine (clamp_low a l h _ (by omega)).mono ?_; rintro e w' ⟨rfl, rfl⟩
  go_wp2_with fail
  refine (of_z a _ ha).mono ?_; rintro e w1 ⟨v1, hv1, rfl, hk1⟩
  have H1 := Lib.hid hv1; have K1 := Lib.hid hk1; clear hv1 hk1
  go_wp2_with fail
  refine (of_z s _ (by omega)).mono ?_; rintro e w2 ⟨v2, hv2, rfl, hk2⟩
  have H2 := Lib.hid hv2; have K2 := Lib.hid (K1.out.trans hk2); clear hv2 hk2
  go_wp2_with fail
  refine (add_z a s v1 v2 _ H1.out H2.out (by omega) (by omega)).mono ?_; rintro e w3 ⟨v3, hv3, rfl, hk3⟩
  have H3 := Lib.hid hv3; have K3 := Lib.hid (K2.out.trans hk3); clear hv3 hk3
  go_wp2_with fail
  refine (fits_z (a + s) v3 _ H3.out).mono ?_; rintro e w4 ⟨rfl, hk4⟩
  have K4 := Lib.hid (K3.out.trans hk4); clear hk4
  go_wp2_with fail
  refine (later_any a s _ ha hsp).mono ?_; rintro e w' ⟨rfl, rfl⟩
  go_wp2_with fail
  refine (works_yes _).mono ?_; rintro e w' ⟨rfl, n, rfl⟩
  go_wp2_with fail
  go_ret
  exact ⟨rfl, (K4.out.drewN _).grown⟩

set_option maxHeartbeats 1000000 in
theorem clamp_lh_p_sum (a l h s : Int) (w : World) (ha : -9223372036854775808 ≤ a ∧ a ≤ 9223372036854775807) (hsp : -9223372036854775808 ≤ s ∧ s ≤ 9223372036854775807)
    (hl : a < l) (hh : h < a) (hs : ¬ s < 0) (hf : fits (a + s) = true) (hi : (a == 9223372036854775807) = false) (hj : (s == 9223372036854775807) = false) (hlast : (laterV a s == fit (a + s)) = true) :
    Calls Try.prog 5 #[.int .i64 a, .int .i64 l, .int .i64 h, .int .i64 s] w fun e w' => e = .returned (.bool true) ∧ Grown w w' := by
  go_enter Try.func5, Try.ntmps5
  go_wp2_with fail
  refine (clamp_low a l h _ (by omega)).mono ?_; rintro e w' ⟨rfl, rfl⟩
  go_wp2_with fail
  refine (of_z a _ ha).mono ?_; rintro e w1 ⟨v1, hv1, rfl, hk1⟩
  have H1 := Lib.hid hv1; have K1 := Lib.hid hk1; clear hv1 hk1
  go_wp2_with fail
  refine (of_z s _ (by omega)).mono ?_; rintro e w2 ⟨v2, hv2, rfl, hk2⟩
  have H2 := Lib.hid hv2; have K2 := Lib.hid (K1.out.trans hk2); clear hv2 hk2
  go_wp2_with fail
  refine (add_z a s v1 v2 _ H1.out H2.out (by omega) (by omega)).mono ?_; rintro e w3 ⟨v3, hv3, rfl, hk3⟩
  have H3 := Lib.hid hv3; have K3 := Lib.hid (K2.out.trans hk3); clear hv3 hk3
  go_wp2_with fail
  refine (fits_z (a + s) v3 _ H3.out).mono ?_; rintro e w4 ⟨rfl, hk4⟩
  have K4 := Lib.hid (K3.out.trans hk4); clear hk4
  go_wp2_with fail
  refine (later_any a s _ ha hsp).mono ?_; rintro e w' ⟨rfl, rfl⟩
  go_wp2_with fail
  refine (works_yes _).mono ?_; rintro e w' ⟨rfl, n, rfl⟩
  go_wp2_with fail
  go_ret
  exact ⟨rfl, (K4.out.drewN _).grown⟩

set_option maxHeartbeats 1000000 in
theorem clamp_l_n_inf (a l h s : Int) (w : World) (ha : -9223372036854775808 ≤ a ∧ a ≤ 9223372036854775807) (hsp : -9223372036854775808 ≤ s ∧ s ≤ 9223372036854775807)
    (hl : a < l) (hh : ¬ h < a) (hs : s < 0) (hf : fits (a) = true) (hi : (a == 9223372036854775807) = true) (hlast : (laterV a s == 9223372036854775807) = true) :
    Calls Try.prog 5 #[.int .i64 a, .int .i64 l, .int .i64 h, .int .i64 s] w fun e w' => e = .returned (.bool true) ∧ Grown w w' := by
  go_enter Try.func5, Try.ntmps5
  go_wp2_with fail
  refine (clamp_low a l h _ (by omega)).mono ?_; rintro e w' ⟨rfl, rfl⟩
  go_wp2_with fail
  refine (of_z a _ ha).mono ?_; rintro e w1 ⟨v1, hv1, rfl, hk1⟩
  have H1 := Lib.hid hv1; have K1 := Lib.hid hk1; clear hv1 hk1
  go_wp2_with fail
  refine (of_z 0 _ (by omega)).mono ?_; rintro e w2 ⟨v2, hv2, rfl, hk2⟩
  have H2 := Lib.hid hv2; have K2 := Lib.hid (K1.out.trans hk2); clear hv2 hk2
  go_wp2_with fail
  refine (add_z a 0 v1 v2 _ H1.out H2.out (by omega) (by omega)).mono ?_; rintro e w3 ⟨v3, hv3, rfl, hk3⟩
  rw [Int.add_zero] at hv3
  have H3 := Lib.hid hv3; have K3 := Lib.hid (K2.out.trans hk3); clear hv3 hk3
  go_wp2_with fail
  refine (fits_z (a) v3 _ H3.out).mono ?_; rintro e w4 ⟨rfl, hk4⟩
  have K4 := Lib.hid (K3.out.trans hk4); clear hk4
  go_wp2_with fail
  refine (later_any a s _ ha hsp).mono ?_; rintro e w' ⟨rfl, rfl⟩
  go_wp2_with fail
  refine (works_yes _).mono ?_; rintro e w' ⟨rfl, n, rfl⟩
  go_wp2_with fail
  go_ret
  exact ⟨rfl, (K4.out.drewN _).grown⟩

set_option maxHeartbeats 1000000 in
theorem clamp_l_n_sum (a l h s : Int) (w : World) (ha : -9223372036854775808 ≤ a ∧ a ≤ 9223372036854775807) (hsp : -9223372036854775808 ≤ s ∧ s ≤ 9223372036854775807)
    (hl : a < l) (hh : ¬ h < a) (hs : s < 0) (hf : fits (a) = true) (hi : (a == 9223372036854775807) = false) (hj : (s == 9223372036854775807) = false) (hlast : (laterV a s == fit (a)) = true) :
    Calls Try.prog 5 #[.int .i64 a, .int .i64 l, .int .i64 h, .int .i64 s] w fun e w' => e = .returned (.bool true) ∧ Grown w w' := by
  go_enter Try.func5, Try.ntmps5
  go_wp2_with fail
  refine (clamp_low a l h _ (by omega)).mono ?_; rintro e w' ⟨rfl, rfl⟩
  go_wp2_with fail
  refine (of_z a _ ha).mono ?_; rintro e w1 ⟨v1, hv1, rfl, hk1⟩
  have H1 := Lib.hid hv1; have K1 := Lib.hid hk1; clear hv1 hk1
  go_wp2_with fail
  refine (of_z 0 _ (by omega)).mono ?_; rintro e w2 ⟨v2, hv2, rfl, hk2⟩
  have H2 := Lib.hid hv2; have K2 := Lib.hid (K1.out.trans hk2); clear hv2 hk2
  go_wp2_with fail
  refine (add_z a 0 v1 v2 _ H1.out H2.out (by omega) (by omega)).mono ?_; rintro e w3 ⟨v3, hv3, rfl, hk3⟩
  rw [Int.add_zero] at hv3
  have H3 := Lib.hid hv3; have K3 := Lib.hid (K2.out.trans hk3); clear hv3 hk3
  go_wp2_with fail
  refine (fits_z (a) v3 _ H3.out).mono ?_; rintro e w4 ⟨rfl, hk4⟩
  have K4 := Lib.hid (K3.out.trans hk4); clear hk4
  go_wp2_with fail
  refine (later_any a s _ ha hsp).mono ?_; rintro e w' ⟨rfl, rfl⟩
  go_wp2_with fail
  refine (works_yes _).mono ?_; rintro e w' ⟨rfl, n, rfl⟩
  go_wp2_with fail
  go_ret
  exact ⟨rfl, (K4.out.drewN _).grown⟩

set_option maxHeartbeats 1000000 in
theorem clamp_l_p_nofit (a l h s : Int) (w : World) (ha : -9223372036854775808 ≤ a ∧ a ≤ 9223372036854775807) (hsp : -9223372036854775808 ≤ s ∧ s ≤ 9223372036854775807)
    (hl : a < l) (hh : ¬ h < a) (hs : ¬ s < 0) (hf : fits (a + s) = false) (hlast : (laterV a s == 9223372036854775807) = true) :
    Calls Try.prog 5 #[.int .i64 a, .int .i64 l, .int .i64 h, .int .i64 s] w fun e w' => e = .returned (.bool true) ∧ Grown w w' := by
  go_enter Try.func5, Try.ntmps5
  go_wp2_with fail
  refine (clamp_low a l h _ (by omega)).mono ?_; rintro e w' ⟨rfl, rfl⟩
  go_wp2_with fail
  refine (of_z a _ ha).mono ?_; rintro e w1 ⟨v1, hv1, rfl, hk1⟩
  have H1 := Lib.hid hv1; have K1 := Lib.hid hk1; clear hv1 hk1
  go_wp2_with fail
  refine (of_z s _ (by omega)).mono ?_; rintro e w2 ⟨v2, hv2, rfl, hk2⟩
  have H2 := Lib.hid hv2; have K2 := Lib.hid (K1.out.trans hk2); clear hv2 hk2
  go_wp2_with fail
  refine (add_z a s v1 v2 _ H1.out H2.out (by omega) (by omega)).mono ?_; rintro e w3 ⟨v3, hv3, rfl, hk3⟩
  have H3 := Lib.hid hv3; have K3 := Lib.hid (K2.out.trans hk3); clear hv3 hk3
  go_wp2_with fail
  refine (fits_z (a + s) v3 _ H3.out).mono ?_; rintro e w4 ⟨rfl, hk4⟩
  have K4 := Lib.hid (K3.out.trans hk4); clear hk4
  go_wp2_with fail
  refine (later_any a s _ ha hsp).mono ?_; rintro e w' ⟨rfl, rfl⟩
  go_wp2_with fail
  refine (works_yes _).mono ?_; rintro e w' ⟨rfl, n, rfl⟩
  go_wp2_with fail
  go_ret
  exact ⟨rfl, (K4.out.drewN _).grown⟩

set_option maxHeartbeats 1000000 in
theorem clamp_l_p_inf (a l h s : Int) (w : World) (ha : -9223372036854775808 ≤ a ∧ a ≤ 9223372036854775807) (hsp : -9223372036854775808 ≤ s ∧ s ≤ 9223372036854775807)
    (hl : a < l) (hh : ¬ h < a) (hs : ¬ s < 0) (hf : fits (a + s) = true) (hi : (a == 9223372036854775807) = true) (hlast : (laterV a s == 9223372036854775807) = true) :
    Calls Try.prog 5 #[.int .i64 a, .int .i64 l, .int .i64 h, .int .i64 s] w fun e w' => e = .returned (.bool true) ∧ Grown w w' := by
  go_enter Try.func5, Try.ntmps5
  go_wp2_with fail
  refine (clamp_low a l h _ (by omega)).mono ?_; rintro e w' ⟨rfl, rfl⟩
  go_wp2_with fail
  refine (of_z a _ ha).mono ?_; rintro e w1 ⟨v1, hv1, rfl, hk1⟩
  have H1 := Lib.hid hv1; have K1 := Lib.hid hk1; clear hv1 hk1
  go_wp2_with fail
  refine (of_z s _ (by omega)).mono ?_; rintro e w2 ⟨v2, hv2, rfl, hk2⟩
  have H2 := Lib.hid hv2; have K2 := Lib.hid (K1.out.trans hk2); clear hv2 hk2
  go_wp2_with fail
  refine (add_z a s v1 v2 _ H1.out H2.out (by omega) (by omega)).mono ?_; rintro e w3 ⟨v3, hv3, rfl, hk3⟩
  have H3 := Lib.hid hv3; have K3 := Lib.hid (K2.out.trans hk3); clear hv3 hk3
  go_wp2_with fail
  refine (fits_z (a + s) v3 _ H3.out).mono ?_; rintro e w4 ⟨rfl, hk4⟩
  have K4 := Lib.hid (K3.out.trans hk4); clear hk4
  go_wp2_with fail
  refine (later_any a s _ ha hsp).mono ?_; rintro e w' ⟨rfl, rfl⟩
  go_wp2_with fail
  refine (works_yes _).mono ?_; rintro e w' ⟨rfl, n, rfl⟩
  go_wp2_with fail
  go_ret
  exact ⟨rfl, (K4.out.drewN _).grown⟩

set_option maxHeartbeats 1000000 in
theorem clamp_l_p_span (a l h s : Int) (w : World) (ha : -9223372036854775808 ≤ a ∧ a ≤ 9223372036854775807) (hsp : -9223372036854775808 ≤ s ∧ s ≤ 9223372036854775807)
    (hl : a < l) (hh : ¬ h < a) (hs : ¬ s < 0) (hf : fits (a + s) = true) (hi : (a == 9223372036854775807) = false) (hj : (s == 9223372036854775807) = true) (hlast : (laterV a s == 9223372036854775807) = true) :
    Calls Try.prog 5 #[.int .i64 a, .int .i64 l, .int .i64 h, .int .i64 s] w fun e w' => e = .returned (.bool true) ∧ Grown w w' := by
  go_enter Try.func5, Try.ntmps5
  go_wp2_with fail
  refine (clamp_low a l h _ (by omega)).mono ?_; rintro e w' ⟨rfl, rfl⟩
  go_wp2_with fail
  refine (of_z a _ ha).mono ?_; rintro e w1 ⟨v1, hv1, rfl, hk1⟩
  have H1 := Lib.hid hv1; have K1 := Lib.hid hk1; clear hv1 hk1
  go_wp2_with fail
  refine (of_z s _ (by omega)).mono ?_; rintro e w2 ⟨v2, hv2, rfl, hk2⟩
  have H2 := Lib.hid hv2; have K2 := Lib.hid (K1.out.trans hk2); clear hv2 hk2
  go_wp2_with fail
  refine (add_z a s v1 v2 _ H1.out H2.out (by omega) (by omega)).mono ?_; rintro e w3 ⟨v3, hv3, rfl, hk3⟩
  have H3 := Lib.hid hv3; have K3 := Lib.hid (K2.out.trans hk3); clear hv3 hk3
  go_wp2_with fail
  refine (fits_z (a + s) v3 _ H3.out).mono ?_; rintro e w4 ⟨rfl, hk4⟩
  have K4 := Lib.hid (K3.out.trans hk4); clear hk4
  go_wp2_with fail
  refine (later_any a s _ ha hsp).mono ?_; rintro e w' ⟨rfl, rfl⟩
  go_wp2_with fail
  refine (works_yes _).mono ?_; rintro e w' ⟨rfl, n, rfl⟩
  go_wp2_with fail
  go_ret
  exact ⟨rfl, (K4.out.drewN _).grown⟩

set_option maxHeartbeats 1000000 in
theorem clamp_l_p_sum (a l h s : Int) (w : World) (ha : -9223372036854775808 ≤ a ∧ a ≤ 9223372036854775807) (hsp : -9223372036854775808 ≤ s ∧ s ≤ 9223372036854775807)
    (hl : a < l) (hh : ¬ h < a) (hs : ¬ s < 0) (hf : fits (a + s) = true) (hi : (a == 9223372036854775807) = false) (hj : (s == 9223372036854775807) = false) (hlast : (laterV a s == fit (a + s)) = true) :
    Calls Try.prog 5 #[.int .i64 a, .int .i64 l, .int .i64 h, .int .i64 s] w fun e w' => e = .returned (.bool true) ∧ Grown w w' := by
  go_enter Try.func5, Try.ntmps5
  go_wp2_with fail
  refine (clamp_low a l h _ (by omega)).mono ?_; rintro e w' ⟨rfl, rfl⟩
  go_wp2_with fail
  refine (of_z a _ ha).mono ?_; rintro e w1 ⟨v1, hv1, rfl, hk1⟩
  have H1 := Lib.hid hv1; have K1 := Lib.hid hk1; clear hv1 hk1
  go_wp2_with fail
  refine (of_z s _ (by omega)).mono ?_; rintro e w2 ⟨v2, hv2, rfl, hk2⟩
  have H2 := Lib.hid hv2; have K2 := Lib.hid (K1.out.trans hk2); clear hv2 hk2
  go_wp2_with fail
  refine (add_z a s v1 v2 _ H1.out H2.out (by omega) (by omega)).mono ?_; rintro e w3 ⟨v3, hv3, rfl, hk3⟩
  have H3 := Lib.hid hv3; have K3 := Lib.hid (K2.out.trans hk3); clear hv3 hk3
  go_wp2_with fail
  refine (fits_z (a + s) v3 _ H3.out).mono ?_; rintro e w4 ⟨rfl, hk4⟩
  have K4 := Lib.hid (K3.out.trans hk4); clear hk4
  go_wp2_with fail
  refine (later_any a s _ ha hsp).mono ?_; rintro e w' ⟨rfl, rfl⟩
  go_wp2_with fail
  refine (works_yes _).mono ?_; rintro e w' ⟨rfl, n, rfl⟩
  go_wp2_with fail
  go_ret
  exact ⟨rfl, (K4.out.drewN _).grown⟩

set_option maxHeartbeats 1000000 in
theorem clamp_h_n_inf (a l h s : Int) (w : World) (ha : -9223372036854775808 ≤ a ∧ a ≤ 9223372036854775807) (hsp : -9223372036854775808 ≤ s ∧ s ≤ 9223372036854775807)
    (hl : ¬ a < l) (hh : h < a) (hs : s < 0) (hf : fits (a) = true) (hi : (a == 9223372036854775807) = true) (hlast : (laterV a s == 9223372036854775807) = true) :
    Calls Try.prog 5 #[.int .i64 a, .int .i64 l, .int .i64 h, .int .i64 s] w fun e w' => e = .returned (.bool true) ∧ Grown w w' := by
  go_enter Try.func5, Try.ntmps5
  go_wp2_with fail
  refine (clamp_high a l h _ (by omega) (by omega)).mono ?_; rintro e w' ⟨rfl, rfl⟩
  go_wp2_with fail
  refine (of_z a _ ha).mono ?_; rintro e w1 ⟨v1, hv1, rfl, hk1⟩
  have H1 := Lib.hid hv1; have K1 := Lib.hid hk1; clear hv1 hk1
  go_wp2_with fail
  refine (of_z 0 _ (by omega)).mono ?_; rintro e w2 ⟨v2, hv2, rfl, hk2⟩
  have H2 := Lib.hid hv2; have K2 := Lib.hid (K1.out.trans hk2); clear hv2 hk2
  go_wp2_with fail
  refine (add_z a 0 v1 v2 _ H1.out H2.out (by omega) (by omega)).mono ?_; rintro e w3 ⟨v3, hv3, rfl, hk3⟩
  rw [Int.add_zero] at hv3
  have H3 := Lib.hid hv3; have K3 := Lib.hid (K2.out.trans hk3); clear hv3 hk3
  go_wp2_with fail
  refine (fits_z (a) v3 _ H3.out).mono ?_; rintro e w4 ⟨rfl, hk4⟩
  have K4 := Lib.hid (K3.out.trans hk4); clear hk4
  go_wp2_with fail
  refine (later_any a s _ ha hsp).mono ?_; rintro e w' ⟨rfl, rfl⟩
  go_wp2_with fail
  refine (works_yes _).mono ?_; rintro e w' ⟨rfl, n, rfl⟩
  go_wp2_with fail
  go_ret
  exact ⟨rfl, (K4.out.drewN _).grown⟩

set_option maxHeartbeats 1000000 in
theorem clamp_h_n_sum (a l h s : Int) (w : World) (ha : -9223372036854775808 ≤ a ∧ a ≤ 9223372036854775807) (hsp : -9223372036854775808 ≤ s ∧ s ≤ 9223372036854775807)
    (hl : ¬ a < l) (hh : h < a) (hs : s < 0) (hf : fits (a) = true) (hi : (a == 9223372036854775807) = false) (hj : (s == 9223372036854775807) = false) (hlast : (laterV a s == fit (a)) = true) :
    Calls Try.prog 5 #[.int .i64 a, .int .i64 l, .int .i64 h, .int .i64 s] w fun e w' => e = .returned (.bool true) ∧ Grown w w' := by
  go_enter Try.func5, Try.ntmps5
  go_wp2_with fail
  refine (clamp_high a l h _ (by omega) (by omega)).mono ?_; rintro e w' ⟨rfl, rfl⟩
  go_wp2_with fail
  refine (of_z a _ ha).mono ?_; rintro e w1 ⟨v1, hv1, rfl, hk1⟩
  have H1 := Lib.hid hv1; have K1 := Lib.hid hk1; clear hv1 hk1
  go_wp2_with fail
  refine (of_z 0 _ (by omega)).mono ?_; rintro e w2 ⟨v2, hv2, rfl, hk2⟩
  have H2 := Lib.hid hv2; have K2 := Lib.hid (K1.out.trans hk2); clear hv2 hk2
  go_wp2_with fail
  refine (add_z a 0 v1 v2 _ H1.out H2.out (by omega) (by omega)).mono ?_; rintro e w3 ⟨v3, hv3, rfl, hk3⟩
  rw [Int.add_zero] at hv3
  have H3 := Lib.hid hv3; have K3 := Lib.hid (K2.out.trans hk3); clear hv3 hk3
  go_wp2_with fail
  refine (fits_z (a) v3 _ H3.out).mono ?_; rintro e w4 ⟨rfl, hk4⟩
  have K4 := Lib.hid (K3.out.trans hk4); clear hk4
  go_wp2_with fail
  refine (later_any a s _ ha hsp).mono ?_; rintro e w' ⟨rfl, rfl⟩
  go_wp2_with fail
  refine (works_yes _).mono ?_; rintro e w' ⟨rfl, n, rfl⟩
  go_wp2_with fail
  go_ret
  exact ⟨rfl, (K4.out.drewN _).grown⟩

set_option maxHeartbeats 1000000 in
theorem clamp_h_p_nofit (a l h s : Int) (w : World) (ha : -9223372036854775808 ≤ a ∧ a ≤ 9223372036854775807) (hsp : -9223372036854775808 ≤ s ∧ s ≤ 9223372036854775807)
    (hl : ¬ a < l) (hh : h < a) (hs : ¬ s < 0) (hf : fits (a + s) = false) (hlast : (laterV a s == 9223372036854775807) = true) :
    Calls Try.prog 5 #[.int .i64 a, .int .i64 l, .int .i64 h, .int .i64 s] w fun e w' => e = .returned (.bool true) ∧ Grown w w' := by
  go_enter Try.func5, Try.ntmps5
  go_wp2_with fail
  refine (clamp_high a l h _ (by omega) (by omega)).mono ?_; rintro e w' ⟨rfl, rfl⟩
  go_wp2_with fail
  refine (of_z a _ ha).mono ?_; rintro e w1 ⟨v1, hv1, rfl, hk1⟩
  have H1 := Lib.hid hv1; have K1 := Lib.hid hk1; clear hv1 hk1
  go_wp2_with fail
  refine (of_z s _ (by omega)).mono ?_; rintro e w2 ⟨v2, hv2, rfl, hk2⟩
  have H2 := Lib.hid hv2; have K2 := Lib.hid (K1.out.trans hk2); clear hv2 hk2
  go_wp2_with fail
  refine (add_z a s v1 v2 _ H1.out H2.out (by omega) (by omega)).mono ?_; rintro e w3 ⟨v3, hv3, rfl, hk3⟩
  have H3 := Lib.hid hv3; have K3 := Lib.hid (K2.out.trans hk3); clear hv3 hk3
  go_wp2_with fail
  refine (fits_z (a + s) v3 _ H3.out).mono ?_; rintro e w4 ⟨rfl, hk4⟩
  have K4 := Lib.hid (K3.out.trans hk4); clear hk4
  go_wp2_with fail
  refine (later_any a s _ ha hsp).mono ?_; rintro e w' ⟨rfl, rfl⟩
  go_wp2_with fail
  refine (works_yes _).mono ?_; rintro e w' ⟨rfl, n, rfl⟩
  go_wp2_with fail
  go_ret
  exact ⟨rfl, (K4.out.drewN _).grown⟩

set_option maxHeartbeats 1000000 in
theorem clamp_h_p_inf (a l h s : Int) (w : World) (ha : -9223372036854775808 ≤ a ∧ a ≤ 9223372036854775807) (hsp : -9223372036854775808 ≤ s ∧ s ≤ 9223372036854775807)
    (hl : ¬ a < l) (hh : h < a) (hs : ¬ s < 0) (hf : fits (a + s) = true) (hi : (a == 9223372036854775807) = true) (hlast : (laterV a s == 9223372036854775807) = true) :
    Calls Try.prog 5 #[.int .i64 a, .int .i64 l, .int .i64 h, .int .i64 s] w fun e w' => e = .returned (.bool true) ∧ Grown w w' := by
  go_enter Try.func5, Try.ntmps5
  go_wp2_with fail
  refine (clamp_high a l h _ (by omega) (by omega)).mono ?_; rintro e w' ⟨rfl, rfl⟩
  go_wp2_with fail
  refine (of_z a _ ha).mono ?_; rintro e w1 ⟨v1, hv1, rfl, hk1⟩
  have H1 := Lib.hid hv1; have K1 := Lib.hid hk1; clear hv1 hk1
  go_wp2_with fail
  refine (of_z s _ (by omega)).mono ?_; rintro e w2 ⟨v2, hv2, rfl, hk2⟩
  have H2 := Lib.hid hv2; have K2 := Lib.hid (K1.out.trans hk2); clear hv2 hk2
  go_wp2_with fail
  refine (add_z a s v1 v2 _ H1.out H2.out (by omega) (by omega)).mono ?_; rintro e w3 ⟨v3, hv3, rfl, hk3⟩
  have H3 := Lib.hid hv3; have K3 := Lib.hid (K2.out.trans hk3); clear hv3 hk3
  go_wp2_with fail
  refine (fits_z (a + s) v3 _ H3.out).mono ?_; rintro e w4 ⟨rfl, hk4⟩
  have K4 := Lib.hid (K3.out.trans hk4); clear hk4
  go_wp2_with fail
  refine (later_any a s _ ha hsp).mono ?_; rintro e w' ⟨rfl, rfl⟩
  go_wp2_with fail
  refine (works_yes _).mono ?_; rintro e w' ⟨rfl, n, rfl⟩
  go_wp2_with fail
  go_ret
  exact ⟨rfl, (K4.out.drewN _).grown⟩

set_option maxHeartbeats 1000000 in
theorem clamp_h_p_span (a l h s : Int) (w : World) (ha : -9223372036854775808 ≤ a ∧ a ≤ 9223372036854775807) (hsp : -9223372036854775808 ≤ s ∧ s ≤ 9223372036854775807)
    (hl : ¬ a < l) (hh : h < a) (hs : ¬ s < 0) (hf : fits (a + s) = true) (hi : (a == 9223372036854775807) = false) (hj : (s == 9223372036854775807) = true) (hlast : (laterV a s == 9223372036854775807) = true) :
    Calls Try.prog 5 #[.int .i64 a, .int .i64 l, .int .i64 h, .int .i64 s] w fun e w' => e = .returned (.bool true) ∧ Grown w w' := by
  go_enter Try.func5, Try.ntmps5
  go_wp2_with fail
  refine (clamp_high a l h _ (by omega) (by omega)).mono ?_; rintro e w' ⟨rfl, rfl⟩
  go_wp2_with fail
  refine (of_z a _ ha).mono ?_; rintro e w1 ⟨v1, hv1, rfl, hk1⟩
  have H1 := Lib.hid hv1; have K1 := Lib.hid hk1; clear hv1 hk1
  go_wp2_with fail
  refine (of_z s _ (by omega)).mono ?_; rintro e w2 ⟨v2, hv2, rfl, hk2⟩
  have H2 := Lib.hid hv2; have K2 := Lib.hid (K1.out.trans hk2); clear hv2 hk2
  go_wp2_with fail
  refine (add_z a s v1 v2 _ H1.out H2.out (by omega) (by omega)).mono ?_; rintro e w3 ⟨v3, hv3, rfl, hk3⟩
  have H3 := Lib.hid hv3; have K3 := Lib.hid (K2.out.trans hk3); clear hv3 hk3
  go_wp2_with fail
  refine (fits_z (a + s) v3 _ H3.out).mono ?_; rintro e w4 ⟨rfl, hk4⟩
  have K4 := Lib.hid (K3.out.trans hk4); clear hk4
  go_wp2_with fail
  refine (later_any a s _ ha hsp).mono ?_; rintro e w' ⟨rfl, rfl⟩
  go_wp2_with fail
  refine (works_yes _).mono ?_; rintro e w' ⟨rfl, n, rfl⟩
  go_wp2_with fail
  go_ret
  exact ⟨rfl, (K4.out.drewN _).grown⟩

set_option maxHeartbeats 1000000 in
theorem clamp_h_p_sum (a l h s : Int) (w : World) (ha : -9223372036854775808 ≤ a ∧ a ≤ 9223372036854775807) (hsp : -9223372036854775808 ≤ s ∧ s ≤ 9223372036854775807)
    (hl : ¬ a < l) (hh : h < a) (hs : ¬ s < 0) (hf : fits (a + s) = true) (hi : (a == 9223372036854775807) = false) (hj : (s == 9223372036854775807) = false) (hlast : (laterV a s == fit (a + s)) = true) :
    Calls Try.prog 5 #[.int .i64 a, .int .i64 l, .int .i64 h, .int .i64 s] w fun e w' => e = .returned (.bool true) ∧ Grown w w' := by
  go_enter Try.func5, Try.ntmps5
  go_wp2_with fail
  refine (clamp_high a l h _ (by omega) (by omega)).mono ?_; rintro e w' ⟨rfl, rfl⟩
  go_wp2_with fail
  refine (of_z a _ ha).mono ?_; rintro e w1 ⟨v1, hv1, rfl, hk1⟩
  have H1 := Lib.hid hv1; have K1 := Lib.hid hk1; clear hv1 hk1
  go_wp2_with fail
  refine (of_z s _ (by omega)).mono ?_; rintro e w2 ⟨v2, hv2, rfl, hk2⟩
  have H2 := Lib.hid hv2; have K2 := Lib.hid (K1.out.trans hk2); clear hv2 hk2
  go_wp2_with fail
  refine (add_z a s v1 v2 _ H1.out H2.out (by omega) (by omega)).mono ?_; rintro e w3 ⟨v3, hv3, rfl, hk3⟩
  have H3 := Lib.hid hv3; have K3 := Lib.hid (K2.out.trans hk3); clear hv3 hk3
  go_wp2_with fail
  refine (fits_z (a + s) v3 _ H3.out).mono ?_; rintro e w4 ⟨rfl, hk4⟩
  have K4 := Lib.hid (K3.out.trans hk4); clear hk4
  go_wp2_with fail
  refine (later_any a s _ ha hsp).mono ?_; rintro e w' ⟨rfl, rfl⟩
  go_wp2_with fail
  refine (works_yes _).mono ?_; rintro e w' ⟨rfl, n, rfl⟩
  go_wp2_with fail
  go_ret
  exact ⟨rfl, (K4.out.drewN _).grown⟩

set_option maxHeartbeats 1000000 in
theorem clamp_m_n_inf (a l h s : Int) (w : World) (ha : -9223372036854775808 ≤ a ∧ a ≤ 9223372036854775807) (hsp : -9223372036854775808 ≤ s ∧ s ≤ 9223372036854775807)
    (hl : ¬ a < l) (hh : ¬ h < a) (hs : s < 0) (hf : fits (a) = true) (hi : (a == 9223372036854775807) = true) (hlast : (laterV a s == 9223372036854775807) = true) :
    Calls Try.prog 5 #[.int .i64 a, .int .i64 l, .int .i64 h, .int .i64 s] w fun e w' => e = .returned (.bool true) ∧ Grown w w' := by
  go_enter Try.func5, Try.ntmps5
  go_wp2_with fail
  refine (clamp_mid a l h _ (by omega) (by omega)).mono ?_; rintro e w' ⟨rfl, rfl⟩
  go_wp2_with fail
  refine (of_z a _ ha).mono ?_; rintro e w1 ⟨v1, hv1, rfl, hk1⟩
  have H1 := Lib.hid hv1; have K1 := Lib.hid hk1; clear hv1 hk1
  go_wp2_with fail
  refine (of_z 0 _ (by omega)).mono ?_; rintro e w2 ⟨v2, hv2, rfl, hk2⟩
  have H2 := Lib.hid hv2; have K2 := Lib.hid (K1.out.trans hk2); clear hv2 hk2
  go_wp2_with fail
  refine (add_z a 0 v1 v2 _ H1.out H2.out (by omega) (by omega)).mono ?_; rintro e w3 ⟨v3, hv3, rfl, hk3⟩
  rw [Int.add_zero] at hv3
  have H3 := Lib.hid hv3; have K3 := Lib.hid (K2.out.trans hk3); clear hv3 hk3
  go_wp2_with fail
  refine (fits_z (a) v3 _ H3.out).mono ?_; rintro e w4 ⟨rfl, hk4⟩
  have K4 := Lib.hid (K3.out.trans hk4); clear hk4
  go_wp2_with fail
  refine (later_any a s _ ha hsp).mono ?_; rintro e w' ⟨rfl, rfl⟩
  go_wp2_with fail
  refine (works_yes _).mono ?_; rintro e w' ⟨rfl, n, rfl⟩
  go_wp2_with fail
  go_ret
  exact ⟨rfl, (K4.out.drewN _).grown⟩

set_option maxHeartbeats 1000000 in
theorem clamp_m_n_sum (a l h s : Int) (w : World) (ha : -9223372036854775808 ≤ a ∧ a ≤ 9223372036854775807) (hsp : -9223372036854775808 ≤ s ∧ s ≤ 9223372036854775807)
    (hl : ¬ a < l) (hh : ¬ h < a) (hs : s < 0) (hf : fits (a) = true) (hi : (a == 9223372036854775807) = false) (hj : (s == 9223372036854775807) = false) (hlast : (laterV a s == fit (a)) = true) :
    Calls Try.prog 5 #[.int .i64 a, .int .i64 l, .int .i64 h, .int .i64 s] w fun e w' => e = .returned (.bool true) ∧ Grown w w' := by
  go_enter Try.func5, Try.ntmps5
  go_wp2_with fail
  refine (clamp_mid a l h _ (by omega) (by omega)).mono ?_; rintro e w' ⟨rfl, rfl⟩
  go_wp2_with fail
  refine (of_z a _ ha).mono ?_; rintro e w1 ⟨v1, hv1, rfl, hk1⟩
  have H1 := Lib.hid hv1; have K1 := Lib.hid hk1; clear hv1 hk1
  go_wp2_with fail
  refine (of_z 0 _ (by omega)).mono ?_; rintro e w2 ⟨v2, hv2, rfl, hk2⟩
  have H2 := Lib.hid hv2; have K2 := Lib.hid (K1.out.trans hk2); clear hv2 hk2
  go_wp2_with fail
  refine (add_z a 0 v1 v2 _ H1.out H2.out (by omega) (by omega)).mono ?_; rintro e w3 ⟨v3, hv3, rfl, hk3⟩
  rw [Int.add_zero] at hv3
  have H3 := Lib.hid hv3; have K3 := Lib.hid (K2.out.trans hk3); clear hv3 hk3
  go_wp2_with fail
  refine (fits_z (a) v3 _ H3.out).mono ?_; rintro e w4 ⟨rfl, hk4⟩
  have K4 := Lib.hid (K3.out.trans hk4); clear hk4
  go_wp2_with fail
  refine (later_any a s _ ha hsp).mono ?_; rintro e w' ⟨rfl, rfl⟩
  go_wp2_with fail
  refine (works_yes _).mono ?_; rintro e w' ⟨rfl, n, rfl⟩
  go_wp2_with fail
  go_ret
  exact ⟨rfl, (K4.out.drewN _).grown⟩

set_option maxHeartbeats 1000000 in
theorem clamp_m_p_nofit (a l h s : Int) (w : World) (ha : -9223372036854775808 ≤ a ∧ a ≤ 9223372036854775807) (hsp : -9223372036854775808 ≤ s ∧ s ≤ 9223372036854775807)
    (hl : ¬ a < l) (hh : ¬ h < a) (hs : ¬ s < 0) (hf : fits (a + s) = false) (hlast : (laterV a s == 9223372036854775807) = true) :
    Calls Try.prog 5 #[.int .i64 a, .int .i64 l, .int .i64 h, .int .i64 s] w fun e w' => e = .returned (.bool true) ∧ Grown w w' := by
  go_enter Try.func5, Try.ntmps5
  go_wp2_with fail
  refine (clamp_mid a l h _ (by omega) (by omega)).mono ?_; rintro e w' ⟨rfl, rfl⟩
  go_wp2_with fail
  refine (of_z a _ ha).mono ?_; rintro e w1 ⟨v1, hv1, rfl, hk1⟩
  have H1 := Lib.hid hv1; have K1 := Lib.hid hk1; clear hv1 hk1
  go_wp2_with fail
  refine (of_z s _ (by omega)).mono ?_; rintro e w2 ⟨v2, hv2, rfl, hk2⟩
  have H2 := Lib.hid hv2; have K2 := Lib.hid (K1.out.trans hk2); clear hv2 hk2
  go_wp2_with fail
  refine (add_z a s v1 v2 _ H1.out H2.out (by omega) (by omega)).mono ?_; rintro e w3 ⟨v3, hv3, rfl, hk3⟩
  have H3 := Lib.hid hv3; have K3 := Lib.hid (K2.out.trans hk3); clear hv3 hk3
  go_wp2_with fail
  refine (fits_z (a + s) v3 _ H3.out).mono ?_; rintro e w4 ⟨rfl, hk4⟩
  have K4 := Lib.hid (K3.out.trans hk4); clear hk4
  go_wp2_with fail
  refine (later_any a s _ ha hsp).mono ?_; rintro e w' ⟨rfl, rfl⟩
  go_wp2_with fail
  refine (works_yes _).mono ?_; rintro e w' ⟨rfl, n, rfl⟩
  go_wp2_with fail
  go_ret
  exact ⟨rfl, (K4.out.drewN _).grown⟩

set_option maxHeartbeats 1000000 in
theorem clamp_m_p_inf (a l h s : Int) (w : World) (ha : -9223372036854775808 ≤ a ∧ a ≤ 9223372036854775807) (hsp : -9223372036854775808 ≤ s ∧ s ≤ 9223372036854775807)
    (hl : ¬ a < l) (hh : ¬ h < a) (hs : ¬ s < 0) (hf : fits (a + s) = true) (hi : (a == 9223372036854775807) = true) (hlast : (laterV a s == 9223372036854775807) = true) :
    Calls Try.prog 5 #[.int .i64 a, .int .i64 l, .int .i64 h, .int .i64 s] w fun e w' => e = .returned (.bool true) ∧ Grown w w' := by
  go_enter Try.func5, Try.ntmps5
  go_wp2_with fail
  refine (clamp_mid a l h _ (by omega) (by omega)).mono ?_; rintro e w' ⟨rfl, rfl⟩
  go_wp2_with fail
  refine (of_z a _ ha).mono ?_; rintro e w1 ⟨v1, hv1, rfl, hk1⟩
  have H1 := Lib.hid hv1; have K1 := Lib.hid hk1; clear hv1 hk1
  go_wp2_with fail
  refine (of_z s _ (by omega)).mono ?_; rintro e w2 ⟨v2, hv2, rfl, hk2⟩
  have H2 := Lib.hid hv2; have K2 := Lib.hid (K1.out.trans hk2); clear hv2 hk2
  go_wp2_with fail
  refine (add_z a s v1 v2 _ H1.out H2.out (by omega) (by omega)).mono ?_; rintro e w3 ⟨v3, hv3, rfl, hk3⟩
  have H3 := Lib.hid hv3; have K3 := Lib.hid (K2.out.trans hk3); clear hv3 hk3
  go_wp2_with fail
  refine (fits_z (a + s) v3 _ H3.out).mono ?_; rintro e w4 ⟨rfl, hk4⟩
  have K4 := Lib.hid (K3.out.trans hk4); clear hk4
  go_wp2_with fail
  refine (later_any a s _ ha hsp).mono ?_; rintro e w' ⟨rfl, rfl⟩
  go_wp2_with fail
  refine (works_yes _).mono ?_; rintro e w' ⟨rfl, n, rfl⟩
  go_wp2_with fail
  go_ret
  exact ⟨rfl, (K4.out.drewN _).grown⟩

set_option maxHeartbeats 1000000 in
theorem clamp_m_p_span (a l h s : Int) (w : World) (ha : -9223372036854775808 ≤ a ∧ a ≤ 9223372036854775807) (hsp : -9223372036854775808 ≤ s ∧ s ≤ 9223372036854775807)
    (hl : ¬ a < l) (hh : ¬ h < a) (hs : ¬ s < 0) (hf : fits (a + s) = true) (hi : (a == 9223372036854775807) = false) (hj : (s == 9223372036854775807) = true) (hlast : (laterV a s == 9223372036854775807) = true) :
    Calls Try.prog 5 #[.int .i64 a, .int .i64 l, .int .i64 h, .int .i64 s] w fun e w' => e = .returned (.bool true) ∧ Grown w w' := by
  go_enter Try.func5, Try.ntmps5
  go_wp2_with fail
  refine (clamp_mid a l h _ (by omega) (by omega)).mono ?_; rintro e w' ⟨rfl, rfl⟩
  go_wp2_with fail
  refine (of_z a _ ha).mono ?_; rintro e w1 ⟨v1, hv1, rfl, hk1⟩
  have H1 := Lib.hid hv1; have K1 := Lib.hid hk1; clear hv1 hk1
  go_wp2_with fail
  refine (of_z s _ (by omega)).mono ?_; rintro e w2 ⟨v2, hv2, rfl, hk2⟩
  have H2 := Lib.hid hv2; have K2 := Lib.hid (K1.out.trans hk2); clear hv2 hk2
  go_wp2_with fail
  refine (add_z a s v1 v2 _ H1.out H2.out (by omega) (by omega)).mono ?_; rintro e w3 ⟨v3, hv3, rfl, hk3⟩
  have H3 := Lib.hid hv3; have K3 := Lib.hid (K2.out.trans hk3); clear hv3 hk3
  go_wp2_with fail
  refine (fits_z (a + s) v3 _ H3.out).mono ?_; rintro e w4 ⟨rfl, hk4⟩
  have K4 := Lib.hid (K3.out.trans hk4); clear hk4
  go_wp2_with fail
  refine (later_any a s _ ha hsp).mono ?_; rintro e w' ⟨rfl, rfl⟩
  go_wp2_with fail
  refine (works_yes _).mono ?_; rintro e w' ⟨rfl, n, rfl⟩
  go_wp2_with fail
  go_ret
  exact ⟨rfl, (K4.out.drewN _).grown⟩

set_option maxHeartbeats 1000000 in
theorem clamp_m_p_sum (a l h s : Int) (w : World) (ha : -9223372036854775808 ≤ a ∧ a ≤ 9223372036854775807) (hsp : -9223372036854775808 ≤ s ∧ s ≤ 9223372036854775807)
    (hl : ¬ a < l) (hh : ¬ h < a) (hs : ¬ s < 0) (hf : fits (a + s) = true) (hi : (a == 9223372036854775807) = false) (hj : (s == 9223372036854775807) = false) (hlast : (laterV a s == fit (a + s)) = true) :
    Calls Try.prog 5 #[.int .i64 a, .int .i64 l, .int .i64 h, .int .i64 s] w fun e w' => e = .returned (.bool true) ∧ Grown w w' := by
  go_enter Try.func5, Try.ntmps5
  go_wp2_with fail
  refine (clamp_mid a l h _ (by omega) (by omega)).mono ?_; rintro e w' ⟨rfl, rfl⟩
  go_wp2_with fail
  refine (of_z a _ ha).mono ?_; rintro e w1 ⟨v1, hv1, rfl, hk1⟩
  have H1 := Lib.hid hv1; have K1 := Lib.hid hk1; clear hv1 hk1
  go_wp2_with fail
  refine (of_z s _ (by omega)).mono ?_; rintro e w2 ⟨v2, hv2, rfl, hk2⟩
  have H2 := Lib.hid hv2; have K2 := Lib.hid (K1.out.trans hk2); clear hv2 hk2
  go_wp2_with fail
  refine (add_z a s v1 v2 _ H1.out H2.out (by omega) (by omega)).mono ?_; rintro e w3 ⟨v3, hv3, rfl, hk3⟩
  have H3 := Lib.hid hv3; have K3 := Lib.hid (K2.out.trans hk3); clear hv3 hk3
  go_wp2_with fail
  refine (fits_z (a + s) v3 _ H3.out).mono ?_; rintro e w4 ⟨rfl, hk4⟩
  have K4 := Lib.hid (K3.out.trans hk4); clear hk4
  go_wp2_with fail
  refine (later_any a s _ ha hsp).mono ?_; rintro e w' ⟨rfl, rfl⟩
  go_wp2_with fail
  refine (works_yes _).mono ?_; rintro e w' ⟨rfl, n, rfl⟩
  go_wp2_with fail
  go_ret
  exact ⟨rfl, (K4.out.drewN _).grown⟩

theorem clamp_walk (a l h s : Int) (wa : (Lit.int .i64 a).wf = true) (_wl : (Lit.int .i64 l).wf = true) (_wh : (Lit.int .i64 h).wf = true) (ws : (Lit.int .i64 s).wf = true) (w : World) :
    Calls Try.prog 5 #[.int .i64 a, .int .i64 l, .int .i64 h, .int .i64 s] w fun e w' => e = .returned (.bool true) ∧ Grown w w' := by
  have ha := of_wf wa
  have hsp := of_wf ws
  by_cases hs : s < 0
  · have hf : fits a = true := fits_yes (by omega)
    have hj : (s == 9223372036854775807) = false := beq_eq_false_iff_ne.2 (by omega)
    by_cases hi : a = 9223372036854775807
    · have hi' : (a == 9223372036854775807) = true := beq_iff_eq.2 hi
      have hlast : (laterV a s == 9223372036854775807) = true := by rw [beq_iff_eq]; unfold laterV; rw [if_pos (.inl hi)]
      by_cases hl : a < l <;> by_cases hh : h < a
      · exact clamp_lh_n_inf a l h s w ha hsp hl hh hs hf hi' hlast
      · exact clamp_l_n_inf a l h s w ha hsp hl hh hs hf hi' hlast
      · exact clamp_h_n_inf a l h s w ha hsp hl hh hs hf hi' hlast
      · exact clamp_m_n_inf a l h s w ha hsp hl hh hs hf hi' hlast
    · have hi' : (a == 9223372036854775807) = false := beq_eq_false_iff_ne.2 hi
      have hlast : (laterV a s == fit a) = true := by
        rw [beq_iff_eq, fit_yes hf]; unfold laterV; rw [if_neg (by omega), show max s 0 = 0 by omega, Int.add_zero, hf]; rfl
      by_cases hl : a < l <;> by_cases hh : h < a
      · exact clamp_lh_n_sum a l h s w ha hsp hl hh hs hf hi' hj hlast
      · exact clamp_l_n_sum a l h s w ha hsp hl hh hs hf hi' hj hlast
      · exact clamp_h_n_sum a l h s w ha hsp hl hh hs hf hi' hj hlast
      · exact clamp_m_n_sum a l h s w ha hsp hl hh hs hf hi' hj hlast
  · have hmax : max s 0 = s := by omega
    cases hf : fits (a + s)
    · have hlast : (laterV a s == 9223372036854775807) = true := by
        rw [beq_iff_eq]; unfold laterV; rw [hmax, hf]; split <;> rfl
      by_cases hl : a < l <;> by_cases hh : h < a
      · exact clamp_lh_p_nofit a l h s w ha hsp hl hh hs hf hlast
      · exact clamp_l_p_nofit a l h s w ha hsp hl hh hs hf hlast
      · exact clamp_h_p_nofit a l h s w ha hsp hl hh hs hf hlast
      · exact clamp_m_p_nofit a l h s w ha hsp hl hh hs hf hlast
    by_cases hi : a = 9223372036854775807
    · have hi' : (a == 9223372036854775807) = true := beq_iff_eq.2 hi
      have hlast : (laterV a s == 9223372036854775807) = true := by rw [beq_iff_eq]; unfold laterV; rw [if_pos (.inl hi)]
      by_cases hl : a < l <;> by_cases hh : h < a
      · exact clamp_lh_p_inf a l h s w ha hsp hl hh hs hf hi' hlast
      · exact clamp_l_p_inf a l h s w ha hsp hl hh hs hf hi' hlast
      · exact clamp_h_p_inf a l h s w ha hsp hl hh hs hf hi' hlast
      · exact clamp_m_p_inf a l h s w ha hsp hl hh hs hf hi' hlast
    have hi' : (a == 9223372036854775807) = false := beq_eq_false_iff_ne.2 hi
    by_cases hj : s = 9223372036854775807
    · have hj' : (s == 9223372036854775807) = true := beq_iff_eq.2 hj
      have hlast : (laterV a s == 9223372036854775807) = true := by rw [beq_iff_eq]; unfold laterV; rw [if_pos (.inr hj)]
      by_cases hl : a < l <;> by_cases hh : h < a
      · exact clamp_lh_p_span a l h s w ha hsp hl hh hs hf hi' hj' hlast
      · exact clamp_l_p_span a l h s w ha hsp hl hh hs hf hi' hj' hlast
      · exact clamp_h_p_span a l h s w ha hsp hl hh hs hf hi' hj' hlast
      · exact clamp_m_p_span a l h s w ha hsp hl hh hs hf hi' hj' hlast
    · have hj' : (s == 9223372036854775807) = false := beq_eq_false_iff_ne.2 hj
      have hlast : (laterV a s == fit (a + s)) = true := by
        rw [beq_iff_eq, fit_yes hf]; unfold laterV; rw [if_neg (by omega), hmax, hf]; rfl
      by_cases hl : a < l <;> by_cases hh : h < a
      · exact clamp_lh_p_sum a l h s w ha hsp hl hh hs hf hi' hj' hlast
      · exact clamp_l_p_sum a l h s w ha hsp hl hh hs hf hi' hj' hlast
      · exact clamp_h_p_sum a l h s w ha hsp hl hh hs hf hi' hj' hlast
      · exact clamp_m_p_sum a l h s w ha hsp hl hh hs hf hi' hj' hlast

end Go.Proofs.Ytkdedagilaaldaa.Us
