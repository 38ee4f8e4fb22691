/-
  The walk of the law UsecDiv, by the contracts of package usec and of the document's whole numbers.
-/
import Derived.Test.YtkdedagilaaldaaUsecRulesWalk
import Derived.Test.YtkdedagilaaldaaBigZ
namespace Go.Proofs.Ytkdedagilaaldaa.Us
open Go.RowKit

set_option maxHeartbeats 1000000 in
theorem div_walk_zero (a : Int) (w : World) :
    Calls Try.prog 4 #[.int .i64 a, .int .i64 0] w fun e w' => e = .returned (.bool true) ∧ Grown w w' := by
  go_enter Try.func4, Try.ntmps4
  go_wp2_with fail
  refine (div_zero a _).mono ?_; rintro e w' ⟨rfl, rfl⟩
  go_wp2_with fail
  refine (works_yes _).mono ?_; rintro e w' ⟨rfl, n, rfl⟩
  go_wp2_with fail
  go_ret
  exact ⟨rfl, ((Keeps.refl _).drewN _).grown⟩

set_option maxHeartbeats 1000000 in
theorem div_walk_least (w : World) :
    Calls Try.prog 4 #[.int .i64 (-9223372036854775808), .int .i64 (-1)] w fun e w' => e = .returned (.bool true) ∧ Grown w w' := by
  go_enter Try.func4, Try.ntmps4
  go_wp2_with fail
  refine (div_least _).mono ?_; rintro e w' ⟨rfl, rfl⟩
  go_wp2_with fail
  refine (works_yes _).mono ?_; rintro e w' ⟨rfl, n, rfl⟩
  go_wp2_with fail
  go_ret
  exact ⟨rfl, ((Keeps.refl _).drewN _).grown⟩

set_option maxHeartbeats 1000000 in
theorem div_walk_p (a b : Int) (w : World) (ha : -9223372036854775808 ≤ a ∧ a ≤ 9223372036854775807) (hb : -9223372036854775808 ≤ b ∧ b ≤ 9223372036854775807) (hg : ¬ (a = -9223372036854775808 ∧ b = -1)) (hp : 0 < b) :
    Calls Try.prog 4 #[.int .i64 a, .int .i64 b] w fun e w' => e = .returned (.bool true) ∧ Grown w w' := by
  have hq := dq_fits a b ha (by omega) hg
  have hr := dr_fits a b hb (by omega)
  have hrr := dr_range a b (by omega)
  have hqr := dq_dr a b
  have hpq : (dq a b * b).natAbs ≤ 340282366920938463463374607431768211456 := by omega
  have hb0 : (b == 0) = false := beq_eq_false_iff_ne.2 (by omega)
  obtain ⟨q, hq'⟩ : ∃ q, dq a b = q := ⟨_, rfl⟩
  obtain ⟨r, hr'⟩ : ∃ r, dr a b = r := ⟨_, rfl⟩
  have c0 := fun w => div_yes a b w ha hb (by omega) hg
  rw [hq', hr'] at c0
  rw [hq'] at hq hqr hpq
  rw [hr'] at hr hrr hqr
  have C0 := Lib.hid c0; have HQ := Lib.hid hqr; have HP := Lib.hid hpq
  have hr3 : 0 ≤ r ∧ r < b := by omega
  have hg1 : (b == -1) = false ∨ (b == -1) = true ∧ (a == -9223372036854775808) = false := by
    by_cases h : b = -1
    · exact .inr ⟨beq_iff_eq.2 h, beq_eq_false_iff_ne.2 fun h' => hg ⟨h', h⟩⟩
    · exact .inl (beq_eq_false_iff_ne.2 h)
  have hfa : fits a = true := fits_yes ha
  have haa : (fit a == a) = true := beq_iff_eq.2 (fit_yes hfa)
  clear c0 hqr hpq hq' hr' hg hrr
  rcases hg1 with hg1 | ⟨hg1, hg2⟩
  all_goals
    go_enter Try.func4, Try.ntmps4
    go_wp2_with fail
    refine (C0.out _).mono ?_; rintro e w' ⟨rfl, n0, rfl⟩
    go_wp2_with fail
    refine (of_z q _ hq).mono ?_; rintro e w1 ⟨v1, hv1, rfl, hk1⟩
    have H1 := Lib.hid hv1; have K1 := Lib.hid (((Keeps.refl w).drewN n0).trans hk1); clear hv1 hk1
    go_wp2_with fail
    refine (of_z b _ hb).mono ?_; rintro e w2 ⟨v2, hv2, rfl, hk2⟩
    have H2 := Lib.hid hv2; have K2 := Lib.hid (K1.out.trans hk2); clear hv2 hk2
    go_wp2_with fail
    refine (mul_z q b v1 v2 _ H1.out H2.out (by omega) (by omega)).mono ?_; rintro e w3 ⟨v3, hv3, rfl, hk3⟩
    have H3 := Lib.hid hv3; have K3 := Lib.hid (K2.out.trans hk3); clear hv3 hk3
    go_wp2_with fail
    refine (of_z r _ hr).mono ?_; rintro e w4 ⟨v4, hv4, rfl, hk4⟩
    have H4 := Lib.hid hv4; have K4 := Lib.hid (K3.out.trans hk4); clear hv4 hk4
    go_wp2_with fail
    refine (add_z (q * b) r v3 v4 _ H3.out H4.out HP.out (by omega)).mono ?_; rintro e w5 ⟨v5, hv5, rfl, hk5⟩
    rw [HQ.out] at hv5
    have H5 := Lib.hid hv5
    obtain ⟨m5, n5, ⟨d0, d1, d2, d3, d4, hd5, hn5, rfl⟩, hs5⟩ := hv5
    have K5 := Lib.hid (K4.out.trans hk5); clear hk5 hd5 hn5 hs5
    go_wp2_with fail
    refine (fits_z a _ _ H5.out).mono ?_; rintro e w6 ⟨rfl, hk6⟩
    have K6 := Lib.hid ((K5.out.alloc _ _).trans hk6); clear hk6
    go_wp2_with fail
    refine (works_yes _).mono ?_; rintro e w' ⟨rfl, n, rfl⟩
    go_wp2_with fail
    go_ret
    exact ⟨rfl, (K6.out.drewN _).grown⟩

set_option maxHeartbeats 1000000 in
theorem div_walk_n (a b : Int) (w : World) (ha : -9223372036854775808 ≤ a ∧ a ≤ 9223372036854775807) (hb : -9223372036854775808 ≤ b ∧ b ≤ 9223372036854775807) (hg : ¬ (a = -9223372036854775808 ∧ b = -1)) (hp : b < 0) :
    Calls Try.prog 4 #[.int .i64 a, .int .i64 b] w fun e w' => e = .returned (.bool true) ∧ Grown w w' := by
  have hq := dq_fits a b ha (by omega) hg
  have hr := dr_fits a b hb (by omega)
  have hrr := dr_range a b (by omega)
  have hqr := dq_dr a b
  have hpq : (dq a b * b).natAbs ≤ 340282366920938463463374607431768211456 := by omega
  have hb0 : (b == 0) = false := beq_eq_false_iff_ne.2 (by omega)
  obtain ⟨q, hq'⟩ : ∃ q, dq a b = q := ⟨_, rfl⟩
  obtain ⟨r, hr'⟩ : ∃ r, dr a b = r := ⟨_, rfl⟩
  have c0 := fun w => div_yes a b w ha hb (by omega) hg
  rw [hq', hr'] at c0
  rw [hq'] at hq hqr hpq
  rw [hr'] at hr hrr hqr
  have C0 := Lib.hid c0; have HQ := Lib.hid hqr; have HP := Lib.hid hpq
  have hr3 : r ≤ 0 ∧ b < r := by omega
  have hg1 : (b == -1) = false ∨ (b == -1) = true ∧ (a == -9223372036854775808) = false := by
    by_cases h : b = -1
    · exact .inr ⟨beq_iff_eq.2 h, beq_eq_false_iff_ne.2 fun h' => hg ⟨h', h⟩⟩
    · exact .inl (beq_eq_false_iff_ne.2 h)
  have hfa : fits a = true := fits_yes ha
  have haa : (fit a == a) = true := beq_iff_eq.2 (fit_yes hfa)
  clear c0 hqr hpq hq' hr' hg hrr
  rcases hg1 with hg1 | ⟨hg1, hg2⟩
  all_goals
    go_enter Try.func4, Try.ntmps4
    go_wp2_with fail
    refine (C0.out _).mono ?_; rintro e w' ⟨rfl, n0, rfl⟩
    go_wp2_with fail
    refine (of_z q _ hq).mono ?_; rintro e w1 ⟨v1, hv1, rfl, hk1⟩
    have H1 := Lib.hid hv1; have K1 := Lib.hid (((Keeps.refl w).drewN n0).trans hk1); clear hv1 hk1
    go_wp2_with fail
    refine (of_z b _ hb).mono ?_; rintro e w2 ⟨v2, hv2, rfl, hk2⟩
    have H2 := Lib.hid hv2; have K2 := Lib.hid (K1.out.trans hk2); clear hv2 hk2
    go_wp2_with fail
    refine (mul_z q b v1 v2 _ H1.out H2.out (by omega) (by omega)).mono ?_; rintro e w3 ⟨v3, hv3, rfl, hk3⟩
    have H3 := Lib.hid hv3; have K3 := Lib.hid (K2.out.trans hk3); clear hv3 hk3
    go_wp2_with fail
    refine (of_z r _ hr).mono ?_; rintro e w4 ⟨v4, hv4, rfl, hk4⟩
    have H4 := Lib.hid hv4; have K4 := Lib.hid (K3.out.trans hk4); clear hv4 hk4
    go_wp2_with fail
    refine (add_z (q * b) r v3 v4 _ H3.out H4.out HP.out (by omega)).mono ?_; rintro e w5 ⟨v5, hv5, rfl, hk5⟩
    rw [HQ.out] at hv5
    have H5 := Lib.hid hv5
    obtain ⟨m5, n5, ⟨d0, d1, d2, d3, d4, hd5, hn5, rfl⟩, hs5⟩ := hv5
    have K5 := Lib.hid (K4.out.trans hk5); clear hk5 hd5 hn5 hs5
    go_wp2_with fail
    refine (fits_z a _ _ H5.out).mono ?_; rintro e w6 ⟨rfl, hk6⟩
    have K6 := Lib.hid ((K5.out.alloc _ _).trans hk6); clear hk6
    go_wp2_with fail
    refine (works_yes _).mono ?_; rintro e w' ⟨rfl, n, rfl⟩
    go_wp2_with fail
    go_ret
    exact ⟨rfl, (K6.out.drewN _).grown⟩

theorem div_walk (a b : Int) (wa : (Lit.int .i64 a).wf = true) (wb : (Lit.int .i64 b).wf = true) (w : World) :
    Calls Try.prog 4 #[.int .i64 a, .int .i64 b] w fun e w' => e = .returned (.bool true) ∧ Grown w w' := by
  have ha := of_wf wa
  have hb := of_wf wb
  by_cases h0 : b = 0
  · subst h0; exact div_walk_zero a w
  by_cases h1 : a = -9223372036854775808 ∧ b = -1
  · obtain ⟨rfl, rfl⟩ := h1; exact div_walk_least w
  by_cases hp : 0 < b
  · exact div_walk_p a b w ha hb h1 hp
  · exact div_walk_n a b w ha hb h1 (by omega)

end Go.Proofs.Ytkdedagilaaldaa.Us
