/-
  Layer 7 (footer): the document's own year of a day.
-/
import Derived.Test.YtkfhipkcnocokaaDoorFoDoc1
namespace Go.Proofs.YtkfhipkcnocokaaDoor.Fo
open Go.RowKit
set_option maxRecDepth 100000

theorem bg_fwd (y n : Int) (hn : 0 ≤ n) : bg (y + n) ≤ bg y + 366 * n ∧ bg y ≤ bg (y + n) := by unfold bg Cv.dby; omega
theorem bg_mono {a b : Int} (h : a ≤ b) : bg a ≤ bg b := by
  have := (bg_fwd a (b - a) (by omega)).2
  rwa [show a + (b - a) = b by omega] at this
theorem bg_back {y y2 q days z : Int} (h2 : y2 = y - 1 - q) (h0 : 0 ≤ q) (h1 : 366 * q ≤ bg y - days) (hz : bg z ≤ days) (hz0 : 1600 ≤ z) : 1500 ≤ y2 := by
  have e : bg y ≤ bg y2 + 366 * (q + 1) := by
    have := (bg_fwd y2 (q + 1) (by omega)).1
    rwa [show y2 + (q + 1) = y by omega] at this
  have hz1 := bg_mono hz0
  rcases Int.lt_or_le y2 1500 with hlt | hge
  · have hy := bg_mono (show y2 ≤ 1499 by omega)
    have e1 : bg 1600 = -135140 := by decide
    have e2 : bg 1499 = -172029 := by decide
    omega
  · exact hge
set_option maxHeartbeats 1600000 in
theorem dyear_at (days z : Int) (hz : 1600 ≤ z ∧ z ≤ 5300) (h1 : bg z ≤ days) (h2 : days < bg (z + 1)) (w : World) :
    Calls Tryd.prog 41 #[.int .i64 days] w fun e w' => e = .returned (.int .i64 z) ∧ w = w' := by
  have d1 := bg_mono hz.1
  have d2 := bg_mono (show z + 1 ≤ 5301 by omega)
  have e1 : bg 1600 = -135140 := by decide
  have e2 : bg 5301 = 1216623 := by decide
  have db : -140000 ≤ days ∧ days ≤ 1300000 := by omega
  have H1 := Lib.hid h1
  have H2 := Lib.hid h2
  have HZ := Lib.hid hz
  clear d1 d2 e1 e2 h1 h2 hz
  go_enter Tryd.func41, Tryd.ntmps41
  go_wp2
  go_loop [3] (fun k => ∃ y : Int, 1500 ≤ y ∧ y ≤ 1970 ∧ k = .int .i64 y) (fun k => (intOf k).toNat)
  case atStart => exact ⟨1970, by omega, by omega, rfl⟩
  case round =>
    obtain ⟨y, a, b, rfl⟩ := hrel
    have hbd := bg_bd (y := y) (by omega) (by omega)
    have HB := Lib.hid (begins_any y (by omega) (by omega))
    have HB2 := HB
    obtain ⟨g, hg⟩ : ∃ g, bg y = g := ⟨_, rfl⟩
    rw [hg] at HB HB2 hbd
    have HG := Lib.hid hg
    clear hg
    by_cases hlt : days < g
    · obtain ⟨q, hq⟩ : ∃ q, (g - days).tdiv 366 = q := ⟨_, rfl⟩
      have hq2 := hq
      rw [Int.tdiv_eq_ediv_of_nonneg (by omega)] at hq2
      have q0 : 0 ≤ q := by omega
      have q1 : 366 * q ≤ g - days := by omega
      have q2 : q ≤ 100000 := by omega
      obtain ⟨y2, hy2⟩ : ∃ y2, y - 1 - q = y2 := ⟨_, rfl⟩
      have y20 : 1500 ≤ y2 := bg_back hy2.symm q0 (by rw [HG.out]; exact q1) H1.out HZ.out.1
      have y21 : y2 < y := by omega
      have w1 : wrap64 (g - days) = g - days := w_id (by omega) (by omega)
      have w2 : wrap64 q = q := w_id (by omega) (by omega)
      have w3 : wrap64 (y - 1) = y - 1 := w_id (by omega) (by omega)
      have w4 : wrap64 (y - 1 - q) = y2 := by rw [hy2]; exact w_id (by omega) (by omega)
      clear hq2 hy2 q0 q1 q2
      go_wp2_with (first
        | (go_at_call 46; refine (HB.out _).mono ?_; clear HB; rintro e V ⟨rfl, rfl⟩)
        | (go_at_call 46; refine (HB2.out _).mono ?_; clear HB2; rintro e V ⟨rfl, rfl⟩)
        | fail)
      go_round
      case rel => exact ⟨y2, y20, by omega, by first | rfl | rw [w4]⟩
      case measure => simp only [intOf]; omega
    · clear HB2
      go_wp2_with (first
        | (go_at_call 46; refine (HB.out _).mono ?_; clear HB; rintro e V ⟨rfl, rfl⟩)
        | fail)
      have ha : y ≤ z := by
        rcases Int.lt_or_le z y with h | h
        · have := bg_mono (show z + 1 ≤ y by omega)
          have := H2.out
          have := HG.out
          omega
        · exact h
      have HD : Hid (bg y ≤ days) := Lib.hid (by rw [HG.out]; omega)
      clear hlt hbd HG
      go_loop [3] (fun k => ∃ x : Int, 1500 ≤ x ∧ x ≤ z ∧ bg x ≤ days ∧ k = .int .i64 x) (fun k => (z - intOf k).toNat)
      case atStart => exact ⟨y, a, ha, HD.out, rfl⟩
      case round =>
        obtain ⟨x, x0, x1, x2, rfl⟩ := hrel
        have X2 := Lib.hid x2
        obtain ⟨z0, z1⟩ := HZ.out
        have hbd := bg_bd (y := x + 1) (by omega) (by omega)
        have HB := Lib.hid (begins_any (x + 1) (by omega) (by omega))
        have HB2 := HB
        obtain ⟨g, hg⟩ : ∃ g, bg (x + 1) = g := ⟨_, rfl⟩
        rw [hg] at HB HB2 hbd
        have HG := Lib.hid hg
        have w0 : wrap64 (x + 1) = x + 1 := w_id (by omega) (by omega)
        clear hg x2
        by_cases hle : g ≤ days
        · obtain ⟨q, hq⟩ : ∃ q, (days - g).tdiv 366 = q := ⟨_, rfl⟩
          have hq2 := hq
          rw [Int.tdiv_eq_ediv_of_nonneg (by omega)] at hq2
          have q0 : 0 ≤ q := by omega
          have q1 : 366 * q ≤ days - g := by omega
          have q2 : q ≤ 100000 := by omega
          obtain ⟨y2, hy2⟩ : ∃ y2, x + 1 + q = y2 := ⟨_, rfl⟩
          have hb2 : bg y2 ≤ days := by
            have := (bg_fwd (x + 1) q q0).1
            rw [hy2, HG.out] at this
            omega
          have HB3 := Lib.hid hb2
          have y20 : y2 ≤ z := by
            rcases Int.lt_or_le z y2 with h | h
            · have := bg_mono (show z + 1 ≤ y2 by omega)
              have := H2.out
              omega
            · exact h
          have y21 : x < y2 := by omega
          have w1 : wrap64 (days - g) = days - g := w_id (by omega) (by omega)
          have w2 : wrap64 q = q := w_id (by omega) (by omega)
          have w4 : wrap64 (x + 1 + q) = y2 := by rw [hy2]; exact w_id (by omega) (by omega)
          clear hq2 hy2 q0 q1 q2 hb2
          go_wp2_with (first
            | (go_at_call 46; refine (HB.out _).mono ?_; clear HB; rintro e V ⟨rfl, rfl⟩)
            | (go_at_call 46; refine (HB2.out _).mono ?_; clear HB2; rintro e V ⟨rfl, rfl⟩)
            | fail)
          go_round
          case rel => exact ⟨y2, by omega, y20, HB3.out, by first | rfl | rw [w4]⟩
          case measure => simp only [intOf]; omega
        · have hxz : x = z := by
            rcases Int.lt_or_le x z with h | h
            · have := bg_mono (show x + 1 ≤ z by omega)
              have := H1.out
              have := HG.out
              omega
            · omega
          subst hxz
          clear HB2
          go_wp2_with (first
            | (go_at_call 46; refine (HB.out _).mono ?_; clear HB; rintro e V ⟨rfl, rfl⟩)
            | fail)
          go_ret
          exact ⟨rfl, rfl⟩
end Go.Proofs.YtkfhipkcnocokaaDoor.Fo
