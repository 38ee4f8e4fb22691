/-
  Layer 7 (footer): the document's own years.
-/
import Derived.Test.YtkfhipkcnocokaaDoorFoTurn
import Derived.Test.YtkfhipkcnocokaaDoorFoText
namespace Go.Proofs.YtkfhipkcnocokaaDoor.Fo
open Go.RowKit
set_option maxRecDepth 100000

theorem tm_pos {a b : Int} (h : 0 ≤ a) : a.tmod b = a % b := Int.tmod_eq_emod_of_nonneg h
set_option maxHeartbeats 400000 in
theorem dleap_a (y : Int) (w : World) (h : (y.tmod 4 == 0) = false) :
    Calls Tryd.prog 47 #[.int .i64 y] w fun e w' => e = .returned (.bool false) ∧ w = w' := by
  go_enter Tryd.func47, Tryd.ntmps47
  go_wp2
  go_ret
  exact ⟨rfl, rfl⟩
set_option maxHeartbeats 400000 in
theorem dleap_b (y : Int) (w : World) (h : (y.tmod 4 == 0) = true) (h2 : (y.tmod 100 != 0) = true) :
    Calls Tryd.prog 47 #[.int .i64 y] w fun e w' => e = .returned (.bool true) ∧ w = w' := by
  go_enter Tryd.func47, Tryd.ntmps47
  go_wp2
  go_ret
  exact ⟨rfl, rfl⟩
set_option maxHeartbeats 400000 in
theorem dleap_c (y : Int) (c : Bool) (w : World) (h : (y.tmod 4 == 0) = true) (h2 : (y.tmod 100 != 0) = false) (h3 : (y.tmod 400 == 0) = c) :
    Calls Tryd.prog 47 #[.int .i64 y] w fun e w' => e = .returned (.bool c) ∧ w = w' := by
  subst h3
  go_enter Tryd.func47, Tryd.ntmps47
  go_wp2
  go_ret
  exact ⟨rfl, rfl⟩
theorem dleap_any (y : Int) (h0 : 0 ≤ y) (w : World) :
    Calls Tryd.prog 47 #[.int .i64 y] w fun e w' => e = .returned (.bool (Cv.leap y)) ∧ w = w' := by
  unfold Cv.leap
  rw [← tm_pos h0 (b := 4), ← tm_pos h0 (b := 100), ← tm_pos h0 (b := 400)]
  cases h : (y.tmod 4 == 0)
  · exact dleap_a y w h
  · cases h2 : (y.tmod 100 != 0)
    · exact dleap_c y _ w h h2 rfl
    · exact dleap_b y w h h2
theorem dleap_at (y : Int) (c : Bool) (h0 : 0 ≤ y) (h : Cv.leap y = c) (w : World) :
    Calls Tryd.prog 47 #[.int .i64 y] w fun e w' => e = .returned (.bool c) ∧ w = w' := by
  subst h; exact dleap_any y h0 w
set_option maxHeartbeats 1600000 in
theorem dlong_30 (y m : Int) (hm : m = 4 ∨ m = 6 ∨ m = 9 ∨ m = 11) (w : World) :
    Calls Tryd.prog 48 #[.int .i64 y, .int .i64 m] w fun e w' => e = .returned (.int .i64 30) ∧ w = w' := by
  rcases hm with rfl | rfl | rfl | rfl
  all_goals
    go_enter Tryd.func48, Tryd.ntmps48
    go_wp2
    go_ret
    exact ⟨rfl, rfl⟩
set_option maxHeartbeats 1600000 in
theorem dlong_31 (y m : Int) (hm : m = 1 ∨ m = 3 ∨ m = 5 ∨ m = 7 ∨ m = 8 ∨ m = 10 ∨ m = 12) (w : World) :
    Calls Tryd.prog 48 #[.int .i64 y, .int .i64 m] w fun e w' => e = .returned (.int .i64 31) ∧ w = w' := by
  rcases hm with rfl | rfl | rfl | rfl | rfl | rfl | rfl
  all_goals
    go_enter Tryd.func48, Tryd.ntmps48
    go_wp2
    go_ret
    exact ⟨rfl, rfl⟩
set_option maxHeartbeats 1600000 in
theorem dlong_28 (y : Int) (c : Bool) (v : Int) (h0 : 0 ≤ y) (h : Cv.leap y = c) (hv : v = if c then 29 else 28) (w : World) :
    Calls Tryd.prog 48 #[.int .i64 y, .int .i64 2] w fun e w' => e = .returned (.int .i64 v) ∧ w = w' := by
  have HL := Lib.hid (dleap_at y c h0 h)
  clear h h0
  cases c with
  | true =>
    obtain rfl : v = 29 := hv
    go_enter Tryd.func48, Tryd.ntmps48
    go_wp2_with (first | (go_at_call 47; refine (HL.out _).mono ?_; clear HL; rintro e V ⟨rfl, rfl⟩) | fail)
    go_ret
    exact ⟨rfl, rfl⟩
  | false =>
    obtain rfl : v = 28 := hv
    go_enter Tryd.func48, Tryd.ntmps48
    go_wp2_with (first | (go_at_call 47; refine (HL.out _).mono ?_; clear HL; rintro e V ⟨rfl, rfl⟩) | fail)
    go_ret
    exact ⟨rfl, rfl⟩
theorem dlong_any (y m : Int) (h0 : 0 ≤ y) (h1 : 1 ≤ m) (h2 : m ≤ 12) (w : World) :
    Calls Tryd.prog 48 #[.int .i64 y, .int .i64 m] w fun e w' => e = .returned (.int .i64 (Cv.ml y m)) ∧ w = w' := by
  by_cases hf : m = 2
  · subst hf
    exact dlong_28 y _ _ h0 rfl (by unfold Cv.ml Cv.lp; rw [if_pos rfl]; split <;> rfl) w
  · by_cases h3 : m = 4 ∨ m = 6 ∨ m = 9 ∨ m = 11
    · have e : Cv.ml y m = 30 := by unfold Cv.ml Cv.mtab; rw [if_neg hf, if_neg hf, if_pos h3]
      rw [e]; exact dlong_30 y m h3 w
    · have e : Cv.ml y m = 31 := by unfold Cv.ml Cv.mtab; rw [if_neg hf, if_neg hf, if_neg h3]
      rw [e]; exact dlong_31 y m (by omega) w
theorem dlong_at (y m v : Int) (h0 : 0 ≤ y) (h1 : 1 ≤ m) (h2 : m ≤ 12) (h : Cv.ml y m = v) (w : World) :
    Calls Tryd.prog 48 #[.int .i64 y, .int .i64 m] w fun e w' => e = .returned (.int .i64 v) ∧ w = w' := by
  subst h; exact dlong_any y m h0 h1 h2 w
/-- What a quotient is, downward. -/
theorem floor_yes {a : Int} (h : a.tmod 86400 < 0) : a / 86400 = a.tdiv 86400 - 1 := by
  have h1 := Int.mul_tdiv_add_tmod a 86400
  have h2 := Int.lt_tmod_of_pos a (show (0 : Int) < 86400 by decide)
  omega
theorem floor_no {a : Int} (h : ¬ a.tmod 86400 < 0) : a / 86400 = a.tdiv 86400 := by
  have h1 := Int.mul_tdiv_add_tmod a 86400
  have h2 := Int.tmod_lt_of_pos a (show (0 : Int) < 86400 by decide)
  omega
set_option maxHeartbeats 800000 in
theorem dfloor_any (a : Int) (h0 : -1000000000000 ≤ a) (h1 : a ≤ 1000000000000) (w : World) :
    Calls Tryd.prog 42 #[.int .i64 a, .int .i64 86400] w fun e w' => e = .returned (.int .i64 (a / 86400)) ∧ w = w' := by
  by_cases h : a.tmod 86400 < 0
  · obtain ⟨q, hq⟩ : ∃ q, a.tdiv 86400 = q := ⟨_, rfl⟩
    have e := floor_yes h
    rw [hq] at e
    rw [e]
    have hb : -100000000 ≤ q ∧ q ≤ 100000000 := by omega
    have w1 : wrap64 q = q := w_id (by omega) (by omega)
    have w2 : wrap64 (q - 1) = q - 1 := w_id (by omega) (by omega)
    clear e
    go_enter Tryd.func42, Tryd.ntmps42
    go_wp2
    go_ret
    exact ⟨rfl, rfl⟩
  · obtain ⟨q, hq⟩ : ∃ q, a.tdiv 86400 = q := ⟨_, rfl⟩
    have e := floor_no h
    rw [hq] at e
    rw [e]
    have hb : -100000000 ≤ q ∧ q ≤ 100000000 := by omega
    have w1 : wrap64 q = q := w_id (by omega) (by omega)
    clear e
    go_enter Tryd.func42, Tryd.ntmps42
    go_wp2
    go_ret
    exact ⟨rfl, rfl⟩
/-- What leap adds. -/
theorem dby_leap {y : Int} (h : Cv.leap y = true) : Cv.dby (y + 1) = Cv.dby y + 366 := by rw [Cv.dby_succ]; unfold Cv.yl Cv.lp; rw [h]; simp
theorem dby_noleap {y : Int} (h : Cv.leap y = false) : Cv.dby (y + 1) = Cv.dby y + 365 := by rw [Cv.dby_succ]; unfold Cv.yl Cv.lp; rw [h]; simp
/-- A year begins as many days behind 1970. -/
def bg (y : Int) : Int := Cv.dby y - 719162
theorem bg_bd {y : Int} (h0 : 0 ≤ y) (h1 : y ≤ 10000) : -800000 ≤ bg y ∧ bg y ≤ 3000000 := by unfold bg Cv.dby; omega
theorem bg_leap {y : Int} (h : Cv.leap y = true) : bg (y + 1) = bg y + 366 := by unfold bg; rw [dby_leap h]; omega
theorem bg_noleap {y : Int} (h : Cv.leap y = false) : bg (y + 1) = bg y + 365 := by unfold bg; rw [dby_noleap h]; omega
theorem bg_1970 : bg 1970 = 0 := by decide
set_option maxHeartbeats 1600000 in
theorem begins_up (y : Int) (h0 : 1970 ≤ y) (h1 : y ≤ 10000) (w : World) :
    Calls Tryd.prog 46 #[.int .i64 y] w fun e w' => e = .returned (.int .i64 (bg y)) ∧ w = w' := by
  go_enter Tryd.func46, Tryd.ntmps46
  go_wp2
  go_loop [3, 4] (fun n k => ∃ j : Int, 1970 ≤ j ∧ j ≤ y ∧ n = .int .i64 (bg j) ∧ k = .int .i64 j) (fun _ k => (y - intOf k).toNat)
  case atStart => exact ⟨1970, by omega, h0, by rw [bg_1970], rfl⟩
  case round =>
    obtain ⟨j, a, b, rfl, rfl⟩ := hrel
    by_cases hlt : j < y
    · have hb := bg_bd (y := j) (by omega) (by omega)
      have wj : wrap64 (j + 1) = j + 1 := w_id (by omega) (by omega)
      cases hl : Cv.leap j with
      | true =>
        have HL := Lib.hid (dleap_at j true (by omega) hl)
        have HN := Lib.hid (bg_leap hl)
        have w1 : wrap64 (bg j + 365) = bg j + 365 := w_id (by omega) (by omega)
        have w2 : wrap64 (bg j + 365 + 1) = bg j + 365 + 1 := w_id (by omega) (by omega)
        clear hl
        go_wp2_with (first | (go_at_call 47; refine (HL.out _).mono ?_; clear HL; rintro e V ⟨rfl, rfl⟩) | fail)
        go_round
        case rel => exact ⟨j + 1, by omega, by omega, by rw [HN.out]; congr 1; omega, rfl⟩
        case measure => simp only [intOf]; omega
      | false =>
        have HL := Lib.hid (dleap_at j false (by omega) hl)
        have HN := Lib.hid (bg_noleap hl)
        have w1 : wrap64 (bg j + 365) = bg j + 365 := w_id (by omega) (by omega)
        clear hl
        go_wp2_with (first | (go_at_call 47; refine (HL.out _).mono ?_; clear HL; rintro e V ⟨rfl, rfl⟩) | fail)
        go_round
        case rel => exact ⟨j + 1, by omega, by omega, by rw [HN.out], rfl⟩
        case measure => simp only [intOf]; omega
    · obtain rfl : j = y := by omega
      have nl : ¬ j < 1970 := by omega
      go_wp2
      go_loop [3, 5] (fun n k => n = .int .i64 (bg j) ∧ k = .int .i64 j) (fun _ _ => 0)
      case atStart => exact ⟨rfl, rfl⟩
      case round =>
        obtain ⟨rfl, rfl⟩ := hrel
        go_wp2
        go_ret
        exact ⟨rfl, rfl⟩
set_option maxHeartbeats 1600000 in
theorem begins_down (y : Int) (h0 : 0 ≤ y) (h1 : y < 1970) (w : World) :
    Calls Tryd.prog 46 #[.int .i64 y] w fun e w' => e = .returned (.int .i64 (bg y)) ∧ w = w' := by
  have nl : ¬ 1970 < y := by omega
  go_enter Tryd.func46, Tryd.ntmps46
  go_wp2
  go_loop [3, 4] (fun n k => n = .int .i64 0 ∧ k = .int .i64 1970) (fun _ _ => 0)
  case atStart => exact ⟨rfl, rfl⟩
  case round =>
    obtain ⟨rfl, rfl⟩ := hrel
    go_wp2
    go_loop [3, 5] (fun n k => ∃ j : Int, y ≤ j ∧ j ≤ 1970 ∧ n = .int .i64 (bg y - bg j) ∧ k = .int .i64 j) (fun _ k => (1970 - intOf k).toNat)
    case atStart => exact ⟨y, by omega, by omega, by rw [Int.sub_self], rfl⟩
    case round =>
      obtain ⟨j, a, b, rfl, rfl⟩ := hrel
      have by0 := bg_bd (y := y) (by omega) (by omega)
      by_cases hlt : j < 1970
      · have hb := bg_bd (y := j) (by omega) (by omega)
        have wj : wrap64 (j + 1) = j + 1 := w_id (by omega) (by omega)
        cases hl : Cv.leap j with
        | true =>
          have HL := Lib.hid (dleap_at j true (by omega) hl)
          have HN := Lib.hid (bg_leap hl)
          have w1 : wrap64 (bg y - bg j - 365) = bg y - bg j - 365 := w_id (by omega) (by omega)
          have w2 : wrap64 (bg y - bg j - 365 - 1) = bg y - bg j - 365 - 1 := w_id (by omega) (by omega)
          clear hl
          go_wp2_with (first | (go_at_call 47; refine (HL.out _).mono ?_; clear HL; rintro e V ⟨rfl, rfl⟩) | fail)
          go_round
          case rel => exact ⟨j + 1, by omega, by omega, by rw [HN.out]; congr 1; omega, rfl⟩
          case measure => simp only [intOf]; omega
        | false =>
          have HL := Lib.hid (dleap_at j false (by omega) hl)
          have HN := Lib.hid (bg_noleap hl)
          have w1 : wrap64 (bg y - bg j - 365) = bg y - bg j - 365 := w_id (by omega) (by omega)
          clear hl
          go_wp2_with (first | (go_at_call 47; refine (HL.out _).mono ?_; clear HL; rintro e V ⟨rfl, rfl⟩) | fail)
          go_round
          case rel => exact ⟨j + 1, by omega, by omega, by rw [HN.out]; congr 1; omega, rfl⟩
          case measure => simp only [intOf]; omega
      · obtain rfl : j = 1970 := by omega
        have e0 : bg y - bg 1970 = bg y := by rw [bg_1970, Int.sub_zero]
        rw [e0]
        go_wp2
        go_ret
        exact ⟨rfl, rfl⟩
theorem begins_any (y : Int) (h0 : 0 ≤ y) (h1 : y ≤ 10000) (w : World) :
    Calls Tryd.prog 46 #[.int .i64 y] w fun e w' => e = .returned (.int .i64 (bg y)) ∧ w = w' := by
  by_cases h : 1970 ≤ y
  · exact begins_up y h h1 w
  · exact begins_down y h0 (by omega) w
end Go.Proofs.YtkfhipkcnocokaaDoor.Fo
