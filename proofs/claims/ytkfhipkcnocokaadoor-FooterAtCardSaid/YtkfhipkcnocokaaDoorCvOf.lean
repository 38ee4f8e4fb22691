/-
  What civil.Of answers: the day that has so many days.
-/
import Derived.Test.YtkfhipkcnocokaaDoorCvDays
namespace Go.Proofs.YtkfhipkcnocokaaDoor.Cv
open Go.RowKit

set_option maxHeartbeats 1000000 in
theorem yearOf_any (a : Int) (w : World) (h0 : 0 ≤ a) (h1 : a ≤ 3652058) :
    Calls Tryd.prog 92 #[.int .i64 a] w fun e w' => e = .returned (.tuple #[.int .i64 (yrOf a), .int .i64 (leftOf a)]) ∧ w = w' := by
  go_enter Tryd.func92, Tryd.ntmps92
  go_wp2
  all_goals
    go_ret2
    refine ⟨Us.ret_two ?_ ?_, rfl⟩
  all_goals
    first | unfold yrOf | unfold leftOf
    simp only [Int.min_def]
    repeat' split
    all_goals first | rfl | omega

theorem yr_unique {y r y' r' : Int} (h : 0 ≤ r) (h2 : r < yl y) (h' : 0 ≤ r') (h2' : r' < yl y') (e : dby y + r = dby y' + r') : y = y' ∧ r = r' := by
  rcases Int.lt_trichotomy y y' with k | k | k
  · have := dby_mono y y' k; omega
  · subst k; exact ⟨rfl, by omega⟩
  · have := dby_mono y' y k; omega
theorem yearOf_at (y r a : Int) (w : World) (hy : 1 ≤ y ∧ y ≤ 9999) (h : 0 ≤ r) (h2 : r < yl y) (ha : dby y + r = a) :
    Calls Tryd.prog 92 #[.int .i64 a] w fun e w' => e = .returned (.tuple #[.int .i64 y, .int .i64 r]) ∧ w = w' := by
  have b1 := dby_bd y hy.1 (by omega)
  have b2 := dby_mono y (y + 1) (by omega)
  have b3 := dby_bd (y + 1) (by omega) (by omega)
  have o := yrOf_ok a (by omega) (by omega)
  have u := yr_unique o.2.2.2.1 o.2.2.2.2 h h2 (by rw [o.2.2.1, ha])
  have H := yearOf_any a w (by omega) (by omega)
  rw [u.1, u.2] at H
  exact H

set_option maxHeartbeats 400000 in
theorem of_low (n : Int) (w : World) (h : n < -719162) :
    Calls Tryd.prog 80 #[.int .i64 n] w fun e w' => e = .returned (.tuple #[dv 0 0 0, .int .i64 6]) ∧ Below w.heap.size w w' := by
  go_enter Tryd.func80, Tryd.ntmps80
  go_wp2
  exact bodyPost_ret (v := .tuple #[dv 0 0 0, .int .i64 6]) (by simp [results, Tryd.results80, go_sem]) rfl ⟨rfl, ((Below.refl _ _).alloc (Nat.le_refl _) _)⟩
set_option maxHeartbeats 400000 in
theorem of_high (n : Int) (w : World) (h : 2932896 < n) :
    Calls Tryd.prog 80 #[.int .i64 n] w fun e w' => e = .returned (.tuple #[dv 0 0 0, .int .i64 6]) ∧ Below w.heap.size w w' := by
  have h' : ¬ n < -719162 := by omega
  go_enter Tryd.func80, Tryd.ntmps80
  go_wp2
  exact bodyPost_ret (v := .tuple #[dv 0 0 0, .int .i64 6]) (by simp [results, Tryd.results80, go_sem]) rfl ⟨rfl, ((Below.refl _ _).alloc (Nat.le_refl _) _)⟩
theorem of_no (n : Int) (w : World) (h : n < -719162 ∨ 2932896 < n) :
    Calls Tryd.prog 80 #[.int .i64 n] w fun e w' => e = .returned (.tuple #[dv 0 0 0, .int .i64 6]) ∧ Below w.heap.size w w' := by
  rcases h with h | h
  · exact of_low n w h
  · exact of_high n w h

set_option maxHeartbeats 1000000 in
theorem of_yes (y m d n : Int) (w : World) (ht : Tab w) (h : Right y m d) (hn : num y m d = n) :
    Calls Tryd.prog 80 #[.int .i64 n] w fun e w' => e = .returned (.tuple #[dv y m d, .int .i64 0]) ∧ Below w.heap.size w w' := by
  have hb := num_bd h
  rw [hn] at hb
  obtain ⟨h1, h2, h3, h4, h5, h6⟩ := h
  have hcb := cum_bd y m h3 (by omega)
  have hce := cum_mono y m 13 h3 (by omega) (by omega)
  rw [cum_end] at hce
  have hml := ml_bd y m
  have hylb := yl_bd y
  have HN := Lib.hid (show dby y + (cum y m + d - 1) = n - -719162 by rw [← hn]; unfold num; omega)
  clear hn
  have HA := Lib.hid (ht.below ((Below.refl _ _).alloc (Nat.le_refl _) (.cells #[.int .i64 0, .int .i64 0, .int .i64 0] 78)) (Nat.le_refl _))
  clear ht
  have hn1 : ¬ n < -719162 := by omega
  have hn2 : ¬ 2932896 < n := by omega
  go_enter Tryd.func80, Tryd.ntmps80
  go_wp2_with fail
  refine (yearOf_at y (cum y m + d - 1) _ _ ⟨h1, h2⟩ (by omega) (by omega) HN.out).mono ?_
  rintro e w' ⟨rfl, rfl⟩
  go_wp2
  go_loop [5, 6] (fun s k => ∃ j : Int, 1 ≤ j ∧ j ≤ m ∧ k = .int .i64 j ∧ s = .int .i64 (cum y m + d - 1 - cum y j)) (fun _ k => (m - intOf k).toNat)
  case atStart => exact ⟨1, by omega, by omega, rfl, by rw [cum_one]; simp⟩
  case round =>
    obtain ⟨j, hj1, hj2, rfl, rfl⟩ := hrel
    have hjb := cum_bd y j hj1 (by omega)
    have hlj := ml_bd y j
    have HL := Lib.hid (long_in (y := y) (m := j) ⟨h1, h2, hj1, by omega⟩)
    by_cases hlt : j < m
    · have HS := Lib.hid (cum_succ y j hj1 (by omega))
      have hmo := cum_mono y j m hj1 hlt (by omega)
      go_wp2_with fail
      refine (long_at y j _ _ HL.out HA.out).mono ?_
      rintro e w' ⟨rfl, rfl⟩
      go_wp2_with fail
      refine (long_at y j _ _ HL.out HA.out).mono ?_
      rintro e w' ⟨rfl, rfl⟩
      go_wp2
      go_round
      case rel => exact ⟨j + 1, by omega, by omega, by go_num, by rw [HS.out]; exact congrArg _ (by omega)⟩
      case measure => simp [intOf]; omega
    · obtain rfl : j = m := by omega
      go_wp2_with fail
      refine (long_at y j _ _ HL.out HA.out).mono ?_
      rintro e w' ⟨rfl, rfl⟩
      go_wp2
      rw [show cum y j + d - 1 - cum y j + 1 = d by omega]
      exact bodyPost_ret (v := .tuple #[dv y j d, .int .i64 0]) (by simp [results, Tryd.results80, go_sem]) rfl ⟨rfl, ((Below.refl _ _).alloc (Nat.le_refl _) _)⟩
end Go.Proofs.YtkfhipkcnocokaaDoor.Cv
