/-
  What civil.Right, Days, Weekday answer.
-/
import Derived.Test.YtkfhipkcnocokaaDoorCvSmall
import Derived.Test.YtkfhipkcnocokaaDoorUsecFew
import Derived.IntWalk
namespace Go.Proofs.YtkfhipkcnocokaaDoor.Cv
open Go.RowKit

/-- A date as the program has it. -/
abbrev dv (y m d : Int) : Value := .agg #[.int .i64 y, .int .i64 m, .int .i64 d]

theorem ret_two {k l : IntKind} {a b c : Int} (h : a = b) : Ending.returned (.tuple #[.int k a, .int l c]) = .returned (.tuple #[.int k b, .int l c]) := by rw [h]

set_option maxHeartbeats 400000 in
theorem right_any (y m d : Int) (w : World) (ht : Tab w) :
    Calls Tryd.prog 65 #[dv y m d] w fun e w' => e = .returned (.bool (right y m d)) ∧ Below w.heap.size w w' := by
  have HT := Lib.hid ht
  have hr : (decide (1 ≤ d) && decide (d ≤ long y m)) = right y m d := rfl
  have HR := Lib.hid hr
  clear ht hr
  generalize right y m d = r at HR
  have HA := Lib.hid (HT.out.below ((Below.refl _ _).alloc (Nat.le_refl _) (.cells #[.int .i64 y, .int .i64 m, .int .i64 d] 78)) (Nat.le_refl _))
  go_enter Tryd.func65, Tryd.ntmps65
  go_wp2_with fail
  go_quiet (first | (go_at_call 67; exact quiet_mine (long_any y m _ (HA.out.drewN _))) | (go_at_call 81; exact quiet_mine (within_any d 1 (long y m) _)))
  rw [HR.out]
  go_wp2
  go_ret
  exact ⟨rfl, below_drewN ((Below.refl _ _).alloc (Nat.le_refl _) _) _⟩
theorem right_at (y m d : Int) (c : Bool) (w : World) (ht : Tab w) (h : right y m d = c) :
    Calls Tryd.prog 65 #[dv y m d] w fun e w' => e = .returned (.bool c) ∧ Below w.heap.size w w' := by
  subst h; exact right_any y m d w ht

set_option maxHeartbeats 400000 in
theorem ahead_any (y : Int) (w : World) (h : 1 ≤ y ∧ y ≤ 9999) :
    Calls Tryd.prog 66 #[.int .i64 y] w fun e w' => e = .returned (.int .i64 (dby y)) ∧ w = w' := by
  obtain ⟨h0, h1⟩ := h
  go_enter Tryd.func66, Tryd.ntmps66
  go_wp2
  go_ret
  exact ⟨ret_int (by unfold dby; omega), rfl⟩

set_option maxHeartbeats 400000 in
theorem days_no (y m d : Int) (w : World) (ht : Tab w) (h : right y m d = false) :
    Calls Tryd.prog 44 #[dv y m d] w fun e w' => e = .returned (.tuple #[.int .i64 0, .int .i64 30]) ∧ Below w.heap.size w w' := by
  have HT := Lib.hid (ht.below ((Below.refl _ _).alloc (Nat.le_refl _) (.cells #[.int .i64 y, .int .i64 m, .int .i64 d] 78)) (Nat.le_refl _))
  have H := Lib.hid h
  clear ht h
  go_enter Tryd.func44, Tryd.ntmps44
  go_wp2_with fail
  refine (right_at y m d false _ HT.out H.out).mono ?_
  rintro e w1 ⟨rfl, hB⟩
  have HB := Lib.hid hB
  clear hB
  go_wp2
  go_ret2
  exact ⟨rfl, ((Below.refl _ _).alloc (Nat.le_refl _) _).trans (HB.out.mono (by simp))⟩

set_option maxHeartbeats 1000000 in
theorem days_yes (y m d : Int) (w : World) (ht : Tab w) (h : right y m d = true) :
    Calls Tryd.prog 44 #[dv y m d] w fun e w' => e = .returned (.tuple #[.int .i64 (num y m d), .int .i64 0]) ∧ Below w.heap.size w w' := by
  have hR := (right_iff y m d).1 h
  have HT := Lib.hid (ht.below ((Below.refl _ _).alloc (Nat.le_refl _) (.cells #[.int .i64 y, .int .i64 m, .int .i64 d] 78)) (Nat.le_refl _))
  have H := Lib.hid h
  clear ht h
  obtain ⟨h1, h2, h3, h4, h5, h6⟩ := hR
  have hml := ml_bd y m
  have hdb := dby_bd y h1 (by omega)
  have HBA := Lib.hid ((Below.refl w.heap.size w).alloc (Nat.le_refl _) (.cells #[.int .i64 y, .int .i64 m, .int .i64 d] 78))
  go_enter Tryd.func44, Tryd.ntmps44
  go_wp2_with fail
  have hcy : (w.alloc (.cells #[.int .i64 y, .int .i64 m, .int .i64 d] 78)).cell? ⟨w.heap.size, 0, none⟩ = some (.int .i64 y) := by simp [go_sem]
  have hcm : (w.alloc (.cells #[.int .i64 y, .int .i64 m, .int .i64 d] 78)).cell? ⟨w.heap.size, 1, none⟩ = some (.int .i64 m) := by simp [go_sem]
  have hcd : (w.alloc (.cells #[.int .i64 y, .int .i64 m, .int .i64 d] 78)).cell? ⟨w.heap.size, 2, none⟩ = some (.int .i64 d) := by simp [go_sem]
  have hsz : (w.alloc (.cells #[.int .i64 y, .int .i64 m, .int .i64 d] 78)).heap.size = w.heap.size + 1 := by simp
  generalize w.alloc (.cells #[.int .i64 y, .int .i64 m, .int .i64 d] 78) = W at *
  generalize hBB : w.heap.size = B at *
  have HBB := Lib.hid hBB
  clear hBB
  refine (right_at y m d true _ HT.out H.out).mono ?_
  rintro e w1 ⟨rfl, hB⟩
  have HT1 := Lib.hid (HT.out.below hB (Nat.le_refl _))
  have HB1 := Lib.hid (HBA.out.trans (hB.mono (by omega)))
  have cy : w1.cell? ⟨B, 0, none⟩ = some (.int .i64 y) := by rw [hB.cell (p := ⟨B, 0, none⟩) (by show B < _; omega)]; exact hcy
  have cm : w1.cell? ⟨B, 1, none⟩ = some (.int .i64 m) := by rw [hB.cell (p := ⟨B, 1, none⟩) (by show B < _; omega)]; exact hcm
  have cd : w1.cell? ⟨B, 2, none⟩ = some (.int .i64 d) := by rw [hB.cell (p := ⟨B, 2, none⟩) (by show B < _; omega)]; exact hcd
  clear hcy hcm hcd hsz hB
  go_wp2
  have s1 : IntKind.i64.wrap (dby y + d) = dby y + d := IntWalk.i64_in _ (by omega)
  have s2 : IntKind.i64.wrap (dby y + d - 1) = dby y + d - 1 := IntWalk.i64_in _ (by omega)
  go_quiet ((go_at_call 66; exact quiet_mine (ahead_any y _ ⟨h1, h2⟩)))
  rename_i nq
  have HT2 := Lib.hid (HT1.out.below (below_drewN (Below.refl _ _) nq) (Nat.le_refl _))
  have HB2 := Lib.hid (below_drewN HB1.out nq)
  clear s1 s2
  have cy' : (w1.drewN nq).cell? ⟨B, 0, none⟩ = some (.int .i64 y) := by simpa using cy
  have cm' : (w1.drewN nq).cell? ⟨B, 1, none⟩ = some (.int .i64 m) := by simpa using cm
  clear cy cm cd HT1 HB1
  generalize w1.drewN nq = W2 at *
  go_wp2
  go_loop [4, 5] (fun s k => ∃ j : Int, 1 ≤ j ∧ j ≤ m ∧ k = .int .i64 j ∧ s = .int .i64 (dby y + cum y j + d - 1)) (fun _ k => (m - intOf k).toNat)
  case atStart => exact ⟨1, by omega, by omega, rfl, by rw [cum_one]; simp⟩
  case round =>
    obtain ⟨j, hj1, hj2, rfl, rfl⟩ := hrel
    have hcb := cum_bd y j hj1 (by omega)
    have hyl := yl_bd y
    by_cases hlt : j < m
    · have HS := Lib.hid (cum_succ y j hj1 (by omega))
      have hlj := ml_bd y j
      have HL := Lib.hid (long_in (y := y) (m := j) ⟨h1, h2, hj1, by omega⟩)
      go_wp2_with fail
      refine (long_at y j _ _ HL.out HT2.out).mono ?_
      rintro e w' ⟨rfl, rfl⟩
      go_wp2
      go_round
      case rel => exact ⟨j + 1, by omega, by omega, by go_num, by rw [HS.out]; exact congrArg _ (by omega)⟩
      case measure => simp [intOf]; omega
    · obtain rfl : j = m := by omega
      go_wp2
      go_ret2
      exact ⟨ret_two (by unfold num; omega), by rw [HBB.out]; exact HB2.out⟩

theorem days_at (y m d n : Int) (w : World) (ht : Tab w) (h : Right y m d) (hn : num y m d = n) :
    Calls Tryd.prog 44 #[dv y m d] w fun e w' => e = .returned (.tuple #[.int .i64 n, .int .i64 0]) ∧ Below w.heap.size w w' := by
  subst hn; exact days_yes y m d w ht ((right_iff y m d).2 h)

theorem div7 (a : Int) (w : World) (ha : -9223372036854775808 ≤ a ∧ a ≤ 9223372036854775807) :
    Calls Tryd.prog 79 #[.int .i64 a, .int .i64 7] w fun e w' => e = .returned (.tuple #[.int .i64 (a / 7), .int .i64 (a % 7), .bool true]) ∧ ∃ n, w' = w.drewN n := by
  have H := Us.div_yes a 7 w ha (by omega) (by omega) (by omega)
  have h1 := Us.dq_dr a 7
  have h2 := (Us.dr_range a 7 (by omega)).1 (by omega)
  rw [show Us.dq a 7 = a / 7 by omega, show Us.dr a 7 = a % 7 by omega] at H
  exact H
theorem divDay (a : Int) (w : World) (ha : -9223372036854775808 ≤ a ∧ a ≤ 9223372036854775807) :
    Calls Tryd.prog 79 #[.int .i64 a, .int .i64 86400000000] w fun e w' => e = .returned (.tuple #[.int .i64 (a / 86400000000), .int .i64 (a % 86400000000), .bool true]) ∧ ∃ n, w' = w.drewN n := by
  have H := Us.div_yes a 86400000000 w ha (by omega) (by omega) (by omega)
  have h1 := Us.dq_dr a 86400000000
  have h2 := (Us.dr_range a 86400000000 (by omega)).1 (by omega)
  rw [show Us.dq a 86400000000 = a / 86400000000 by omega, show Us.dr a 86400000000 = a % 86400000000 by omega] at H
  exact H

theorem wday_bd (n : Int) : 1 ≤ wday n ∧ wday n ≤ 7 := by unfold wday; omega
set_option maxHeartbeats 400000 in
theorem weekday_no (y m d : Int) (w : World) (ht : Tab w) (h : right y m d = false) :
    Calls Tryd.prog 68 #[dv y m d] w fun e w' => e = .returned (.int .i64 0) ∧ Below w.heap.size w w' := by
  have HT := Lib.hid (ht.below ((Below.refl _ _).alloc (Nat.le_refl _) (.cells #[.int .i64 y, .int .i64 m, .int .i64 d] 78)) (Nat.le_refl _))
  have H := Lib.hid h
  clear ht h
  go_enter Tryd.func68, Tryd.ntmps68
  go_wp2_with fail
  refine (days_no y m d _ HT.out H.out).mono ?_
  rintro e w1 ⟨rfl, hB⟩
  have HB := Lib.hid (((Below.refl _ _).alloc (Nat.le_refl _) _).trans (hB.mono (by simp)))
  clear hB
  go_wp2
  go_ret
  exact ⟨rfl, HB.out⟩
set_option maxHeartbeats 400000 in
theorem weekday_at (y m d n : Int) (w : World) (ht : Tab w) (h : Right y m d) (hn : num y m d = n) :
    Calls Tryd.prog 68 #[dv y m d] w fun e w' => e = .returned (.int .i64 (wday n)) ∧ Below w.heap.size w w' := by
  have HT := Lib.hid (ht.below ((Below.refl _ _).alloc (Nat.le_refl _) (.cells #[.int .i64 y, .int .i64 m, .int .i64 d] 78)) (Nat.le_refl _))
  have hb := num_bd h
  have H := Lib.hid h
  rw [hn] at hb
  have HN := Lib.hid hn
  clear ht h hn
  go_enter Tryd.func68, Tryd.ntmps68
  go_wp2_with fail
  refine (days_at y m d n _ HT.out H.out HN.out).mono ?_
  rintro e w1 ⟨rfl, hB⟩
  have HB := Lib.hid (((Below.refl _ _).alloc (Nat.le_refl _) _).trans (hB.mono (by simp)))
  clear hB
  go_wp2_with fail
  refine (div7 (n + 3) _ (by omega)).mono ?_
  rintro e w2 ⟨rfl, k, hk⟩
  have HK := Lib.hid hk
  clear hk
  go_wp2
  go_ret
  exact ⟨ret_int (by unfold wday; rfl), by rw [HK.out]; exact below_drewN HB.out _⟩
end Go.Proofs.YtkfhipkcnocokaaDoor.Cv
