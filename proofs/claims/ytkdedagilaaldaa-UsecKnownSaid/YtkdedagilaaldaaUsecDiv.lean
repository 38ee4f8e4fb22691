/-
  What usec.Div, usec.Later answer, for all arguments that are int64s.
-/
import Derived.Test.YtkdedagilaaldaaUsecCalls
namespace Go.Proofs.Ytkdedagilaaldaa.Us
open Go.RowKit

set_option maxHeartbeats 400000 in
theorem div_zero (a : Int) (w : World) :
    Calls Try.prog 18 #[.int .i64 a, .int .i64 0] w fun e w' => e = .returned (.tuple #[.int .i64 0, .int .i64 0, .bool false]) ∧ w = w' := by
  go_enter Try.func18, Try.ntmps18
  go_wp2_with fail
  go_ret3
  exact ⟨rfl, rfl⟩

set_option maxHeartbeats 400000 in
theorem div_least (w : World) :
    Calls Try.prog 18 #[.int .i64 (-9223372036854775808), .int .i64 (-1)] w fun e w' => e = .returned (.tuple #[.int .i64 0, .int .i64 0, .bool false]) ∧ w = w' := by
  go_enter Try.func18, Try.ntmps18
  go_wp2_with fail
  go_ret3
  exact ⟨rfl, rfl⟩

theorem ret_three {k l : IntKind} {a b c d : Int} {x : Bool} (h : a = b) (h' : c = d) : Ending.returned (.tuple #[.int k a, .int l c, .bool x]) = .returned (.tuple #[.int k b, .int l d, .bool x]) := by rw [h, h']

set_option maxHeartbeats 400000 in
theorem div_whole (a b : Int) (w : World) (ha : -9223372036854775808 ≤ a ∧ a ≤ 9223372036854775807) (hb : -9223372036854775808 ≤ b ∧ b ≤ 9223372036854775807)
    (hbn : ¬ b = 0) (hg : (a == -9223372036854775808) = false ∨ (a == -9223372036854775808) = true ∧ (b == -1) = false) (hm : a.tmod b = 0) :
    Calls Try.prog 18 #[.int .i64 a, .int .i64 b] w fun e w' => e = .returned (.tuple #[.int .i64 (dq a b), .int .i64 (dr a b), .bool true]) ∧ ∃ n, w' = w.drewN n := by
  have hb0 : (b == 0) = false := by rw [beq_eq_false_iff_ne]; exact hbn
  have hq := tdiv_range a b ha hbn (by rintro ⟨rfl, rfl⟩; rcases hg with h | ⟨_, h⟩ <;> simp at h)
  have ht : turns a b = false := by unfold turns; rw [hm]; simp
  have e1 : a.tdiv b = dq a b := by unfold dq; rw [ht]; rfl
  have e2 : a.tmod b = dr a b := by unfold dr; rw [ht]; rfl
  have hm' : (a.tmod b != 0) = false := by rw [hm]; rfl
  have E1 := Lib.hid e1; have E2 := Lib.hid e2
  clear e1 e2 hm ht
  rcases hg with hg | ⟨hg, hg'⟩
  all_goals
    go_enter Try.func18, Try.ntmps18
    go_wp2_with fail
    go_quiet (fail)
    go_wp2_with fail
    go_ret3
    exact ⟨ret_three E1.out E2.out, _, rfl⟩

set_option maxHeartbeats 400000 in
theorem div_turns (a b : Int) (w : World) (ha : -9223372036854775808 ≤ a ∧ a ≤ 9223372036854775807) (hb : -9223372036854775808 ≤ b ∧ b ≤ 9223372036854775807)
    (hbn : ¬ b = 0) (hg : (a == -9223372036854775808) = false ∨ (a == -9223372036854775808) = true ∧ (b == -1) = false) (hm : a.tmod b ≠ 0) (hs : ¬ (a.tmod b < 0 ↔ b < 0)) :
    Calls Try.prog 18 #[.int .i64 a, .int .i64 b] w fun e w' => e = .returned (.tuple #[.int .i64 (dq a b), .int .i64 (dr a b), .bool true]) ∧ ∃ n, w' = w.drewN n := by
  have hb0 : (b == 0) = false := by rw [beq_eq_false_iff_ne]; exact hbn
  have hq := tdiv_range a b ha hbn (by rintro ⟨rfl, rfl⟩; rcases hg with h | ⟨_, h⟩ <;> simp at h)
  have hr := tmod_range a b hbn
  have hr' : -9223372036854775808 ≤ a.tmod b ∧ a.tmod b ≤ 9223372036854775807 := by omega
  have ht : turns a b = true := by unfold turns; exact decide_eq_true ⟨hm, hs⟩
  have e1 : a.tdiv b - 1 = dq a b := by unfold dq; rw [ht]; rfl
  have e2 : a.tmod b + b = dr a b := by unfold dr; rw [ht]; rfl
  have hm' : (a.tmod b != 0) = true := by rw [bne_iff_ne]; exact hm
  have hq2 := turns_range a b ha hbn ht
  have hr2 : -9223372036854775808 ≤ a.tmod b + b ∧ a.tmod b + b ≤ 9223372036854775807 := by omega
  have hx := (xor_neg (a.tmod b) b hr' hb).2 hs
  have E1 := Lib.hid e1; have E2 := Lib.hid e2; have HX := Lib.hid hx
  clear e1 e2 hm ht hx hr
  rcases hg with hg | ⟨hg, hg'⟩
  all_goals
    go_enter Try.func18, Try.ntmps18
    go_wp2_with fail
    go_quiet (fail)
    go_wp2_with fail
    refine (sign_yes _ _ (bits_range _ _ _) HX.out).mono ?_; rintro e w' ⟨rfl, rfl⟩
    go_wp2_with fail
    go_ret3
    exact ⟨ret_three E1.out E2.out, _, rfl⟩

set_option maxHeartbeats 400000 in
theorem div_keeps (a b : Int) (w : World) (ha : -9223372036854775808 ≤ a ∧ a ≤ 9223372036854775807) (hb : -9223372036854775808 ≤ b ∧ b ≤ 9223372036854775807)
    (hbn : ¬ b = 0) (hg : (a == -9223372036854775808) = false ∨ (a == -9223372036854775808) = true ∧ (b == -1) = false) (hm : a.tmod b ≠ 0) (hs : (a.tmod b < 0 ↔ b < 0)) :
    Calls Try.prog 18 #[.int .i64 a, .int .i64 b] w fun e w' => e = .returned (.tuple #[.int .i64 (dq a b), .int .i64 (dr a b), .bool true]) ∧ ∃ n, w' = w.drewN n := by
  have hb0 : (b == 0) = false := by rw [beq_eq_false_iff_ne]; exact hbn
  have hq := tdiv_range a b ha hbn (by rintro ⟨rfl, rfl⟩; rcases hg with h | ⟨_, h⟩ <;> simp at h)
  have hr := tmod_range a b hbn
  have hr' : -9223372036854775808 ≤ a.tmod b ∧ a.tmod b ≤ 9223372036854775807 := by omega
  have ht : turns a b = false := by unfold turns; exact decide_eq_false (fun h => h.2 hs)
  have e1 : a.tdiv b = dq a b := by unfold dq; rw [ht]; rfl
  have e2 : a.tmod b = dr a b := by unfold dr; rw [ht]; rfl
  have hm' : (a.tmod b != 0) = true := by rw [bne_iff_ne]; exact hm
  have hx := fun h : bits .xor .i64 (a.tmod b) b < 0 => (xor_neg (a.tmod b) b hr' hb).1 h hs
  have E1 := Lib.hid e1; have E2 := Lib.hid e2; have HX := Lib.hid hx
  clear e1 e2 hm ht hx hr
  rcases hg with hg | ⟨hg, hg'⟩
  all_goals
    go_enter Try.func18, Try.ntmps18
    go_wp2_with fail
    go_quiet (fail)
    go_wp2_with fail
    refine (sign_no _ _ (bits_range _ _ _) HX.out).mono ?_; rintro e w' ⟨rfl, rfl⟩
    go_wp2_with fail
    go_ret3
    exact ⟨ret_three E1.out E2.out, _, rfl⟩

theorem div_yes (a b : Int) (w : World) (ha : -9223372036854775808 ≤ a ∧ a ≤ 9223372036854775807) (hb : -9223372036854775808 ≤ b ∧ b ≤ 9223372036854775807)
    (hbn : ¬ b = 0) (hg : ¬ (a = -9223372036854775808 ∧ b = -1)) :
    Calls Try.prog 18 #[.int .i64 a, .int .i64 b] w fun e w' => e = .returned (.tuple #[.int .i64 (dq a b), .int .i64 (dr a b), .bool true]) ∧ ∃ n, w' = w.drewN n := by
  have hg' : (a == -9223372036854775808) = false ∨ (a == -9223372036854775808) = true ∧ (b == -1) = false := by
    by_cases h : a = -9223372036854775808
    · exact .inr ⟨beq_iff_eq.2 h, beq_eq_false_iff_ne.2 fun h' => hg ⟨h, h'⟩⟩
    · exact .inl (beq_eq_false_iff_ne.2 h)
  by_cases hm : a.tmod b = 0
  · exact div_whole a b w ha hb hbn hg' hm
  · by_cases hs : (a.tmod b < 0 ↔ b < 0)
    · exact div_keeps a b w ha hb hbn hg' hm hs
    · exact div_turns a b w ha hb hbn hg' hm hs

/-- What Later is. -/
def laterV (t s : Int) : Int := if t = 9223372036854775807 ∨ s = 9223372036854775807 then 9223372036854775807 else if fits (t + max s 0) then t + max s 0 else 9223372036854775807

set_option maxHeartbeats 400000 in
theorem later_first (s : Int) (w : World) :
    Calls Try.prog 21 #[.int .i64 9223372036854775807, .int .i64 s] w fun e w' => e = .returned (.int .i64 9223372036854775807) ∧ w = w' := by
  go_enter Try.func21, Try.ntmps21
  go_wp2_with fail
  go_ret
  exact ⟨rfl, rfl⟩

set_option maxHeartbeats 400000 in
theorem later_second (t : Int) (w : World) (ht : (t == 9223372036854775807) = false) :
    Calls Try.prog 21 #[.int .i64 t, .int .i64 9223372036854775807] w fun e w' => e = .returned (.int .i64 9223372036854775807) ∧ w = w' := by
  go_enter Try.func21, Try.ntmps21
  go_wp2_with fail
  go_ret
  exact ⟨rfl, rfl⟩

set_option maxHeartbeats 400000 in
theorem later_sum (t s : Int) (w : World) (ht : -9223372036854775808 ≤ t ∧ t ≤ 9223372036854775807) (hs : -9223372036854775808 ≤ s ∧ s ≤ 9223372036854775807)
    (h1 : (t == 9223372036854775807) = false) (h2 : (s == 9223372036854775807) = false) (h3 : 0 ≤ s) (hf : fits (t + s) = true) :
    Calls Try.prog 21 #[.int .i64 t, .int .i64 s] w fun e w' => e = .returned (.int .i64 (t + s)) ∧ w = w' := by
  have HF := Lib.hid hf; clear hf
  go_enter Try.func21, Try.ntmps21
  go_wp2_with fail
  refine (add_yes _ _ _ ht hs HF.out).mono ?_; rintro e w' ⟨rfl, rfl⟩
  go_wp2_with fail
  go_ret
  exact ⟨rfl, rfl⟩

set_option maxHeartbeats 400000 in
theorem later_none (t s : Int) (w : World) (ht : -9223372036854775808 ≤ t ∧ t ≤ 9223372036854775807) (hs : -9223372036854775808 ≤ s ∧ s ≤ 9223372036854775807)
    (h1 : (t == 9223372036854775807) = false) (h2 : (s == 9223372036854775807) = false) (h3 : 0 ≤ s) (hf : fits (t + s) = false) :
    Calls Try.prog 21 #[.int .i64 t, .int .i64 s] w fun e w' => e = .returned (.int .i64 9223372036854775807) ∧ w = w' := by
  have HF := Lib.hid hf; clear hf
  go_enter Try.func21, Try.ntmps21
  go_wp2_with fail
  refine (add_no _ _ _ ht hs HF.out).mono ?_; rintro e w' ⟨rfl, rfl⟩
  go_wp2_with fail
  go_ret
  exact ⟨rfl, rfl⟩

set_option maxHeartbeats 400000 in
theorem later_below (t s : Int) (w : World) (ht : -9223372036854775808 ≤ t ∧ t ≤ 9223372036854775807) (_hs : -9223372036854775808 ≤ s ∧ s ≤ 9223372036854775807)
    (h1 : (t == 9223372036854775807) = false) (h2 : (s == 9223372036854775807) = false) (h3 : s < 0) :
    Calls Try.prog 21 #[.int .i64 t, .int .i64 s] w fun e w' => e = .returned (.int .i64 t) ∧ w = w' := by
  go_enter Try.func21, Try.ntmps21
  go_wp2_with fail
  refine (add_yes _ _ _ ht (by omega) (fits_yes (by omega))).mono ?_; rintro e w' ⟨rfl, rfl⟩
  go_wp2_with fail
  go_ret
  exact ⟨ret_int (by omega), rfl⟩

theorem later_any (t s : Int) (w : World) (ht : -9223372036854775808 ≤ t ∧ t ≤ 9223372036854775807) (hs : -9223372036854775808 ≤ s ∧ s ≤ 9223372036854775807) :
    Calls Try.prog 21 #[.int .i64 t, .int .i64 s] w fun e w' => e = .returned (.int .i64 (laterV t s)) ∧ w = w' := by
  unfold laterV
  by_cases h1 : t = 9223372036854775807
  · subst h1; rw [if_pos (.inl rfl)]; exact later_first s w
  have h1' : (t == 9223372036854775807) = false := beq_eq_false_iff_ne.2 h1
  by_cases h2 : s = 9223372036854775807
  · subst h2; rw [if_pos (.inr rfl)]; exact later_second t w h1'
  have h2' : (s == 9223372036854775807) = false := beq_eq_false_iff_ne.2 h2
  rw [if_neg (by rintro (h | h) <;> contradiction)]
  by_cases h3 : 0 ≤ s
  · rw [show max s 0 = s by omega]
    cases hf : fits (t + s)
    · exact later_none t s w ht hs h1' h2' h3 hf
    · exact later_sum t s w ht hs h1' h2' h3 hf
  · rw [show max s 0 = 0 by omega, fits_yes (by omega), show t + 0 = t by omega]
    exact later_below t s w ht hs h1' h2' (by omega)

theorem laterV_fits (t s : Int) : -9223372036854775808 ≤ laterV t s ∧ laterV t s ≤ 9223372036854775807 := by
  unfold laterV
  split
  · omega
  · split
    · exact of_fits ‹_›
    · omega

/-- works: the chapter's examples. -/
theorem works_yes (w : World) :
    Calls Try.prog 17 #[] w fun e w' => e = .returned (.bool true) ∧ ∃ n, w' = w.drewN n := by
  go_enter Try.func17, Try.ntmps17
  go_wp2_with fail
  refine (div_yes _ _ _ (by omega) (by omega) (by omega) (by omega)).mono ?_
  rw [show dq (-7) 2 = -4 by decide, show dr (-7) 2 = 1 by decide]
  rintro e w' ⟨rfl, n, rfl⟩
  go_wp2_with fail
  refine (div_least _).mono ?_; rintro e w' ⟨rfl, rfl⟩
  go_wp2_with fail
  refine (later_second 5 _ (by decide)).mono ?_; rintro e w' ⟨rfl, rfl⟩
  go_wp2_with fail
  refine (later_sum 5 6 _ (by omega) (by omega) (by decide) (by decide) (by omega) (fits_yes (by omega))).mono ?_; rintro e w' ⟨rfl, rfl⟩
  go_wp2_with fail
  go_ret
  exact ⟨rfl, _, rfl⟩

end Go.Proofs.Ytkdedagilaaldaa.Us
