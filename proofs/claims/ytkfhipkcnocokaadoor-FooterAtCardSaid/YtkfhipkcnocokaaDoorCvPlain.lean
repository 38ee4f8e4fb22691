/-
  The calendar over whole numbers: what the words of the chapter mean. Nothing of the program stands here.
-/
import Derived.ProofKit
namespace Go.Proofs.YtkfhipkcnocokaaDoor.Cv

/-- Has a year a day more? -/
def leap (y : Int) : Bool := (y % 4 == 0) && ((y % 100 != 0) || (y % 400 == 0))
theorem leap_iff (y : Int) : leap y = true ↔ (y % 4 = 0 ∧ (y % 100 ≠ 0 ∨ y % 400 = 0)) := by
  simp [leap, Bool.and_eq_true, Bool.or_eq_true]
theorem leap_yes {y : Int} (h : leap y = true) : y % 4 = 0 ∧ (y % 100 ≠ 0 ∨ y % 400 = 0) := (leap_iff y).1 h
theorem leap_no {y : Int} (h : leap y = false) : ¬ (y % 4 = 0 ∧ (y % 100 ≠ 0 ∨ y % 400 = 0)) := fun k => by rw [(leap_iff y).2 k] at h; cases h
/-- 1 or 0. -/
def lp (y : Int) : Int := if leap y then 1 else 0
theorem lp_01 (y : Int) : lp y = 1 ∧ (y % 4 = 0 ∧ (y % 100 ≠ 0 ∨ y % 400 = 0)) ∨ lp y = 0 ∧ ¬ (y % 4 = 0 ∧ (y % 100 ≠ 0 ∨ y % 400 = 0)) := by
  unfold lp
  cases h : leap y
  · exact .inr ⟨rfl, leap_no h⟩
  · exact .inl ⟨rfl, leap_yes h⟩

/-- How long a month is of a year without a day more. -/
def mtab (m : Int) : Int := if m = 2 then 28 else if m = 4 ∨ m = 6 ∨ m = 9 ∨ m = 11 then 30 else 31
/-- How long a month is. -/
def ml (y m : Int) : Int := if m = 2 then 28 + lp y else mtab m
theorem ml_bd (y m : Int) : 28 ≤ ml y m ∧ ml y m ≤ 31 := by
  have := lp_01 y
  unfold ml mtab
  repeat' split
  all_goals omega
/-- How long a month is; 0 of none. -/
def long (y m : Int) : Int := if 1 ≤ y ∧ y ≤ 9999 ∧ 1 ≤ m ∧ m ≤ 12 then ml y m else 0
theorem long_in {y m : Int} (h : 1 ≤ y ∧ y ≤ 9999 ∧ 1 ≤ m ∧ m ≤ 12) : long y m = ml y m := if_pos h
theorem long_out {y m : Int} (h : ¬ (1 ≤ y ∧ y ≤ 9999 ∧ 1 ≤ m ∧ m ≤ 12)) : long y m = 0 := if_neg h
theorem long_bd (y m : Int) : 0 ≤ long y m ∧ long y m ≤ 31 := by
  have := ml_bd y m
  unfold long; split <;> omega

/-- Is there such a day? -/
def Right (y m d : Int) : Prop := 1 ≤ y ∧ y ≤ 9999 ∧ 1 ≤ m ∧ m ≤ 12 ∧ 1 ≤ d ∧ d ≤ ml y m
def right (y m d : Int) : Bool := decide (1 ≤ d) && decide (d ≤ long y m)
theorem right_iff (y m d : Int) : right y m d = true ↔ Right y m d := by
  unfold right Right
  by_cases h : 1 ≤ y ∧ y ≤ 9999 ∧ 1 ≤ m ∧ m ≤ 12
  · rw [long_in h]; simp; omega
  · rw [long_out h]; simp; omega
theorem right_no {y m d : Int} (h : right y m d = false) : ¬ Right y m d := fun k => by rw [(right_iff y m d).2 k] at h; cases h

/-- Days of a year. -/
def yl (y : Int) : Int := 365 + lp y
/-- Days ahead of a year, from the year 1 on. -/
def dby (y : Int) : Int := 365 * (y - 1) + (y - 1) / 4 - (y - 1) / 100 + (y - 1) / 400
theorem dby_succ (y : Int) : dby (y + 1) = dby y + yl y := by
  have := lp_01 y
  unfold dby yl
  omega
/-- Days of a year ahead of a month. -/
def cumT (m : Int) : Int :=
  if m ≤ 1 then 0 else if m = 2 then 31 else if m = 3 then 59 else if m = 4 then 90 else if m = 5 then 120 else if m = 6 then 151 else if m = 7 then 181 else if m = 8 then 212 else if m = 9 then 243 else if m = 10 then 273 else if m = 11 then 304 else if m = 12 then 334 else 365
def cum (y m : Int) : Int := if m ≤ 2 then cumT m else cumT m + lp y
theorem months {P : Int → Prop} (h1 : P 1) (h2 : P 2) (h3 : P 3) (h4 : P 4) (h5 : P 5) (h6 : P 6) (h7 : P 7) (h8 : P 8) (h9 : P 9) (h10 : P 10) (h11 : P 11) (h12 : P 12) (m : Int) (a : 1 ≤ m) (b : m ≤ 12) : P m := by
  have : m = 1 ∨ m = 2 ∨ m = 3 ∨ m = 4 ∨ m = 5 ∨ m = 6 ∨ m = 7 ∨ m = 8 ∨ m = 9 ∨ m = 10 ∨ m = 11 ∨ m = 12 := by omega
  rcases this with rfl | rfl | rfl | rfl | rfl | rfl | rfl | rfl | rfl | rfl | rfl | rfl <;> assumption
theorem cum_one (y : Int) : cum y 1 = 0 := rfl
theorem cum_succ (y m : Int) (a : 1 ≤ m) (b : m ≤ 12) : cum y (m + 1) = cum y m + ml y m := by
  refine months (P := fun m => cum y (m + 1) = cum y m + ml y m) ?_ ?_ ?_ ?_ ?_ ?_ ?_ ?_ ?_ ?_ ?_ ?_ m a b <;> simp [cum, cumT, ml, mtab] <;> omega
theorem cum_end (y : Int) : cum y 13 = yl y := by simp [cum, cumT, yl]
theorem cum_bd (y m : Int) (a : 1 ≤ m) (b : m ≤ 13) : 0 ≤ cum y m ∧ cum y m ≤ yl y := by
  have := lp_01 y
  unfold cum cumT yl
  repeat' split
  all_goals omega
theorem cum_mono (y m k : Int) (a : 1 ≤ m) (h : m < k) (b : k ≤ 13) : cum y m + ml y m ≤ cum y k := by
  rw [← cum_succ y m a (by omega)]
  have := lp_01 y
  unfold cum cumT
  repeat' split
  all_goals omega

/-- So many days a day is behind the first one of 1970. -/
def num (y m d : Int) : Int := dby y + cum y m + d - 1 - 719162
theorem dby_mono (a b : Int) (h : a < b) : dby a + yl a ≤ dby b := by
  rw [← dby_succ]; unfold dby; omega
theorem dby_bd (y : Int) (a : 1 ≤ y) (b : y ≤ 10000) : 0 ≤ dby y ∧ dby y ≤ 3652059 := by unfold dby; omega
theorem yl_bd (y : Int) : 365 ≤ yl y ∧ yl y ≤ 366 := by have := lp_01 y; unfold yl; omega
theorem num_bd {y m d : Int} (h : Right y m d) : -719162 ≤ num y m d ∧ num y m d ≤ 2932896 := by
  obtain ⟨h1, h2, h3, h4, h5, h6⟩ := h
  have a := dby_bd y h1 (by omega)
  have b := cum_bd y m h3 (by omega)
  have c := cum_mono y m 13 h3 (by omega) (by omega)
  rw [cum_end] at c
  have e := dby_mono y (y + 1) (by omega)
  have f := dby_bd (y + 1) (by omega) (by omega)
  unfold num; omega
/-- A day has its own number. -/
theorem num_inj {y m d y' m' d' : Int} (h : Right y m d) (h' : Right y' m' d') (e : num y m d = num y' m' d') : y = y' ∧ m = m' ∧ d = d' := by
  obtain ⟨h1, h2, h3, h4, h5, h6⟩ := h
  obtain ⟨g1, g2, g3, g4, g5, g6⟩ := h'
  have c := cum_mono y m 13 h3 (by omega) (by omega)
  have c' := cum_mono y' m' 13 g3 (by omega) (by omega)
  rw [cum_end] at c c'
  have b := cum_bd y m h3 (by omega)
  have b' := cum_bd y' m' g3 (by omega)
  unfold num at e
  have hy : y = y' := by
    rcases Int.lt_trichotomy y y' with k | k | k
    · have := dby_mono y y' k; omega
    · exact k
    · have := dby_mono y' y k; omega
  subst hy
  have hm : m = m' := by
    rcases Int.lt_trichotomy m m' with k | k | k
    · have := cum_mono y m m' h3 k (by omega); omega
    · exact k
    · have := cum_mono y m' m g3 k (by omega); omega
  subst hm
  exact ⟨rfl, rfl, by omega⟩
/-- The next day. -/
theorem num_next {y m d y' m' d' : Int} (h : Right y m d) (h' : Right y' m' d') (e : num y' m' d' = num y m d + 1) :
    (d' = d + 1 ∧ m' = m ∧ y' = y) ∨ (d' = 1 ∧ d = ml y m ∧ m' = m + 1 ∧ y' = y) ∨ (d' = 1 ∧ d = ml y m ∧ m' = 1 ∧ m = 12 ∧ y' = y + 1) := by
  have hh := h
  obtain ⟨h1, h2, h3, h4, h5, h6⟩ := h
  by_cases k : d + 1 ≤ ml y m
  · have r : Right y m (d + 1) := ⟨h1, h2, h3, h4, by omega, k⟩
    obtain ⟨a, b, c⟩ := num_inj h' r (by rw [e]; unfold num; omega)
    exact .inl ⟨c, b, a⟩
  · have hd : d = ml y m := by omega
    by_cases km : m < 12
    · have r : Right y (m + 1) 1 := ⟨h1, h2, by omega, by omega, by omega, by have := ml_bd y (m + 1); omega⟩
      obtain ⟨a, b, c⟩ := num_inj h' r (by rw [e]; have := cum_succ y m h3 h4; unfold num; omega)
      exact .inr (.inl ⟨c, hd, b, a⟩)
    · obtain rfl : m = 12 := by omega
      have g1 := (num_bd h').2
      have s := cum_succ y 12 (by omega) (by omega)
      have s' : cum y (12 + 1) = yl y := cum_end y
      have ds := dby_succ y
      have hy : y < 9999 := by
        rcases Int.lt_or_le y 9999 with q | q
        · exact q
        · obtain rfl : y = 9999 := by omega
          have : dby (9999 + 1) = 3652059 := by unfold dby; omega
          unfold num at e g1; omega
      have r : Right (y + 1) 1 1 := ⟨by omega, by omega, by omega, by omega, by omega, by have := ml_bd (y + 1) 1; omega⟩
      obtain ⟨a, b, c⟩ := num_inj h' r (by rw [e]; have := cum_one (y + 1); unfold num; omega)
      exact .inr (.inr ⟨c, hd, b, rfl, a⟩)
/-- The last day. -/
theorem num_last {y m d : Int} (h : Right y m d) (e : num y m d = 2932896) : y = 9999 ∧ m = 12 ∧ d = 31 :=
  num_inj h ⟨by omega, by omega, by omega, by omega, by omega, by simp [ml, mtab]⟩ (by rw [e]; simp [num, dby, cum, cumT, lp, leap])

/-- The year of the day that has so many ahead of it, by rounds of 400 years. -/
def yrOf (a : Int) : Int := 1 + a / 146097 * 400 + min (a % 146097 / 36524) 3 * 100 + (a % 146097 - min (a % 146097 / 36524) 3 * 36524) / 1461 * 4 + min ((a % 146097 - min (a % 146097 / 36524) 3 * 36524) % 1461 / 365) 3
def leftOf (a : Int) : Int := (a % 146097 - min (a % 146097 / 36524) 3 * 36524) % 1461 - min ((a % 146097 - min (a % 146097 / 36524) 3 * 36524) % 1461 / 365) 3 * 365
theorem yr_last (q h f s : Int) (f0 : 0 ≤ f) (f1 : f ≤ 24) (hs : s = 1461 * f + 1460) (s2 : s = 36524 → h = 3) : lp (1 + q * 400 + h * 100 + f * 4 + 3) = 1 := by
  have m4 : (1 + q * 400 + h * 100 + f * 4 + 3) % 4 = 0 := by omega
  have : (1 + q * 400 + h * 100 + f * 4 + 3) % 100 ≠ 0 ∨ (1 + q * 400 + h * 100 + f * 4 + 3) % 400 = 0 := by
    by_cases k : f = 24
    · exact .inr (by have := s2 (by omega); omega)
    · exact .inl (by omega)
  unfold lp
  rw [(leap_iff _).2 ⟨m4, this⟩]; rfl
theorem yrOf_ok (a : Int) (h0 : 0 ≤ a) (h1 : a ≤ 3652058) : 1 ≤ yrOf a ∧ yrOf a ≤ 9999 ∧ dby (yrOf a) + leftOf a = a ∧ 0 ≤ leftOf a ∧ leftOf a < yl (yrOf a) := by
  unfold yrOf leftOf
  generalize hq : a / 146097 = q
  generalize hr : a % 146097 = r
  generalize hh : min (r / 36524) 3 = h
  generalize hs : r - h * 36524 = s
  generalize hf : s / 1461 = f
  generalize ht : s % 1461 = t
  generalize hy : min (t / 365) 3 = y
  have q0 : 0 ≤ q ∧ q ≤ 24 ∧ a = 146097 * q + r ∧ 0 ≤ r ∧ r ≤ 146096 := by omega
  have h0 : 0 ≤ h ∧ h ≤ 3 ∧ 0 ≤ s ∧ s ≤ 36524 ∧ (s = 36524 → h = 3) := by omega
  have f0 : 0 ≤ f ∧ f ≤ 24 ∧ s = 1461 * f + t ∧ 0 ≤ t ∧ t ≤ 1460 := by omega
  have y0 : 0 ≤ y ∧ y ≤ 3 ∧ 0 ≤ t - y * 365 ∧ t - y * 365 ≤ 365 ∧ (t - y * 365 = 365 → y = 3 ∧ t = 1460) := by omega
  clear hh hy hf ht hq hr
  obtain ⟨q1, q2, q3, q4, q5⟩ := q0
  obtain ⟨a1, a2, a3, a4, a5⟩ := h0
  obtain ⟨f1, f2, f3, f4, f5⟩ := f0
  obtain ⟨y1, y2, y3, y4, y5⟩ := y0
  generalize hY : 1 + q * 400 + h * 100 + f * 4 + y = Y
  have d4 : (Y - 1) / 4 = 100 * q + 25 * h + f := by omega
  have d100 : (Y - 1) / 100 = 4 * q + h := by omega
  have d400 : (Y - 1) / 400 = q := by omega
  have hd : dby Y = 365 * (Y - 1) + (100 * q + 25 * h + f) - (4 * q + h) + q := by unfold dby; rw [d4, d100, d400]
  refine ⟨by omega, ?_, by omega, y3, ?_⟩
  · rcases Int.lt_or_le Y 10000 with k | k
    · omega
    · have := dby_mono 9999 Y (by omega)
      have e : dby (9999 + 1) = 3652059 := by unfold dby; omega
      rw [dby_succ] at e
      omega
  · have := yl_bd Y
    by_cases k : t - y * 365 = 365
    · obtain ⟨k1, k2⟩ := y5 k
      have := yr_last q h f s f1 f2 (by omega) a5
      rw [← hY, k1, yl, this]; omega
    · omega

/-- 1 (Monday) to 7. -/
def wday (n : Int) : Int := (n + 3) % 7 + 1
theorem wday_next (n : Int) : wday (n + 1) = wday n % 7 + 1 := by unfold wday; omega
end Go.Proofs.YtkfhipkcnocokaaDoor.Cv
