/-
  Layer 7 (footer): which offset holds. Nothing of the program stands here.
-/
import Derived.Test.YtkfhipkcnocokaaDoorFooterYearsWalk
namespace Go.Proofs.YtkfhipkcnocokaaDoor.Fo

/-- Of each number there is a day. -/
theorem month_in (y a : Int) (h0 : 0 ≤ a) : ∀ k : Nat, k ≤ 12 → a < Cv.cum y ((k : Int) + 1) → ∃ m, 1 ≤ m ∧ m ≤ 12 ∧ Cv.cum y m ≤ a ∧ a < Cv.cum y (m + 1)
  | 0, _, h => by
    have := Cv.cum_one y
    rw [show (((0 : Nat) : Int) + 1) = 1 from rfl] at h
    omega
  | k + 1, hk, h => by
    by_cases h1 : a < Cv.cum y ((k : Int) + 1)
    · exact month_in y a h0 k (by omega) h1
    · exact ⟨(k : Int) + 1, by omega, by omega, by omega, by rw [show ((k : Int) + 1 + 1) = (((k + 1 : Nat) : Int) + 1) by omega]; exact h⟩
theorem day_in (n : Int) (h0 : -719162 ≤ n) (h1 : n ≤ 2932896) : ∃ y m d, Cv.Right y m d ∧ Cv.num y m d = n := by
  obtain ⟨a1, a2, a3, a4, a5⟩ := Cv.yrOf_ok (n + 719162) (by omega) (by omega)
  have hc : Cv.leftOf (n + 719162) < Cv.cum (Cv.yrOf (n + 719162)) (((12 : Nat) : Int) + 1) := by
    rw [show (((12 : Nat) : Int) + 1) = 13 from rfl, Cv.cum_end]; exact a5
  obtain ⟨m, b1, b2, b3, b4⟩ := month_in (Cv.yrOf (n + 719162)) (Cv.leftOf (n + 719162)) a4 12 (Nat.le_refl _) hc
  rw [Cv.cum_succ _ _ b1 b2] at b4
  exact ⟨Cv.yrOf (n + 719162), m, Cv.leftOf (n + 719162) - Cv.cum (Cv.yrOf (n + 719162)) m + 1, ⟨a1, a2, b1, b2, by omega, by omega⟩, by unfold Cv.num; omega⟩
/-- The latest switch so far, and whether it was Dst's. -/
def stepA (A t : Int) (s : Int × Bool) : Int × Bool := if A ≤ t ∧ s.1 < A then (A, true) else s
def stepB (B t : Int) (s : Int × Bool) : Int × Bool := if B ≤ t ∧ s.1 ≤ B then (B, false) else s
def sumS (f g : Int → Int) (t y : Int) : Nat → Int × Bool
  | 0 => (-9223372036854775808, false)
  | k + 1 => stepB (g (y - 2 + k)) t (stepA (f (y - 2 + k)) t (sumS f g t y k))
def begF (r : Rl) (y : Int) : Int := switchV r.start y - r.off
def endF (r : Rl) (y : Int) : Int := switchV r.end_ y - r.dstOff
def clampT (t : Int) : Int := max (-10000000000) (min t 100000000000)
theorem clamp_bd (t : Int) : -10000000000 ≤ clampT t ∧ clampT t ≤ 100000000000 := by unfold clampT; omega
/-- 400 years. -/
theorem leap400 (y : Int) : Cv.leap (y + 400) = Cv.leap y := by
  rw [Bool.eq_iff_iff, Cv.leap_iff, Cv.leap_iff]; omega
theorem lp400 (y : Int) : Cv.lp (y + 400) = Cv.lp y := by unfold Cv.lp; rw [leap400]
theorem ml400 (y m : Int) : Cv.ml (y + 400) m = Cv.ml y m := by unfold Cv.ml; rw [lp400]
theorem num400 (y m d : Int) : Cv.num (y + 400) m d = Cv.num y m d + 146097 := by
  unfold Cv.num Cv.dby Cv.cum
  rw [lp400]
  split <;> omega
theorem wday400 (n : Int) : Cv.wday (n + 146097) = Cv.wday n := by unfold Cv.wday; omega
theorem beh400 (d : Dy) (y m : Int) : behV d (y + 400) m = behV d y m := by
  unfold behV
  rw [num400, wday400, ml400, leap400]
theorem switch400 (d : Dy) (y : Int) : switchV d (y + 400) = switchV d y + 12622780800 := by
  unfold switchV
  rw [num400, beh400]
  omega
theorem beg400 (r : Rl) (y : Int) : begF r (y + 400) = begF r y + 12622780800 := by unfold begF; rw [switch400]; omega
theorem end400 (r : Rl) (y : Int) : endF r (y + 400) = endF r y + 12622780800 := by unfold endF; rw [switch400]; omega
theorem right400 {y m d : Int} (h : Cv.Right y m d) (hy : y ≤ 9599) : Cv.Right (y + 400) m d := by
  obtain ⟨a, b, c, e, f, g⟩ := h
  exact ⟨by omega, by omega, c, e, f, by rw [ml400]; exact g⟩
/-- Later by as much: the same, but for the instant. -/
theorem sumS_shift (f g : Int → Int) (P t y : Int) (hf : ∀ k, f (y + 400 - 2 + k) = f (y - 2 + k) + P) (hg : ∀ k, g (y + 400 - 2 + k) = g (y - 2 + k) + P)
    (lo : ∀ k : Nat, k < 4 → -9000000000000000000 < f (y - 2 + k) ∧ -9000000000000000000 < g (y - 2 + k)) (hP : 0 ≤ P) :
    ∀ k : Nat, k ≤ 4 → (sumS f g (t + P) (y + 400) k).2 = (sumS f g t y k).2 ∧ ((sumS f g (t + P) (y + 400) k).1 = (sumS f g t y k).1 + P ∨ (sumS f g (t + P) (y + 400) k).1 = -9223372036854775808 ∧ (sumS f g t y k).1 = -9223372036854775808)
  | 0, _ => ⟨rfl, .inr ⟨rfl, rfl⟩⟩
  | k + 1, hk => by
    obtain ⟨i1, i2⟩ := sumS_shift f g P t y hf hg lo hP k (by omega)
    obtain ⟨l1, l2⟩ := lo k (by omega)
    show (stepB (g (y + 400 - 2 + k)) (t + P) (stepA (f (y + 400 - 2 + k)) (t + P) (sumS f g (t + P) (y + 400) k))).2 = (stepB (g (y - 2 + k)) t (stepA (f (y - 2 + k)) t (sumS f g t y k))).2 ∧ _
    show _ ∧ ((stepB (g (y + 400 - 2 + k)) (t + P) (stepA (f (y + 400 - 2 + k)) (t + P) (sumS f g (t + P) (y + 400) k))).1 = (stepB (g (y - 2 + k)) t (stepA (f (y - 2 + k)) t (sumS f g t y k))).1 + P ∨ (stepB (g (y + 400 - 2 + k)) (t + P) (stepA (f (y + 400 - 2 + k)) (t + P) (sumS f g (t + P) (y + 400) k))).1 = -9223372036854775808 ∧ (stepB (g (y - 2 + k)) t (stepA (f (y - 2 + k)) t (sumS f g t y k))).1 = -9223372036854775808)
    rw [hf, hg]
    generalize f (y - 2 + k) = A at *
    generalize g (y - 2 + k) = B at *
    generalize sumS f g (t + P) (y + 400) k = s2 at *
    generalize sumS f g t y k = s1 at *
    obtain ⟨a2, b2⟩ := s2
    obtain ⟨a1, b1⟩ := s1
    simp only at i1 i2
    subst i1
    have hA : (A + P ≤ t + P ∧ a2 < A + P) ↔ (A ≤ t ∧ a1 < A) := by constructor <;> (rintro ⟨h1, h2⟩; constructor <;> omega)
    unfold stepA
    simp only
    by_cases h : A ≤ t ∧ a1 < A
    · rw [if_pos (hA.2 h), if_pos h]
      have hB : (B + P ≤ t + P ∧ A + P ≤ B + P) ↔ (B ≤ t ∧ A ≤ B) := by constructor <;> (rintro ⟨h1, h2⟩; constructor <;> omega)
      unfold stepB
      simp only
      by_cases h' : B ≤ t ∧ A ≤ B
      · rw [if_pos (hB.2 h'), if_pos h']; exact ⟨rfl, .inl rfl⟩
      · rw [if_neg (fun x => h' (hB.1 x)), if_neg h']; exact ⟨rfl, .inl rfl⟩
    · rw [if_neg (fun x => h (hA.1 x)), if_neg h]
      have hB : (B + P ≤ t + P ∧ a2 ≤ B + P) ↔ (B ≤ t ∧ a1 ≤ B) := by constructor <;> (rintro ⟨h1, h2⟩; constructor <;> omega)
      unfold stepB
      simp only
      by_cases h' : B ≤ t ∧ a1 ≤ B
      · rw [if_pos (hB.2 h'), if_pos h']; exact ⟨rfl, .inl rfl⟩
      · rw [if_neg (fun x => h' (hB.1 x)), if_neg h']; exact ⟨rfl, i2⟩
theorem year_in {y m d : Int} (h : Cv.Right y m d) : Cv.dby y - 719162 ≤ Cv.num y m d ∧ Cv.num y m d < Cv.dby y + Cv.yl y - 719162 := by
  obtain ⟨_, _, h1, h2, h3, h4⟩ := h
  have c := Cv.cum_bd y m h1 (by omega)
  have c2 := Cv.cum_succ y m h1 h2
  have c3 := Cv.cum_bd y (m + 1) (by omega) (by omega)
  unfold Cv.num
  omega
theorem year_is {y z m d : Int} (h : Cv.Right y m d) (h1 : Cv.dby z - 719162 ≤ Cv.num y m d) (h2 : Cv.num y m d < Cv.dby z + Cv.yl z - 719162) : y = z := by
  obtain ⟨a, b⟩ := year_in h
  rcases Int.lt_trichotomy y z with hlt | he | hgt
  · have := Cv.dby_mono y z hlt; omega
  · exact he
  · have := Cv.dby_mono z y hgt; omega
theorem year_bd {y m d n : Int} (h : Cv.Right y m d) (hn : Cv.num y m d = n) (h1 : -120000 ≤ n) (h2 : n ≤ 1200000) : 1600 ≤ y ∧ y ≤ 5300 := by
  obtain ⟨a, b⟩ := year_in h
  have l := Cv.yl_bd y
  unfold Cv.dby at a b
  omega
theorem switch_lo {d : Dy} {y : Int} (hd : dayB d = true) : (Cv.dby y - 719162 - 14) * 86400 ≤ switchV d y ∧ switchV d y ≤ (Cv.dby y - 719162 + 800) * 86400 := by
  have hM := month_of hd
  have hb := behV_bd (y := y) (m := monthOf d) hd
  have ht := dayB_time hd
  have c := Cv.cum_bd y (monthOf d) (by omega) (by omega)
  have l := Cv.yl_bd y
  unfold switchV Cv.num
  omega
theorem years_up (d : Dy) (y : Int) (hd : dayB d = true) : switchV d y + 31449600 ≤ switchV d (y + 1) := by
  obtain ⟨N, h1, h2⟩ := years_plain d y hd
  omega
theorem stepA_lt {A t X : Int} {s : Int × Bool} (h : s.1 < X) (hA : A < X) : (stepA A t s).1 < X := by unfold stepA; split <;> assumption
theorem stepB_lt {B t X : Int} {s : Int × Bool} (h : s.1 < X) (hB : B < X) : (stepB B t s).1 < X := by unfold stepB; split <;> assumption
theorem stepA_no {A t : Int} {s : Int × Bool} (h : t < A) : stepA A t s = s := by unfold stepA; rw [if_neg (by omega)]
theorem stepB_no {B t : Int} {s : Int × Bool} (h : t < B) : stepB B t s = s := by unfold stepB; rw [if_neg (by omega)]
theorem stepA_yes {A t : Int} {s : Int × Bool} (h : A ≤ t) (h2 : s.1 < A) : stepA A t s = (A, true) := by unfold stepA; rw [if_pos ⟨h, h2⟩]
theorem stepB_yes {B t : Int} {s : Int × Bool} (h : B ≤ t) (h2 : s.1 ≤ B) : stepB B t s = (B, false) := by unfold stepB; rw [if_pos ⟨h, h2⟩]
/-- A day whose time is within a day, of a month that is not the year's first or last. -/
def plainB (d : Dy) : Bool := decide (0 ≤ d.time) && (decide (d.time < 86400) && (decide (d.kind = 3) && (decide (1 < d.month) && decide (d.month < 12))))
theorem plain_in {d : Dy} (hd : dayB d = true) (hp : plainB d = true) (y : Int) : (Cv.dby y - 719162 + 31) * 86400 ≤ switchV d y ∧ switchV d y < (Cv.dby y - 719162 + Cv.yl y - 31) * 86400 := by
  unfold plainB at hp
  simp only [Bool.and_eq_true, decide_eq_true_eq] at hp
  obtain ⟨p1, p2, p3, p4, p5⟩ := hp
  have hc := dayB_cases hd
  have hM : monthOf d = d.month := by have := month_of hd; omega
  have n1 : ¬ d.kind = 1 := by omega
  have n2 : ¬ d.kind = 2 := by omega
  have m2 := Cv.cum_succ y 1 (by omega) (by omega)
  have m1 := Cv.cum_one y
  have e1 : Cv.ml y 1 = 31 := rfl
  have m12 := Cv.cum_succ y 12 (by omega) (by omega)
  have e12 : Cv.ml y 12 = 31 := rfl
  have e13 : Cv.cum y 13 = Cv.yl y := Cv.cum_end y
  have mm := Cv.cum_mono y d.month 12 (by omega) (by omega) (by omega)
  have mlo : Cv.cum y 2 ≤ Cv.cum y d.month := by
    by_cases h2 : d.month = 2
    · rw [h2]; exact Int.le_refl _
    · have := Cv.cum_mono y 2 d.month (by omega) (by omega) (by omega)
      have := Cv.ml_bd y 2
      omega
  have hml := Cv.ml_bd y d.month
  have hbeh : 0 ≤ behV d y d.month ∧ behV d y d.month < Cv.ml y d.month := by
    unfold behV
    simp only [n1, n2, if_false]
    split <;> omega
  rw [show (1 : Int) + 1 = 2 from rfl] at m2
  rw [show (12 : Int) + 1 = 13 from rfl] at m12
  unfold switchV
  rw [hM]
  unfold Cv.num
  generalize behV d y d.month = b at *
  omega
theorem fold4 (f g : Int → Int) (t y : Int) : sumS f g t y 4 = stepB (g (y - 2 + 3)) t (stepA (f (y - 2 + 3)) t (stepB (g (y - 2 + 2)) t (stepA (f (y - 2 + 2)) t (stepB (g (y - 2 + 1)) t (stepA (f (y - 2 + 1)) t (stepB (g (y - 2 + 0)) t (stepA (f (y - 2 + 0)) t (-9223372036854775808, false)))))))) := rfl
theorem turn_a (f g : Int → Int) (t y : Int) (lo : -9000000000000000000 < f (y - 2 + 0)) (f1 : f (y - 2 + 0) < f (y - 2 + 1)) (f2 : f (y - 2 + 1) < f (y - 2 + 2)) (g1 : g (y - 2 + 0) < g (y - 2 + 1)) (g2 : g (y - 2 + 1) < f (y - 2 + 2)) (h1 : f (y - 2 + 2) ≤ t) (h2 : t < g (y - 2 + 2)) (h3 : t < f (y - 2 + 3)) (h4 : t < g (y - 2 + 3)) : (sumS f g t y 4).2 = true := by
  rw [fold4, stepB_no h4, stepA_no h3, stepB_no h2, stepA_yes h1]
  exact stepB_lt (stepA_lt (stepB_lt (stepA_lt (by show (-9223372036854775808 : Int) < _; omega) (by omega)) (by omega)) f2) g2
theorem turn_b (f g : Int → Int) (t y : Int) (lo : -9000000000000000000 < g (y - 2 + 0)) (f1 : f (y - 2 + 0) < f (y - 2 + 1)) (f2 : f (y - 2 + 1) < g (y - 2 + 2)) (g1 : g (y - 2 + 0) < g (y - 2 + 1)) (g2 : g (y - 2 + 1) < g (y - 2 + 2)) (h1 : g (y - 2 + 2) ≤ t) (h2 : t < f (y - 2 + 2)) (h3 : t < f (y - 2 + 3)) (h4 : t < g (y - 2 + 3)) : (sumS f g t y 4).2 = false := by
  rw [fold4, stepB_no h4, stepA_no h3, stepA_no h2, stepB_yes h1]
  exact Int.le_of_lt (stepB_lt (stepA_lt (stepB_lt (stepA_lt (by show (-9223372036854775808 : Int) < _; omega) (by omega)) (by omega)) f2) g2)
/-- Between two switches of plain days. -/
theorem turn_plain (r : Rl) (y t z m d : Int) (b1 : dayB r.start = true) (b2 : dayB r.end_ = true) (o1 : offB r.off = true) (o2 : offB r.dstOff = true) (p1 : plainB r.start = true) (p2 : plainB r.end_ = true) (hy : 1700 ≤ y ∧ y ≤ 3999)
    (h1 : min (begF r y) (endF r y) ≤ t) (h2 : t < max (begF r y) (endF r y)) (h3 : 1728000 < max (begF r y) (endF r y) - min (begF r y) (endF r y)) (h4 : max (begF r y) (endF r y) - min (begF r y) (endF r y) < 29376000) (hr : Cv.Right z m d) (hn : Cv.num z m d = (t + r.off) / 86400) :
    (sumS (begF r) (endF r) t z 4).2 = decide (min (begF r y) (endF r y) = begF r y) := by
  have i1 := plain_in b1 p1 y
  have i2 := plain_in b2 p2 y
  unfold offB inB at o1 o2
  simp only [Bool.and_eq_true, decide_eq_true_eq] at o1 o2
  have hz : z = y := year_is hr (by rw [hn]; unfold begF endF at *; omega) (by rw [hn]; unfold begF endF at *; omega)
  subst hz
  have a0 := years_up r.start (z - 2) b1
  have a1 := years_up r.start (z - 2 + 1) b1
  have a2 := years_up r.start z b1
  have c0 := years_up r.end_ (z - 2) b2
  have c1 := years_up r.end_ (z - 2 + 1) b2
  have c2 := years_up r.end_ z b2
  have w1 := (switch_lo (y := z - 2) b1).1
  have w2 := (switch_lo (y := z - 2) b2).1
  have w3 : 0 ≤ Cv.dby (z - 2) := by unfold Cv.dby; omega
  have e2 : z - 2 + 1 + 1 = z := by omega
  rw [e2] at a1 c1
  have e3 : z - 2 + 0 = z - 2 := by omega
  have e4 : z - 2 + 2 = z := by omega
  have e5 : z - 2 + 3 = z + 1 := by omega
  by_cases h : begF r z ≤ endF r z
  · rw [Int.min_eq_left h] at h1 h3 h4 ⊢
    rw [Int.max_eq_right h] at h2 h3 h4
    rw [decide_eq_true rfl]
    refine turn_a _ _ t z ?_ ?_ ?_ ?_ ?_ ?_ ?_ ?_ ?_ <;> (simp only [e3, e4, e5]; unfold begF endF at *; omega)
  · have h' : endF r z ≤ begF r z := by omega
    rw [Int.min_eq_right h'] at h1 h3 h4 ⊢
    rw [Int.max_eq_left h'] at h2 h3 h4
    rw [decide_eq_false (by omega)]
    refine turn_b _ _ t z ?_ ?_ ?_ ?_ ?_ ?_ ?_ ?_ ?_ <;> (simp only [e3, e4, e5]; unfold begF endF at *; omega)
end Go.Proofs.YtkfhipkcnocokaaDoor.Fo
