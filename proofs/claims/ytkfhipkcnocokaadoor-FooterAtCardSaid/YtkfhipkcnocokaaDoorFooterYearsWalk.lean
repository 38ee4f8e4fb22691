/-
  Layer 7 (footer): the law FooterYears.
-/
import Derived.Test.YtkfhipkcnocokaaDoorFoSwitch2
namespace Go.Proofs.YtkfhipkcnocokaaDoor.Fo
open Go.RowKit

theorem num_year (y M : Int) : Cv.num (y + 1) M 1 = Cv.num y M 1 + 365 + (if M ≤ 2 then Cv.lp y else Cv.lp (y + 1)) := by
  have := Cv.dby_succ y
  unfold Cv.num Cv.cum
  unfold Cv.yl at this
  split <;> omega
/-- From a year to the next one. -/
theorem years_plain (d : Dy) (y : Int) (hd : dayB d = true) : ∃ N : Int, switchV d (y + 1) - switchV d y = N * 86400 ∧ ((d.kind = 3 ∧ (N = 364 ∨ N = 371)) ∨ (d.kind ≠ 3 ∧ (N = 365 ∨ N = 366))) := by
  have hc := dayB_cases hd
  have hM := month_of hd
  refine ⟨Cv.num (y + 1) (monthOf d) 1 - Cv.num y (monthOf d) 1 + (behV d (y + 1) (monthOf d) - behV d y (monthOf d)), by unfold switchV; omega, ?_⟩
  rw [num_year]
  have l1 := Cv.lp_01 y
  have l2 := Cv.lp_01 (y + 1)
  rcases hc with ⟨k, m0, _, h1, h2⟩ | ⟨k, m0, _, h1, h2⟩ | ⟨k, h1, h2, h3, h4, h5, h6⟩
  · have hM1 : monthOf d = 1 := by omega
    refine .inr ⟨by omega, ?_⟩
    rw [hM1, if_pos (by decide)]
    unfold behV
    have e1 : Cv.leap y = true ↔ Cv.lp y = 1 := by unfold Cv.lp; cases Cv.leap y <;> simp
    have e2 : Cv.leap (y + 1) = true ↔ Cv.lp (y + 1) = 1 := by unfold Cv.lp; cases Cv.leap (y + 1) <;> simp
    simp only [k, if_true, e1, e2]
    split <;> split <;> omega
  · have hM1 : monthOf d = 1 := by omega
    refine .inr ⟨by omega, ?_⟩
    rw [hM1, if_pos (by decide)]
    unfold behV
    simp only [k, if_true]
    omega
  · have hM1 : monthOf d = d.month := by omega
    have n1 : ¬ d.kind = 1 := by omega
    have n2 : ¬ d.kind = 2 := by omega
    refine .inl ⟨k, ?_⟩
    rw [hM1]
    unfold behV
    simp only [n1, n2, if_false]
    rw [num_year]
    generalize Cv.num y d.month 1 = n
    unfold Cv.wday
    by_cases hm2 : d.month = 2
    · have e1 : Cv.ml y d.month = 28 + Cv.lp y := by rw [hm2]; rfl
      have e2 : Cv.ml (y + 1) d.month = 28 + Cv.lp (y + 1) := by rw [hm2]; rfl
      have h2' : d.month ≤ 2 := by omega
      simp only [h2', if_true]
      rw [e1, e2]
      clear e1 e2 hM hd
      split <;> split <;> omega
    · have e1 : Cv.ml (y + 1) d.month = Cv.ml y d.month := by unfold Cv.ml; rw [if_neg hm2, if_neg hm2]
      have hb := Cv.ml_bd y d.month
      rw [e1]
      obtain ⟨Y, hY, hYb⟩ : ∃ Y : Int, (if d.month ≤ 2 then Cv.lp y else Cv.lp (y + 1)) = Y ∧ (Y = 0 ∨ Y = 1) := ⟨_, rfl, by split <;> omega⟩
      rw [hY]
      clear hM hd e1 l1 l2 hY
      split <;> split <;> omega
theorem switchV_bd {d : Dy} {y : Int} (hd : dayB d = true) (hy : 1 ≤ y ∧ y ≤ 9999) : -100000000000 ≤ switchV d y ∧ switchV d y ≤ 400000000000 := by
  have hM := month_of hd
  have hn := Cv.num_bd (first_right hy (show 1 ≤ monthOf d ∧ monthOf d ≤ 12 by omega))
  have hb := behV_bd (y := y) (m := monthOf d) hd
  have ht := dayB_time hd
  unfold switchV
  omega
/-- What the laws keep: a day, the table, the library's errors. -/
structure Yk (w V : World) (d : Dy) : Prop where
  s : Sd w V d
  e : Er V
theorem Yk.keep {w V V' : World} {d : Dy} (h : Yk w V d) (hb : Below V.heap.size V V') : Yk w V' d := ⟨h.s.keep hb, h.e.below hb h.e.hi⟩
set_option maxRecDepth 100000 in
set_option maxHeartbeats 800000 in
theorem years_no (d : Dy) (yr r : Int) (w : World) (ht : Cv.Tab w) (her : Er w) (hd : dayB d = false) (y0 : 0 ≤ yr) (y1 : yr ≤ 65535) (hr : yr.tmod 9996 = r) (r0 : 0 ≤ r) (r1 : r ≤ 9995) :
    Calls Tryd.prog 8 #[dyV d, .int .u16 yr] w fun e w' => e = .returned (.bool true) ∧ Below w.heap.size w w' := by
  have K0 := Lib.hid (show Yk w _ d from ⟨Sd.start ht d 23, her.alloc _⟩)
  have HS : Hid (∀ V y, Yk w V d → Calls Tryd.prog 19 #[dyV d, .int .i64 y] V fun e w' => e = .returned (.tuple #[.int .i64 0, .int .i64 2]) ∧ Yk w w' d) := Lib.hid fun V y hV => by
    have := switch_any d y V hV.s.t
    unfold switchE at this
    rw [hd, if_neg (by decide)] at this
    exact this.mono fun _ _ ⟨he, hb⟩ => ⟨he, hV.keep hb⟩
  have HK : Hid (∀ V, Yk w V d → Calls Tryd.prog 9 #[] V fun e w' => e = .returned (.bool true) ∧ Yk w w' d) := Lib.hid fun V hV => (works_any V hV.e).mono fun _ _ ⟨he, hb⟩ => ⟨he, hV.keep hb⟩
  clear ht her hd
  have q0 := K0.out.s.d.c0
  have q1 := K0.out.s.d.c1
  have q2 := K0.out.s.d.c2
  have q3 := K0.out.s.d.c3
  have q4 := K0.out.s.d.c4
  go_enter Tryd.func8, Tryd.ntmps8
  go_wp2_with (first
    | (go_at_call 19; refine (HS.out _ _ K0.out).mono ?_; clear K0 q0 q1 q2 q3 q4; rintro e V1 ⟨rfl, hk⟩; have K1 := Lib.hid hk; clear hk; have q0 := K1.out.s.d.c0; have q1 := K1.out.s.d.c1; have q2 := K1.out.s.d.c2; have q3 := K1.out.s.d.c3; have q4 := K1.out.s.d.c4)
    | (go_at_call 19; refine (HS.out _ _ K1.out).mono ?_; clear q0 q1 q2 q3 q4; rintro e V2 ⟨rfl, hk⟩; have K2 := Lib.hid hk; clear hk)
    | (go_at_call 9; refine (HK.out _ K2.out).mono ?_; rintro e V3 ⟨rfl, hk⟩; have K3 := Lib.hid hk; clear hk)
    | fail)
  go_ret
  exact ⟨rfl, K3.out.s.b⟩
set_option maxRecDepth 100000 in
set_option maxHeartbeats 2000000 in
theorem years_yes (d : Dy) (yr r y z a b N : Int) (w : World) (ht : Cv.Tab w) (her : Er w) (y0 : 0 ≤ yr) (y1 : yr ≤ 65535) (hr : yr.tmod 9996 = r) (r0 : 0 ≤ r) (r1 : r ≤ 9995) (hy : 2 + r = y) (hz : y + 1 = z) (ha : switchE d y = .tuple #[.int .i64 a, .int .i64 0]) (hb : switchE d z = .tuple #[.int .i64 b, .int .i64 0])
    (a0 : -100000000000 ≤ a ∧ a ≤ 400000000000) (b0 : -100000000000 ≤ b ∧ b ≤ 400000000000) (hN : b - a = N * 86400) (hk : (d.kind = 3 ∧ (N = 364 ∨ N = 371)) ∨ (d.kind ≠ 3 ∧ (N = 365 ∨ N = 366))) :
    Calls Tryd.prog 8 #[dyV d, .int .u16 yr] w fun e w' => e = .returned (.bool true) ∧ Below w.heap.size w w' := by
  have K0 := Lib.hid (show Yk w _ d from ⟨Sd.start ht d 23, her.alloc _⟩)
  have HS1 : Hid (∀ V, Yk w V d → Calls Tryd.prog 19 #[dyV d, .int .i64 y] V fun e w' => e = .returned (.tuple #[.int .i64 a, .int .i64 0]) ∧ Yk w w' d) := Lib.hid fun V hV => by
    have := switch_any d y V hV.s.t
    rw [ha] at this
    exact this.mono fun _ _ ⟨he, hb⟩ => ⟨he, hV.keep hb⟩
  have HS2 : Hid (∀ V, Yk w V d → Calls Tryd.prog 19 #[dyV d, .int .i64 z] V fun e w' => e = .returned (.tuple #[.int .i64 b, .int .i64 0]) ∧ Yk w w' d) := Lib.hid fun V hV => by
    have := switch_any d z V hV.s.t
    rw [hb] at this
    exact this.mono fun _ _ ⟨he, hb⟩ => ⟨he, hV.keep hb⟩
  have HK : Hid (∀ V, Yk w V d → Calls Tryd.prog 9 #[] V fun e w' => e = .returned (.bool true) ∧ Yk w w' d) := Lib.hid fun V hV => (works_any V hV.e).mono fun _ _ ⟨he, hb⟩ => ⟨he, hV.keep hb⟩
  obtain ⟨X, hX⟩ : ∃ X, b - a = X := ⟨_, rfl⟩
  have x1 : IntKind.i64.wrap (b - a) = X := by rw [hX]; exact IntWalk.i64_in _ (by omega)
  have x2 : X.tdiv 86400 = N := by rw [← hX, hN]; exact Int.mul_tdiv_cancel _ (by decide)
  have x3 : X.tmod 86400 = 0 := by rw [← hX, hN]; exact Int.mul_tmod_left _ _
  have hxb : -1000000000000 ≤ X ∧ X ≤ 1000000000000 := by omega
  obtain ⟨xb0, xb1⟩ := hxb
  clear ht her ha hb a0 b0 hN
  have q0 := K0.out.s.d.c0
  have q1 := K0.out.s.d.c1
  have q2 := K0.out.s.d.c2
  have q3 := K0.out.s.d.c3
  have q4 := K0.out.s.d.c4
  rcases hk with ⟨k, rfl | rfl⟩ | ⟨k, rfl | rfl⟩
  all_goals
    have j1 : (d.kind == 3) = (decide (d.kind = 3)) := rfl
    first
      | rw [decide_eq_true k] at j1
      | rw [decide_eq_false k] at j1
    have HJ := Lib.hid j1
    clear k
    go_enter Tryd.func8, Tryd.ntmps8
    go_wp2_with (first
      | (go_at_call 19; refine (HS1.out _ K0.out).mono ?_; clear K0 HS1 q0 q1 q2 q3 q4; rintro e V1 ⟨rfl, hk⟩; have K1 := Lib.hid hk; clear hk; have q0 := K1.out.s.d.c0; have q1 := K1.out.s.d.c1; have q2 := K1.out.s.d.c2; have q3 := K1.out.s.d.c3; have q4 := K1.out.s.d.c4)
      | (go_at_call 19; refine (HS2.out _ K1.out).mono ?_; clear HS2 q0 q1 q2 q3 q4; rintro e V2 ⟨rfl, hk⟩; have K2 := Lib.hid hk; clear hk; have q0 := K2.out.s.d.c0)
      | (go_at_call 9; refine (HK.out _ K2.out).mono ?_; rintro e V3 ⟨rfl, hk⟩; have K3 := Lib.hid hk; clear hk)
      | fail)
    go_ret
    exact ⟨rfl, K3.out.s.b⟩
theorem footerYears_any (d : Dy) (yr : Int) (w : World) (ht : Cv.Tab w) (her : Er w) (y0 : 0 ≤ yr) (y1 : yr ≤ 65535) :
    Calls Tryd.prog 8 #[dyV d, .int .u16 yr] w fun e w' => e = .returned (.bool true) ∧ Below w.heap.size w w' := by
  have hr : yr.tmod 9996 = yr % 9996 := Int.tmod_eq_emod_of_nonneg y0
  cases hd : dayB d with
  | false => exact years_no d yr _ w ht her hd y0 y1 hr (by omega) (by omega)
  | true =>
    obtain ⟨N, hN, hk⟩ := years_plain d (2 + yr % 9996) hd
    have i1 : inB (2 + yr % 9996) 2 9998 = true := by unfold inB; simp; omega
    have i2 : inB (2 + yr % 9996 + 1) 2 9998 = true := by unfold inB; simp; omega
    exact years_yes d yr _ _ _ _ _ N w ht her y0 y1 hr (by omega) (by omega) rfl rfl (by unfold switchE; rw [hd, if_pos rfl, if_pos i1]) (by unfold switchE; rw [hd, if_pos rfl, if_pos i2]) (switchV_bd hd (by omega)) (switchV_bd hd (by omega)) hN hk
end Go.Proofs.YtkfhipkcnocokaaDoor.Fo
