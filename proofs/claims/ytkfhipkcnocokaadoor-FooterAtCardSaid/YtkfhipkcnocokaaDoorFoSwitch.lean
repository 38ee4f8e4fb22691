/-
  Layer 7 (footer): a day's time in a year.
-/
import Derived.Test.YtkfhipkcnocokaaDoorFoWorks
import Derived.Test.YtkfhipkcnocokaaDoorCvDays
import Derived.Deep.RegionHeld3
namespace Go.Proofs.YtkfhipkcnocokaaDoor.Fo
open Go.RowKit

theorem below_class {W w' : World} (h : ∃ p : Regrown, w' = Sort.grow (redrawn W p.d) p.os) : Below W.heap.size W w' := by
  obtain ⟨p, rfl⟩ := h; exact below_regrown W p.d p.os
/-- How many days a right day is behind the first one from which it is counted: its month's, or its year's. -/
def behV (d : Dy) (y m : Int) : Int :=
  if d.kind = 1 then (if 59 ≤ d.day - 1 ∧ Cv.leap y = true then d.day else d.day - 1)
  else if d.kind = 2 then d.day
  else if Cv.ml y m ≤ (d.day + 7 - Cv.wday (Cv.num y m 1)) % 7 + (d.week - 1) * 7 then (d.day + 7 - Cv.wday (Cv.num y m 1)) % 7 + (d.week - 1) * 7 - 7
  else (d.day + 7 - Cv.wday (Cv.num y m 1)) % 7 + (d.week - 1) * 7
def monthOf (d : Dy) : Int := if d.month ≤ 1 then 1 else d.month
def switchV (d : Dy) (y : Int) : Int := (Cv.num y (monthOf d) 1 + behV d y (monthOf d)) * 86400 + d.time
/-- What behind keeps: the day, the date. -/
structure Bh (w V : World) (d : Dy) (y m : Int) : Prop where
  d : DyAt V w.heap.size d
  c0 : V.cell? ⟨w.heap.size + 1, 0, none⟩ = some (.int .i64 y)
  c1 : V.cell? ⟨w.heap.size + 1, 1, none⟩ = some (.int .i64 m)
  c2 : V.cell? ⟨w.heap.size + 1, 2, none⟩ = some (.int .i64 1)
  b : Below w.heap.size w V
  t : Cv.Tab V
section
variable {w V V' : World} {d : Dy} {y m : Int}
theorem tab_keep (h : Cv.Tab w) (hb : Below w.heap.size w V) : Cv.Tab V := h.below hb (Nat.le_refl _)
theorem Bh.start (ht : Cv.Tab w) (d : Dy) (y m : Int) (ty ty2 : TypeId) : Bh w ((w.alloc (.cells #[.int .u8 d.kind, .int .i64 d.month, .int .i64 d.week, .int .i64 d.day, .int .i64 d.time] ty)).alloc (.cells #[.int .i64 y, .int .i64 m, .int .i64 1] ty2)) d y m := by
  have s1 : (w.alloc (.cells #[.int .u8 d.kind, .int .i64 d.month, .int .i64 d.week, .int .i64 d.day, .int .i64 d.time] ty)).heap.size = w.heap.size + 1 := by simp
  have hb := ((Below.refl w.heap.size w).alloc (Nat.le_refl _) (.cells #[.int .u8 d.kind, .int .i64 d.month, .int .i64 d.week, .int .i64 d.day, .int .i64 d.time] ty)).alloc (by simp) (.cells #[.int .i64 y, .int .i64 m, .int .i64 1] ty2)
  exact ⟨(DyAt.new w d ty).below (G := w.heap.size + 1) ((Below.refl _ _).alloc (by simp) _) (Nat.lt_succ_self _), cell_new _ _ ty2 _ 0 _ s1 rfl, cell_new _ _ ty2 _ 1 _ s1 rfl, cell_new _ _ ty2 _ 2 _ s1 rfl, hb, tab_keep ht hb⟩
theorem Bh.lt (h : Bh w V d y m) : w.heap.size + 1 < V.heap.size := cell_lt h.c0
theorem Bh.keep (h : Bh w V d y m) (hb : Below V.heap.size V V') : Bh w V' d y m :=
  ⟨h.d.keep hb, cells_at _ hb h.lt h.c0, cells_at _ hb h.lt h.c1, cells_at _ hb h.lt h.c2, h.b.trans (hb.mono h.b.size), tab_keep h.t hb⟩
end
set_option maxHeartbeats 400000 in
theorem behind_j0 (mo wk dd tt y m : Int) (w : World) (ht : Cv.Tab w) (h1 : 1 ≤ dd) (h2 : dd ≤ 365) (h3 : decide (59 ≤ dd - 1) = false) :
    Calls Tryd.prog 45 #[dyV ⟨1, mo, wk, dd, tt⟩, Cv.dv y m 1] w fun e w' => e = .returned (.int .i64 (dd - 1)) ∧ Below w.heap.size w w' := by
  have K := Lib.hid (Bh.start ht ⟨1, mo, wk, dd, tt⟩ y m 23 78)
  clear ht
  go_enter Tryd.func45, Tryd.ntmps45
  go_wp2_with fail
  go_ret
  exact ⟨rfl, K.out.b⟩
set_option maxHeartbeats 400000 in
theorem behind_j1 (mo wk dd tt y m : Int) (w : World) (ht : Cv.Tab w) (h1 : 1 ≤ dd) (h2 : dd ≤ 365) (h3 : decide (59 ≤ dd - 1) = true) (hl : Cv.long y 2 = 29) :
    Calls Tryd.prog 45 #[dyV ⟨1, mo, wk, dd, tt⟩, Cv.dv y m 1] w fun e w' => e = .returned (.int .i64 dd) ∧ Below w.heap.size w w' := by
  have K := Lib.hid (Bh.start ht ⟨1, mo, wk, dd, tt⟩ y m 23 78)
  have HL : Hid (∀ V, Cv.Tab V → Calls Tryd.prog 67 #[.int .i64 y, .int .i64 2] V fun e w' => e = .returned (.int .i64 29) ∧ V = w') := Lib.hid fun V hV => Cv.long_at y 2 29 V hl hV
  clear ht hl
  go_enter Tryd.func45, Tryd.ntmps45
  go_wp2_with (first
    | (go_at_call 67; refine (HL.out _ K.out.t).mono ?_; rintro e V1 ⟨rfl, rfl⟩)
    | fail)
  go_ret
  exact ⟨rfl, K.out.b⟩
set_option maxHeartbeats 400000 in
theorem behind_j2 (mo wk dd tt y m : Int) (w : World) (ht : Cv.Tab w) (h1 : 1 ≤ dd) (h2 : dd ≤ 365) (h3 : decide (59 ≤ dd - 1) = true) (hl : Cv.long y 2 = 28) :
    Calls Tryd.prog 45 #[dyV ⟨1, mo, wk, dd, tt⟩, Cv.dv y m 1] w fun e w' => e = .returned (.int .i64 (dd - 1)) ∧ Below w.heap.size w w' := by
  have K := Lib.hid (Bh.start ht ⟨1, mo, wk, dd, tt⟩ y m 23 78)
  have HL : Hid (∀ V, Cv.Tab V → Calls Tryd.prog 67 #[.int .i64 y, .int .i64 2] V fun e w' => e = .returned (.int .i64 28) ∧ V = w') := Lib.hid fun V hV => Cv.long_at y 2 28 V hl hV
  clear ht hl
  go_enter Tryd.func45, Tryd.ntmps45
  go_wp2_with (first
    | (go_at_call 67; refine (HL.out _ K.out.t).mono ?_; rintro e V1 ⟨rfl, rfl⟩)
    | fail)
  go_ret
  exact ⟨rfl, K.out.b⟩
set_option maxHeartbeats 400000 in
theorem behind_z (mo wk dd tt y m : Int) (w : World) (ht : Cv.Tab w) :
    Calls Tryd.prog 45 #[dyV ⟨2, mo, wk, dd, tt⟩, Cv.dv y m 1] w fun e w' => e = .returned (.int .i64 dd) ∧ Below w.heap.size w w' := by
  have K := Lib.hid (Bh.start ht ⟨2, mo, wk, dd, tt⟩ y m 23 78)
  clear ht
  go_enter Tryd.func45, Tryd.ntmps45
  go_wp2_with fail
  go_ret
  exact ⟨rfl, K.out.b⟩
set_option maxRecDepth 100000 in
set_option maxHeartbeats 1000000 in
theorem behind_m (mo wk dd tt y m wd q c L : Int) (b : Bool) (w : World) (ht : Cv.Tab w) (hR : Cv.Right y m 1) (hw : Cv.wday (Cv.num y m 1) = wd) (h1 : 0 ≤ dd) (h2 : dd ≤ 6) (h3 : 1 ≤ wk) (h4 : wk ≤ 5) (hq : (dd + 7 - wd).tmod 7 = q) (q0 : 0 ≤ q) (q1 : q ≤ 6) (hc : q + (wk - 1) * 7 = c) (hl : Cv.long y m = L) (hb : decide (L ≤ c) = b) :
    Calls Tryd.prog 45 #[dyV ⟨3, mo, wk, dd, tt⟩, Cv.dv y m 1] w fun e w' => e = .returned (.int .i64 (if b then c - 7 else c)) ∧ Below w.heap.size w w' := by
  have K0 := Lib.hid (Bh.start ht ⟨3, mo, wk, dd, tt⟩ y m 23 78)
  have HL : Hid (∀ V, Cv.Tab V → Calls Tryd.prog 67 #[.int .i64 y, .int .i64 m] V fun e w' => e = .returned (.int .i64 L) ∧ V = w') := Lib.hid fun V hV => Cv.long_at y m L V hl hV
  have HW : Hid (∀ V, Cv.Tab V → Calls Tryd.prog 68 #[Cv.dv y m 1] V fun e w' => e = .returned (.int .i64 wd) ∧ Below V.heap.size V w') := Lib.hid fun V hV => by have := Cv.weekday_at y m 1 _ V hV hR rfl; rwa [hw] at this
  have hwd := Cv.wday_bd (Cv.num y m 1)
  rw [hw] at hwd
  obtain ⟨w1, w2⟩ := hwd
  have hcb : 0 ≤ c ∧ c ≤ 34 := by omega
  obtain ⟨c0, c1⟩ := hcb
  have x1 : IntKind.i64.wrap (dd + 7) = dd + 7 := IntWalk.i64_in _ (by omega)
  have x2 : IntKind.i64.wrap (dd + 7 - wd) = dd + 7 - wd := IntWalk.i64_in _ (by omega)
  have x3 : IntKind.i64.wrap q = q := IntWalk.i64_in _ (by omega)
  have x4 : IntKind.i64.wrap (wk - 1) = wk - 1 := IntWalk.i64_in _ (by omega)
  have x5 : IntKind.i64.wrap ((wk - 1) * 7) = (wk - 1) * 7 := IntWalk.i64_in _ (by omega)
  have x6 : IntKind.i64.wrap c = c := IntWalk.i64_in _ (by omega)
  have HB := Lib.hid hb
  clear ht hl hR hw hb
  go_enter Tryd.func45, Tryd.ntmps45
  go_upto_region 9 with (fail)
  refine wp_world (R := fun V => Bh w V ⟨3, mo, wk, dd, tt⟩ y m) K0.out ?_
  rintro W hW
  have K1 := Lib.hid hW
  clear hW K0
  have a2 : ∀ dq osq, (Sort.grow (redrawn W dq) osq).cell? ⟨w.heap.size, 2, none⟩ = some (.int .i64 wk) := fun dq osq => (K1.out.keep (below_regrown W dq osq)).d.c2
  have a3 : ∀ dq osq, (Sort.grow (redrawn W dq) osq).cell? ⟨w.heap.size, 3, none⟩ = some (.int .i64 dd) := fun dq osq => (K1.out.keep (below_regrown W dq osq)).d.c3
  have e0 : ∀ dq osq, (Sort.grow (redrawn W dq) osq).cell? ⟨w.heap.size + 1, 0, none⟩ = some (.int .i64 y) := fun dq osq => (K1.out.keep (below_regrown W dq osq)).c0
  have e1 : ∀ dq osq, (Sort.grow (redrawn W dq) osq).cell? ⟨w.heap.size + 1, 1, none⟩ = some (.int .i64 m) := fun dq osq => (K1.out.keep (below_regrown W dq osq)).c1
  have e2 : ∀ dq osq, (Sort.grow (redrawn W dq) osq).cell? ⟨w.heap.size + 1, 2, none⟩ = some (.int .i64 1) := fun dq osq => (K1.out.keep (below_regrown W dq osq)).c2
  refine wp_region_quiet_below (by kernel_rfl) (by kernel_rfl) ?_
  repeat (first | go_big_quiet_step (first | (go_at_call 68; with_reducible exact Calls.regrown_of (HW.out _ (K1.out.keep (below_regrown W _ _)).t))) | quiet_step (first | (go_at_call 68; with_reducible exact Calls.regrown_of (HW.out _ (K1.out.keep (below_regrown W _ _)).t))))
  refine wpQuiet_nil ?_
  intro w5 hV
  have hB := below_class hV
  clear hV a2 a3 e0 e1 e2
  have K2 := Lib.hid (K1.out.keep hB)
  clear hB
  have e0 := K2.out.c0
  have e1 := K2.out.c1
  cases b with
  | true =>
    have hb := HB.out
    go_wp2_with (first
      | (go_at_call 67; refine (HL.out _ K2.out.t).mono ?_; rintro e V6 ⟨rfl, rfl⟩)
      | fail)
    go_ret
    exact ⟨rfl, K2.out.b⟩
  | false =>
    have hb := HB.out
    go_wp2_with (first
      | (go_at_call 67; refine (HL.out _ K2.out.t).mono ?_; rintro e V6 ⟨rfl, rfl⟩)
      | fail)
    go_ret
    exact ⟨rfl, K2.out.b⟩
theorem dayB_time {d : Dy} (h : dayB d = true) : -604799 ≤ d.time ∧ d.time ≤ 604799 := by
  unfold dayB at h
  rw [Bool.and_eq_true] at h
  have h1 := h.1
  unfold inB at h1
  simp only [Bool.and_eq_true, decide_eq_true_eq] at h1
  exact h1
/-- What a right day is. -/
theorem dayB_cases {d : Dy} (h : dayB d = true) : (d.kind = 1 ∧ d.month = 0 ∧ d.week = 0 ∧ 1 ≤ d.day ∧ d.day ≤ 365) ∨ (d.kind = 2 ∧ d.month = 0 ∧ d.week = 0 ∧ 0 ≤ d.day ∧ d.day ≤ 365) ∨ (d.kind = 3 ∧ 1 ≤ d.month ∧ d.month ≤ 12 ∧ 1 ≤ d.week ∧ d.week ≤ 5 ∧ 0 ≤ d.day ∧ d.day ≤ 6) := by
  unfold dayB at h
  rw [Bool.and_eq_true] at h
  have h2 := h.2
  unfold inB at h2
  by_cases k1 : d.kind = 1
  · rw [if_pos k1] at h2
    simp only [Bool.and_eq_true, decide_eq_true_eq] at h2
    exact .inl (by omega)
  · rw [if_neg k1] at h2
    by_cases k2 : d.kind = 2
    · rw [if_pos k2] at h2
      simp only [Bool.and_eq_true, decide_eq_true_eq] at h2
      exact .inr (.inl (by omega))
    · rw [if_neg k2] at h2
      by_cases k3 : d.kind = 3
      · rw [if_pos k3] at h2
        simp only [Bool.and_eq_true, decide_eq_true_eq] at h2
        exact .inr (.inr (by omega))
      · rw [if_neg k3] at h2; cases h2
theorem first_right {y m : Int} (hy : 1 ≤ y ∧ y ≤ 9999) (hm : 1 ≤ m ∧ m ≤ 12) : Cv.Right y m 1 := by
  have := Cv.ml_bd y m
  exact ⟨hy.1, hy.2, hm.1, hm.2, by omega, by omega⟩
theorem behind_any (d : Dy) (y m : Int) (w : World) (ht : Cv.Tab w) (hd : dayB d = true) (hy : 1 ≤ y ∧ y ≤ 9999) (hm : 1 ≤ m ∧ m ≤ 12) :
    Calls Tryd.prog 45 #[dyV d, Cv.dv y m 1] w fun e w' => e = .returned (.int .i64 (behV d y m)) ∧ Below w.heap.size w w' := by
  have hc := dayB_cases hd
  obtain ⟨k, mo, wk, dd, tt⟩ := d
  unfold behV
  simp only at hc ⊢
  rcases hc with ⟨rfl, rfl, rfl, h1, h2⟩ | ⟨rfl, rfl, rfl, h1, h2⟩ | ⟨rfl, h1, h2, h3, h4, h5, h6⟩
  · rw [if_pos rfl]
    by_cases h59 : 59 ≤ dd - 1
    · have hl := Cv.long_in (y := y) (m := 2) ⟨hy.1, hy.2, by omega, by omega⟩
      cases hle : Cv.leap y with
      | true =>
        rw [if_pos ⟨h59, rfl⟩]
        exact behind_j1 0 0 dd tt y m w ht h1 h2 (decide_eq_true h59) (by rw [hl]; simp [Cv.ml, Cv.lp, hle])
      | false =>
        rw [if_neg (fun h => by cases h.2)]
        exact behind_j2 0 0 dd tt y m w ht h1 h2 (decide_eq_true h59) (by rw [hl]; simp [Cv.ml, Cv.lp, hle])
    · rw [if_neg (fun h => h59 h.1)]
      exact behind_j0 0 0 dd tt y m w ht h1 h2 (decide_eq_false h59)
  · rw [if_neg (by decide), if_pos rfl]
    exact behind_z 0 0 dd tt y m w ht
  · rw [if_neg (by decide), if_neg (by decide)]
    have hwd := Cv.wday_bd (Cv.num y m 1)
    have hl := Cv.long_in (y := y) (m := m) ⟨hy.1, hy.2, hm.1, hm.2⟩
    have := behind_m mo wk dd tt y m _ _ _ _ _ w ht (first_right hy hm) rfl h5 h6 h3 h4 (Int.tmod_eq_emod_of_nonneg (by omega)) (by omega) (by omega) rfl hl rfl
    by_cases hb : Cv.ml y m ≤ (dd + 7 - Cv.wday (Cv.num y m 1)) % 7 + (wk - 1) * 7
    · rw [decide_eq_true hb, if_pos rfl] at this
      rw [if_pos hb]
      exact this
    · rw [decide_eq_false hb, if_neg (by decide)] at this
      rw [if_neg hb]
      exact this
end Go.Proofs.YtkfhipkcnocokaaDoor.Fo
