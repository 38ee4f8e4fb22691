/-
  Layer 7 (footer): Switch.
-/
import Derived.Test.YtkfhipkcnocokaaDoorFoSwitch
namespace Go.Proofs.YtkfhipkcnocokaaDoor.Fo
open Go.RowKit

/-- What Switch keeps: the day; then the date, in block D. -/
structure Sd (w V : World) (d : Dy) : Prop where
  d : DyAt V w.heap.size d
  b : Below w.heap.size w V
  t : Cv.Tab V
structure Sk (w V : World) (d : Dy) (D : Nat) (y m : Int) : Prop where
  s : Sd w V d
  c0 : V.cell? ⟨D, 0, none⟩ = some (.int .i64 y)
  c1 : V.cell? ⟨D, 1, none⟩ = some (.int .i64 m)
  c2 : V.cell? ⟨D, 2, none⟩ = some (.int .i64 1)
section
variable {w V V' : World} {d : Dy} {D : Nat} {y m : Int}
theorem Sd.start (ht : Cv.Tab w) (d : Dy) (ty : TypeId) : Sd w (w.alloc (.cells #[.int .u8 d.kind, .int .i64 d.month, .int .i64 d.week, .int .i64 d.day, .int .i64 d.time] ty)) d :=
  have hb := (Below.refl w.heap.size w).alloc (Nat.le_refl _) (.cells #[.int .u8 d.kind, .int .i64 d.month, .int .i64 d.week, .int .i64 d.day, .int .i64 d.time] ty)
  ⟨DyAt.new w d ty, hb, tab_keep ht hb⟩
theorem Sd.keep (h : Sd w V d) (hb : Below V.heap.size V V') : Sd w V' d := ⟨h.d.keep hb, h.b.trans (hb.mono h.b.size), tab_keep h.t hb⟩
theorem Sk.new (h : Sd w V d) (y m : Int) (ty : TypeId) : Sk w (V.alloc (.cells #[.int .i64 y, .int .i64 m, .int .i64 1] ty)) d V.heap.size y m :=
  ⟨h.keep ((Below.refl V.heap.size V).alloc (Nat.le_refl _) _), cell_new _ _ ty _ 0 _ rfl rfl, cell_new _ _ ty _ 1 _ rfl rfl, cell_new _ _ ty _ 2 _ rfl rfl⟩
theorem Sk.keep (h : Sk w V d D y m) (hb : Below V.heap.size V V') : Sk w V' d D y m :=
  have hl := cell_lt h.c0
  ⟨h.s.keep hb, cells_at _ hb hl h.c0, cells_at _ hb hl h.c1, cells_at _ hb hl h.c2⟩
end
theorem behV_bd {d : Dy} {y m : Int} (hd : dayB d = true) : -7 ≤ behV d y m ∧ behV d y m ≤ 400 := by
  have hc := dayB_cases hd
  have := Cv.ml_bd y m
  unfold behV
  repeat' split
  all_goals omega
set_option maxHeartbeats 400000 in
theorem switch_a (d : Dy) (y : Int) (w : World) (ht : Cv.Tab w) (hd : dayB d = false) :
    Calls Tryd.prog 19 #[dyV d, .int .i64 y] w fun e w' => e = .returned (.tuple #[.int .i64 0, .int .i64 2]) ∧ Below w.heap.size w w' := by
  have K0 := Lib.hid (Sd.start ht d 23)
  have HD : Hid (∀ V, Calls Tryd.prog 30 #[dyV d] V fun e w' => e = .returned (.bool false) ∧ Below V.heap.size V w') := Lib.hid fun V => by have := rightDay_any d V; rwa [hd] at this
  clear ht hd
  have q0 := K0.out.d.c0
  have q1 := K0.out.d.c1
  have q2 := K0.out.d.c2
  have q3 := K0.out.d.c3
  have q4 := K0.out.d.c4
  go_enter Tryd.func19, Tryd.ntmps19
  go_wp2_with (first
    | (go_at_call 30; refine (HD.out _).mono ?_; clear HD q0 q1 q2 q3 q4; rintro e V1 ⟨rfl, hb⟩; have K1 := Lib.hid (K0.out.keep hb); clear hb)
    | fail)
  go_ret2
  exact ⟨rfl, K1.out.b⟩
set_option maxHeartbeats 400000 in
theorem switch_b (d : Dy) (y : Int) (w : World) (ht : Cv.Tab w) (hd : dayB d = true) (hy : inB y 2 9998 = false) :
    Calls Tryd.prog 19 #[dyV d, .int .i64 y] w fun e w' => e = .returned (.tuple #[.int .i64 0, .int .i64 30]) ∧ Below w.heap.size w w' := by
  have K0 := Lib.hid (Sd.start ht d 23)
  have HD : Hid (∀ V, Calls Tryd.prog 30 #[dyV d] V fun e w' => e = .returned (.bool true) ∧ Below V.heap.size V w') := Lib.hid fun V => by have := rightDay_any d V; rwa [hd] at this
  have HW : Hid (∀ V, Calls Tryd.prog 43 #[.int .i64 y, .int .i64 2, .int .i64 9998] V fun e w' => e = .returned (.bool false) ∧ V = w') := Lib.hid fun V => by have := within_any y 2 9998 V; rwa [hy] at this
  clear ht hd hy
  have q0 := K0.out.d.c0
  have q1 := K0.out.d.c1
  have q2 := K0.out.d.c2
  have q3 := K0.out.d.c3
  have q4 := K0.out.d.c4
  go_enter Tryd.func19, Tryd.ntmps19
  go_wp2_with (first
    | (go_at_call 30; refine (HD.out _).mono ?_; clear HD q0 q1 q2 q3 q4; rintro e V1 ⟨rfl, hb⟩; have K1 := Lib.hid (K0.out.keep hb); clear hb)
    | (go_at_call 43; refine (HW.out _).mono ?_; clear HW; rintro e V2 ⟨rfl, rfl⟩)
    | fail)
  go_ret2
  exact ⟨rfl, K1.out.b⟩
set_option maxRecDepth 100000 in
set_option maxHeartbeats 1000000 in
theorem switch_c (d : Dy) (y M n h : Int) (w : World) (ht : Cv.Tab w) (hd : dayB d = true) (hy : inB y 2 9998 = true) (hM : (M = 1 ∧ d.month = 0) ∨ (M = d.month ∧ 1 ≤ d.month ∧ d.month ≤ 12)) (hn : Cv.num y M 1 = n) (hh : behV d y M = h) :
    Calls Tryd.prog 19 #[dyV d, .int .i64 y] w fun e w' => e = .returned (.tuple #[.int .i64 ((n + h) * 86400 + d.time), .int .i64 0]) ∧ Below w.heap.size w w' := by
  have K0 := Lib.hid (Sd.start ht d 23)
  have HD : Hid (∀ V, Calls Tryd.prog 30 #[dyV d] V fun e w' => e = .returned (.bool true) ∧ Below V.heap.size V w') := Lib.hid fun V => by have := rightDay_any d V; rwa [hd] at this
  have HW : Hid (∀ V, Calls Tryd.prog 43 #[.int .i64 y, .int .i64 2, .int .i64 9998] V fun e w' => e = .returned (.bool true) ∧ V = w') := Lib.hid fun V => by have := within_any y 2 9998 V; rwa [hy] at this
  have hy2 : 1 ≤ y ∧ y ≤ 9999 := by unfold inB at hy; simp only [Bool.and_eq_true, decide_eq_true_eq] at hy; omega
  have hM2 : 1 ≤ M ∧ M ≤ 12 := by omega
  have hR := first_right hy2 hM2
  have hnb := Cv.num_bd hR
  have hhb := behV_bd (y := y) (m := M) hd
  have htb := dayB_time hd
  rw [hn] at hnb
  rw [hh] at hhb
  have HY : Hid (∀ V, Cv.Tab V → Calls Tryd.prog 44 #[Cv.dv y M 1] V fun e w' => e = .returned (.tuple #[.int .i64 n, .int .i64 0]) ∧ Below V.heap.size V w') := Lib.hid fun V hV => Cv.days_at y M 1 n V hV hR hn
  have HB : Hid (∀ V, Cv.Tab V → Calls Tryd.prog 45 #[dyV d, Cv.dv y M 1] V fun e w' => e = .returned (.int .i64 h) ∧ Below V.heap.size V w') := Lib.hid fun V hV => by have := behind_any d y M V hV hd hy2 hM2; rwa [hh] at this
  have hmx : max d.month 1 = M := by omega
  have x1 : IntKind.i64.wrap (n + h) = n + h := IntWalk.i64_in _ (by omega)
  have x2 : IntKind.i64.wrap ((n + h) * 86400) = (n + h) * 86400 := IntWalk.i64_in _ (by omega)
  have x3 : IntKind.i64.wrap ((n + h) * 86400 + d.time) = (n + h) * 86400 + d.time := IntWalk.i64_in _ (by omega)
  clear ht hd hy hM hn hh hR hnb hhb htb hy2 hM2
  have q0 := K0.out.d.c0
  have q1 := K0.out.d.c1
  have q2 := K0.out.d.c2
  have q3 := K0.out.d.c3
  have q4 := K0.out.d.c4
  go_enter Tryd.func19, Tryd.ntmps19
  go_wp2_with (first
    | (go_at_call 30; refine (HD.out _).mono ?_; clear HD q0 q1 q2 q3 q4; rintro e V1 ⟨rfl, hb⟩; have K1 := Lib.hid (K0.out.keep hb); clear hb; have q1 := K1.out.d.c1)
    | (go_at_call 43; refine (HW.out _).mono ?_; clear HW; rintro e V2 ⟨rfl, rfl⟩)
    | (go_at_call 44; refine (HY.out _ (K1.out.keep ((Below.refl _ _).alloc (Nat.le_refl _) _)).t).mono ?_; clear HY; rintro e V3 ⟨rfl, hb⟩; have K3 := Lib.hid ((Sk.new K1.out y M 78).keep hb); clear hb q1)
    | fail)
  have a0 : ∀ dq osq, (Sort.grow (redrawn V3 dq) osq).cell? ⟨w.heap.size, 0, none⟩ = some (.int .u8 d.kind) := fun dq osq => (K3.out.keep (below_regrown V3 dq osq)).s.d.c0
  have a1 : ∀ dq osq, (Sort.grow (redrawn V3 dq) osq).cell? ⟨w.heap.size, 1, none⟩ = some (.int .i64 d.month) := fun dq osq => (K3.out.keep (below_regrown V3 dq osq)).s.d.c1
  have a2 : ∀ dq osq, (Sort.grow (redrawn V3 dq) osq).cell? ⟨w.heap.size, 2, none⟩ = some (.int .i64 d.week) := fun dq osq => (K3.out.keep (below_regrown V3 dq osq)).s.d.c2
  have a3 : ∀ dq osq, (Sort.grow (redrawn V3 dq) osq).cell? ⟨w.heap.size, 3, none⟩ = some (.int .i64 d.day) := fun dq osq => (K3.out.keep (below_regrown V3 dq osq)).s.d.c3
  have a4 : ∀ dq osq, (Sort.grow (redrawn V3 dq) osq).cell? ⟨w.heap.size, 4, none⟩ = some (.int .i64 d.time) := fun dq osq => (K3.out.keep (below_regrown V3 dq osq)).s.d.c4
  have e0 : ∀ dq osq, (Sort.grow (redrawn V3 dq) osq).cell? ⟨V1.heap.size, 0, none⟩ = some (.int .i64 y) := fun dq osq => (K3.out.keep (below_regrown V3 dq osq)).c0
  have e1 : ∀ dq osq, (Sort.grow (redrawn V3 dq) osq).cell? ⟨V1.heap.size, 1, none⟩ = some (.int .i64 M) := fun dq osq => (K3.out.keep (below_regrown V3 dq osq)).c1
  have e2 : ∀ dq osq, (Sort.grow (redrawn V3 dq) osq).cell? ⟨V1.heap.size, 2, none⟩ = some (.int .i64 1) := fun dq osq => (K3.out.keep (below_regrown V3 dq osq)).c2
  refine wp_region_quiet_below (by kernel_rfl) (by kernel_rfl) ?_
  repeat (first | go_big_quiet_step (first | (go_at_call 45; with_reducible exact Calls.regrown_of (HB.out _ (K3.out.keep (below_regrown V3 _ _)).s.t))) | quiet_step (first | (go_at_call 45; with_reducible exact Calls.regrown_of (HB.out _ (K3.out.keep (below_regrown V3 _ _)).s.t))))
  refine wpQuiet_nil ?_
  intro w5 hV
  have hB := below_class hV
  have K5 := Lib.hid (K3.out.keep hB)
  clear hV hB a0 a1 a2 a3 a4 e0 e1 e2
  go_wp2
  go_ret2
  exact ⟨rfl, K5.out.s.b⟩
theorem month_of {d : Dy} (hd : dayB d = true) : (monthOf d = 1 ∧ d.month = 0) ∨ (monthOf d = d.month ∧ 1 ≤ d.month ∧ d.month ≤ 12) := by
  have hc := dayB_cases hd
  unfold monthOf
  split <;> omega
/-- Switch of any day and year. -/
def switchE (d : Dy) (y : Int) : Value := if dayB d then (if inB y 2 9998 then .tuple #[.int .i64 (switchV d y), .int .i64 0] else .tuple #[.int .i64 0, .int .i64 30]) else .tuple #[.int .i64 0, .int .i64 2]
theorem switch_any (d : Dy) (y : Int) (w : World) (ht : Cv.Tab w) : Calls Tryd.prog 19 #[dyV d, .int .i64 y] w fun e w' => e = .returned (switchE d y) ∧ Below w.heap.size w w' := by
  unfold switchE
  cases hd : dayB d with
  | false => exact switch_a d y w ht hd
  | true =>
    simp only [if_true]
    cases hy : inB y 2 9998 with
    | false => exact switch_b d y w ht hd hy
    | true => exact switch_c d y _ _ _ w ht hd hy (month_of hd) rfl rfl
end Go.Proofs.YtkfhipkcnocokaaDoor.Fo
