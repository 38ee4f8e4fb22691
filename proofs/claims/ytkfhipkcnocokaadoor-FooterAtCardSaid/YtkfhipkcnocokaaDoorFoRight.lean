/-
  Layer 7 (footer): which names, offsets, days, rules are right (written by gen_fo7t.py).
-/
import Derived.Test.YtkfhipkcnocokaaDoorFoRule
namespace Go.Proofs.YtkfhipkcnocokaaDoor.Fo
open Go.RowKit

theorem all_drop {α : Type} (p : α → Bool) (l : List α) : (l.dropWhile p).isEmpty = l.all p := by
  induction l with
  | nil => rfl
  | cons a l ih =>
    rw [List.dropWhile_cons, List.all_cons]
    cases p a with
    | false => rfl
    | true => rw [if_pos rfl, ih]; rfl
set_option maxHeartbeats 400000 in
theorem hasOnly_any (fg : Nat) (lb : Array Value) (p : Nat → Bool) (hp : ∀ r, p r = true → r < 128) (l : List UInt8) (w : World)
    (eg : ∀ args w, (callFunc fg args).run Tryd.prog w = .ok (.enter fg args) w) (hg : PredGrows Tryd.prog fg lb p w) :
    Calls Tryd.prog 49 #[.string (bs l), .func (.func fg) #[] lb] w fun e w' => e = .returned (.bool (l.all fun b => p b.toNat)) ∧ Below w.heap.size w w' := by
  have HT : Hid (Calls Tryd.prog 69 #[.string (bs l), .func (.func fg) #[] lb] w fun e w' => e = .returned (.string (bs (l.dropWhile fun b => p b.toNat))) ∧ Below w.heap.size w w') := Lib.hid (by
    have := Tryd.strings_TrimLeftFunc_grows fg lb eg p (bs l) w hg
    rwa [trim_eq p hp] at this)
  have hx : (bs (l.dropWhile fun b => p b.toNat)).toList.isEmpty = (l.all fun b => p b.toNat) := by rw [Lib.toList_data, bs_list]; exact all_drop _ l
  clear hp eg hg
  generalize (l.all fun b => p b.toNat) = c at *
  generalize bs (l.dropWhile fun b => p b.toNat) = T at *
  generalize bs l = S at *
  go_enter Tryd.func49, Tryd.ntmps49
  go_wp2_with (first
    | (go_at_call 69; refine HT.out.mono ?_; rintro e V1 ⟨rfl, hb⟩; have HB := Lib.hid hb; clear hb)
    | fail)
  go_ret
  exact ⟨rfl, HB.out⟩
set_option maxHeartbeats 400000 in
theorem rightName_any (l : List UInt8) (w : World) : Calls Tryd.prog 28 #[.string (bs l)] w fun e w' => e = .returned (.bool (nameB l)) ∧ Below w.heap.size w w' := by
  have HW : Hid (∀ V, Calls Tryd.prog 43 #[.int .i64 l.length, .int .i64 3, .int .i64 10] V fun e w' => e = .returned (.bool (inB l.length 3 10)) ∧ V = w') := Lib.hid fun V => within_any _ _ _ V
  have HL : Hid (∀ V, Calls Tryd.prog 50 #[.string ⟨#[48, 49, 50, 51, 52, 53, 54, 55, 56, 57, 43, 45]⟩] V fun e w' => e = .returned (.func (.func 70) #[] #[.pointer (some ⟨V.heap.size, 0, none⟩)]) ∧ w' = V.alloc (.cells #[.string ⟨#[48, 49, 50, 51, 52, 53, 54, 55, 56, 57, 43, 45]⟩] 9)) := Lib.hid fun V => letterOr_any _ V
  have HO : Hid (∀ V, Calls Tryd.prog 49 #[.string (bs l), .func (.func 70) #[] #[.pointer (some ⟨V.heap.size, 0, none⟩)]] (V.alloc (.cells #[.string ⟨#[48, 49, 50, 51, 52, 53, 54, 55, 56, 57, 43, 45]⟩] 9)) fun e w' => e = .returned (.bool (l.all fun b => mrk b.toNat)) ∧ Below V.heap.size V w') := Lib.hid fun V =>
    (hasOnly_any _ _ mrk (fun _ => mrk_low) l _ (enters_of Tryd.func70 (by kernel_rfl) rfl) (mrk_1 _ V.heap.size (by simp) (cell_new V _ _ _ 0 _ rfl rfl))).mono fun _ _ ⟨he, hb⟩ => ⟨he, ((Below.refl V.heap.size V).alloc (Nat.le_refl _) _).trans (hb.mono (by simp))⟩
  have hz : ((bs l).size : Int) = (l.length : Int) := rfl
  unfold nameB
  generalize (l.all fun b => mrk b.toNat) = c at *
  generalize inB l.length 3 10 = b at *
  generalize (l.length : Int) = n at *
  generalize bs l = S at *
  cases b with
  | false =>
    go_enter Tryd.func28, Tryd.ntmps28
    go_wp2_with (first
      | (go_at_call 43; refine (HW.out _).mono ?_; clear HW; rintro e V1 ⟨rfl, rfl⟩)
      | fail)
    go_ret
    exact ⟨rfl, Below.refl _ _⟩
  | true =>
    go_enter Tryd.func28, Tryd.ntmps28
    go_wp2_with (first
      | (go_at_call 43; refine (HW.out _).mono ?_; clear HW; rintro e V1 ⟨rfl, rfl⟩)
      | (go_at_call 50; refine (HL.out _).mono ?_; clear HL; rintro e V2 ⟨rfl, rfl⟩)
      | (go_at_call 49; refine (HO.out _).mono ?_; clear HO; rintro e V3 ⟨rfl, hb⟩; have HB := Lib.hid hb; clear hb)
      | fail)
    go_ret
    exact ⟨rfl, HB.out⟩
set_option maxHeartbeats 400000 in
theorem rightOff_any (n : Int) (w : World) : Calls Tryd.prog 29 #[.int .i64 n] w fun e w' => e = .returned (.bool (offB n)) ∧ w = w' := by
  have HW : Hid (∀ V, Calls Tryd.prog 43 #[.int .i64 n, .int .i64 (-89999), .int .i64 89999] V fun e w' => e = .returned (.bool (offB n)) ∧ V = w') := Lib.hid fun V => within_any _ _ _ V
  go_enter Tryd.func29, Tryd.ntmps29
  go_wp2_with (first
    | (go_at_call 43; refine (HW.out _).mono ?_; clear HW; rintro e V1 ⟨rfl, rfl⟩)
    | fail)
  go_ret
  exact ⟨rfl, rfl⟩
set_option maxRecDepth 100000 in
set_option maxHeartbeats 400000 in
theorem rightDay_a (d : Dy) (w : World) (w0 : inB d.time (-604799) 604799 = false) : Calls Tryd.prog 30 #[dyV d] w fun e w' => e = .returned (.bool false) ∧ Below w.heap.size w w' := by
  have H0 : Hid (∀ V, Calls Tryd.prog 43 #[.int .i64 d.time, .int .i64 (-604799), .int .i64 604799] V fun e w' => e = .returned (.bool false) ∧ V = w') := Lib.hid fun V => by have := within_any d.time (-604799) 604799 V; rwa [w0] at this
  clear w0
  obtain ⟨kind, month, week, day, time⟩ := d
  simp only at *
  go_enter Tryd.func30, Tryd.ntmps30
  go_wp2_with (first
    | (go_at_call 43; refine (H0.out _).mono ?_; clear H0; rintro e V0 ⟨rfl, rfl⟩)
    | fail)
  go_ret
  exact ⟨rfl, (Below.refl _ _).alloc (Nat.le_refl _) _⟩
set_option maxRecDepth 100000 in
set_option maxHeartbeats 400000 in
theorem rightDay_b (d : Dy) (w : World) (w0 : inB d.time (-604799) 604799 = true) (k0 : decide (d.kind = 1) = true) (k1 : decide (d.day = 0) = true) : Calls Tryd.prog 30 #[dyV d] w fun e w' => e = .returned (.bool false) ∧ Below w.heap.size w w' := by
  have H0 : Hid (∀ V, Calls Tryd.prog 43 #[.int .i64 d.time, .int .i64 (-604799), .int .i64 604799] V fun e w' => e = .returned (.bool true) ∧ V = w') := Lib.hid fun V => by have := within_any d.time (-604799) 604799 V; rwa [w0] at this
  have j0 : (d.kind == 1) = true := k0
  have j1 : (d.day == 0) = true := k1
  clear w0
  obtain ⟨kind, month, week, day, time⟩ := d
  simp only at *
  go_enter Tryd.func30, Tryd.ntmps30
  go_wp2_with (first
    | (go_at_call 43; refine (H0.out _).mono ?_; clear H0; rintro e V0 ⟨rfl, rfl⟩)
    | fail)
  go_ret
  exact ⟨rfl, (Below.refl _ _).alloc (Nat.le_refl _) _⟩
set_option maxRecDepth 100000 in
set_option maxHeartbeats 400000 in
theorem rightDay_j0 (d : Dy) (w : World) (w0 : inB d.time (-604799) 604799 = true) (k0 : decide (d.kind = 1) = true) (k1 : decide (d.day = 0) = false) (k2 : decide (d.month = 0) = false) : Calls Tryd.prog 30 #[dyV d] w fun e w' => e = .returned (.bool false) ∧ Below w.heap.size w w' := by
  have H0 : Hid (∀ V, Calls Tryd.prog 43 #[.int .i64 d.time, .int .i64 (-604799), .int .i64 604799] V fun e w' => e = .returned (.bool true) ∧ V = w') := Lib.hid fun V => by have := within_any d.time (-604799) 604799 V; rwa [w0] at this
  have j0 : (d.kind == 1) = true := k0
  have j1 : (d.day == 0) = false := k1
  have j2 : (d.month == 0) = false := k2
  clear w0
  obtain ⟨kind, month, week, day, time⟩ := d
  simp only at *
  go_enter Tryd.func30, Tryd.ntmps30
  go_wp2_with (first
    | (go_at_call 43; refine (H0.out _).mono ?_; clear H0; rintro e V0 ⟨rfl, rfl⟩)
    | fail)
  go_ret
  exact ⟨rfl, (Below.refl _ _).alloc (Nat.le_refl _) _⟩
set_option maxRecDepth 100000 in
set_option maxHeartbeats 400000 in
theorem rightDay_j1 (d : Dy) (w : World) (w0 : inB d.time (-604799) 604799 = true) (k0 : decide (d.kind = 1) = true) (k1 : decide (d.day = 0) = false) (k2 : decide (d.month = 0) = true) (k3 : decide (d.week = 0) = false) : Calls Tryd.prog 30 #[dyV d] w fun e w' => e = .returned (.bool false) ∧ Below w.heap.size w w' := by
  have H0 : Hid (∀ V, Calls Tryd.prog 43 #[.int .i64 d.time, .int .i64 (-604799), .int .i64 604799] V fun e w' => e = .returned (.bool true) ∧ V = w') := Lib.hid fun V => by have := within_any d.time (-604799) 604799 V; rwa [w0] at this
  have j0 : (d.kind == 1) = true := k0
  have j1 : (d.day == 0) = false := k1
  have j2 : (d.month == 0) = true := k2
  have j3 : (d.week == 0) = false := k3
  clear w0
  obtain ⟨kind, month, week, day, time⟩ := d
  simp only at *
  go_enter Tryd.func30, Tryd.ntmps30
  go_wp2_with (first
    | (go_at_call 43; refine (H0.out _).mono ?_; clear H0; rintro e V0 ⟨rfl, rfl⟩)
    | fail)
  go_ret
  exact ⟨rfl, (Below.refl _ _).alloc (Nat.le_refl _) _⟩
set_option maxRecDepth 100000 in
set_option maxHeartbeats 400000 in
theorem rightDay_j2 (d : Dy) (c : Bool) (w : World) (w0 : inB d.time (-604799) 604799 = true) (w1 : inB d.day (0) 365 = c) (k0 : decide (d.kind = 1) = true) (k1 : decide (d.day = 0) = false) (k2 : decide (d.month = 0) = true) (k3 : decide (d.week = 0) = true) : Calls Tryd.prog 30 #[dyV d] w fun e w' => e = .returned (.bool c) ∧ Below w.heap.size w w' := by
  have H0 : Hid (∀ V, Calls Tryd.prog 43 #[.int .i64 d.time, .int .i64 (-604799), .int .i64 604799] V fun e w' => e = .returned (.bool true) ∧ V = w') := Lib.hid fun V => by have := within_any d.time (-604799) 604799 V; rwa [w0] at this
  have H1 : Hid (∀ V, Calls Tryd.prog 43 #[.int .i64 d.day, .int .i64 (0), .int .i64 365] V fun e w' => e = .returned (.bool c) ∧ V = w') := Lib.hid fun V => by have := within_any d.day (0) 365 V; rwa [w1] at this
  have j0 : (d.kind == 1) = true := k0
  have j1 : (d.day == 0) = false := k1
  have j2 : (d.month == 0) = true := k2
  have j3 : (d.week == 0) = true := k3
  clear w0 w1
  obtain ⟨kind, month, week, day, time⟩ := d
  simp only at *
  go_enter Tryd.func30, Tryd.ntmps30
  go_wp2_with (first
    | (go_at_call 43; refine (H0.out _).mono ?_; clear H0; rintro e V0 ⟨rfl, rfl⟩)
    | (go_at_call 43; refine (H1.out _).mono ?_; clear H1; rintro e V1 ⟨rfl, rfl⟩)
    | fail)
  go_ret
  exact ⟨rfl, (Below.refl _ _).alloc (Nat.le_refl _) _⟩
set_option maxRecDepth 100000 in
set_option maxHeartbeats 400000 in
theorem rightDay_z0 (d : Dy) (w : World) (w0 : inB d.time (-604799) 604799 = true) (k0 : decide (d.kind = 1) = false) (k1 : decide (d.kind = 2) = true) (k2 : decide (d.month = 0) = false) : Calls Tryd.prog 30 #[dyV d] w fun e w' => e = .returned (.bool false) ∧ Below w.heap.size w w' := by
  have H0 : Hid (∀ V, Calls Tryd.prog 43 #[.int .i64 d.time, .int .i64 (-604799), .int .i64 604799] V fun e w' => e = .returned (.bool true) ∧ V = w') := Lib.hid fun V => by have := within_any d.time (-604799) 604799 V; rwa [w0] at this
  have j0 : (d.kind == 1) = false := k0
  have j1 : (d.kind == 2) = true := k1
  have j2 : (d.month == 0) = false := k2
  clear w0
  obtain ⟨kind, month, week, day, time⟩ := d
  simp only at *
  go_enter Tryd.func30, Tryd.ntmps30
  go_wp2_with (first
    | (go_at_call 43; refine (H0.out _).mono ?_; clear H0; rintro e V0 ⟨rfl, rfl⟩)
    | fail)
  go_ret
  exact ⟨rfl, (Below.refl _ _).alloc (Nat.le_refl _) _⟩
set_option maxRecDepth 100000 in
set_option maxHeartbeats 400000 in
theorem rightDay_z1 (d : Dy) (w : World) (w0 : inB d.time (-604799) 604799 = true) (k0 : decide (d.kind = 1) = false) (k1 : decide (d.kind = 2) = true) (k2 : decide (d.month = 0) = true) (k3 : decide (d.week = 0) = false) : Calls Tryd.prog 30 #[dyV d] w fun e w' => e = .returned (.bool false) ∧ Below w.heap.size w w' := by
  have H0 : Hid (∀ V, Calls Tryd.prog 43 #[.int .i64 d.time, .int .i64 (-604799), .int .i64 604799] V fun e w' => e = .returned (.bool true) ∧ V = w') := Lib.hid fun V => by have := within_any d.time (-604799) 604799 V; rwa [w0] at this
  have j0 : (d.kind == 1) = false := k0
  have j1 : (d.kind == 2) = true := k1
  have j2 : (d.month == 0) = true := k2
  have j3 : (d.week == 0) = false := k3
  clear w0
  obtain ⟨kind, month, week, day, time⟩ := d
  simp only at *
  go_enter Tryd.func30, Tryd.ntmps30
  go_wp2_with (first
    | (go_at_call 43; refine (H0.out _).mono ?_; clear H0; rintro e V0 ⟨rfl, rfl⟩)
    | fail)
  go_ret
  exact ⟨rfl, (Below.refl _ _).alloc (Nat.le_refl _) _⟩
set_option maxRecDepth 100000 in
set_option maxHeartbeats 400000 in
theorem rightDay_z2 (d : Dy) (c : Bool) (w : World) (w0 : inB d.time (-604799) 604799 = true) (w1 : inB d.day (0) 365 = c) (k0 : decide (d.kind = 1) = false) (k1 : decide (d.kind = 2) = true) (k2 : decide (d.month = 0) = true) (k3 : decide (d.week = 0) = true) : Calls Tryd.prog 30 #[dyV d] w fun e w' => e = .returned (.bool c) ∧ Below w.heap.size w w' := by
  have H0 : Hid (∀ V, Calls Tryd.prog 43 #[.int .i64 d.time, .int .i64 (-604799), .int .i64 604799] V fun e w' => e = .returned (.bool true) ∧ V = w') := Lib.hid fun V => by have := within_any d.time (-604799) 604799 V; rwa [w0] at this
  have H1 : Hid (∀ V, Calls Tryd.prog 43 #[.int .i64 d.day, .int .i64 (0), .int .i64 365] V fun e w' => e = .returned (.bool c) ∧ V = w') := Lib.hid fun V => by have := within_any d.day (0) 365 V; rwa [w1] at this
  have j0 : (d.kind == 1) = false := k0
  have j1 : (d.kind == 2) = true := k1
  have j2 : (d.month == 0) = true := k2
  have j3 : (d.week == 0) = true := k3
  clear w0 w1
  obtain ⟨kind, month, week, day, time⟩ := d
  simp only at *
  go_enter Tryd.func30, Tryd.ntmps30
  go_wp2_with (first
    | (go_at_call 43; refine (H0.out _).mono ?_; clear H0; rintro e V0 ⟨rfl, rfl⟩)
    | (go_at_call 43; refine (H1.out _).mono ?_; clear H1; rintro e V1 ⟨rfl, rfl⟩)
    | fail)
  go_ret
  exact ⟨rfl, (Below.refl _ _).alloc (Nat.le_refl _) _⟩
set_option maxRecDepth 100000 in
set_option maxHeartbeats 400000 in
theorem rightDay_m0 (d : Dy) (w : World) (w0 : inB d.time (-604799) 604799 = true) (w1 : inB d.month (1) 12 = false) (k0 : decide (d.kind = 1) = false) (k1 : decide (d.kind = 2) = false) (k2 : decide (d.kind = 3) = true) : Calls Tryd.prog 30 #[dyV d] w fun e w' => e = .returned (.bool false) ∧ Below w.heap.size w w' := by
  have H0 : Hid (∀ V, Calls Tryd.prog 43 #[.int .i64 d.time, .int .i64 (-604799), .int .i64 604799] V fun e w' => e = .returned (.bool true) ∧ V = w') := Lib.hid fun V => by have := within_any d.time (-604799) 604799 V; rwa [w0] at this
  have H1 : Hid (∀ V, Calls Tryd.prog 43 #[.int .i64 d.month, .int .i64 (1), .int .i64 12] V fun e w' => e = .returned (.bool false) ∧ V = w') := Lib.hid fun V => by have := within_any d.month (1) 12 V; rwa [w1] at this
  have j0 : (d.kind == 1) = false := k0
  have j1 : (d.kind == 2) = false := k1
  have j2 : (d.kind == 3) = true := k2
  clear w0 w1
  obtain ⟨kind, month, week, day, time⟩ := d
  simp only at *
  go_enter Tryd.func30, Tryd.ntmps30
  go_wp2_with (first
    | (go_at_call 43; refine (H0.out _).mono ?_; clear H0; rintro e V0 ⟨rfl, rfl⟩)
    | (go_at_call 43; refine (H1.out _).mono ?_; clear H1; rintro e V1 ⟨rfl, rfl⟩)
    | fail)
  go_ret
  exact ⟨rfl, (Below.refl _ _).alloc (Nat.le_refl _) _⟩
set_option maxRecDepth 100000 in
set_option maxHeartbeats 400000 in
theorem rightDay_m1 (d : Dy) (w : World) (w0 : inB d.time (-604799) 604799 = true) (w1 : inB d.month (1) 12 = true) (w2 : inB d.week (1) 5 = false) (k0 : decide (d.kind = 1) = false) (k1 : decide (d.kind = 2) = false) (k2 : decide (d.kind = 3) = true) : Calls Tryd.prog 30 #[dyV d] w fun e w' => e = .returned (.bool false) ∧ Below w.heap.size w w' := by
  have H0 : Hid (∀ V, Calls Tryd.prog 43 #[.int .i64 d.time, .int .i64 (-604799), .int .i64 604799] V fun e w' => e = .returned (.bool true) ∧ V = w') := Lib.hid fun V => by have := within_any d.time (-604799) 604799 V; rwa [w0] at this
  have H1 : Hid (∀ V, Calls Tryd.prog 43 #[.int .i64 d.month, .int .i64 (1), .int .i64 12] V fun e w' => e = .returned (.bool true) ∧ V = w') := Lib.hid fun V => by have := within_any d.month (1) 12 V; rwa [w1] at this
  have H2 : Hid (∀ V, Calls Tryd.prog 43 #[.int .i64 d.week, .int .i64 (1), .int .i64 5] V fun e w' => e = .returned (.bool false) ∧ V = w') := Lib.hid fun V => by have := within_any d.week (1) 5 V; rwa [w2] at this
  have j0 : (d.kind == 1) = false := k0
  have j1 : (d.kind == 2) = false := k1
  have j2 : (d.kind == 3) = true := k2
  clear w0 w1 w2
  obtain ⟨kind, month, week, day, time⟩ := d
  simp only at *
  go_enter Tryd.func30, Tryd.ntmps30
  go_wp2_with (first
    | (go_at_call 43; refine (H0.out _).mono ?_; clear H0; rintro e V0 ⟨rfl, rfl⟩)
    | (go_at_call 43; refine (H1.out _).mono ?_; clear H1; rintro e V1 ⟨rfl, rfl⟩)
    | (go_at_call 43; refine (H2.out _).mono ?_; clear H2; rintro e V2 ⟨rfl, rfl⟩)
    | fail)
  go_ret
  exact ⟨rfl, (Below.refl _ _).alloc (Nat.le_refl _) _⟩
set_option maxRecDepth 100000 in
set_option maxHeartbeats 400000 in
theorem rightDay_m2 (d : Dy) (c : Bool) (w : World) (w0 : inB d.time (-604799) 604799 = true) (w1 : inB d.month (1) 12 = true) (w2 : inB d.week (1) 5 = true) (w3 : inB d.day (0) 6 = c) (k0 : decide (d.kind = 1) = false) (k1 : decide (d.kind = 2) = false) (k2 : decide (d.kind = 3) = true) : Calls Tryd.prog 30 #[dyV d] w fun e w' => e = .returned (.bool c) ∧ Below w.heap.size w w' := by
  have H0 : Hid (∀ V, Calls Tryd.prog 43 #[.int .i64 d.time, .int .i64 (-604799), .int .i64 604799] V fun e w' => e = .returned (.bool true) ∧ V = w') := Lib.hid fun V => by have := within_any d.time (-604799) 604799 V; rwa [w0] at this
  have H1 : Hid (∀ V, Calls Tryd.prog 43 #[.int .i64 d.month, .int .i64 (1), .int .i64 12] V fun e w' => e = .returned (.bool true) ∧ V = w') := Lib.hid fun V => by have := within_any d.month (1) 12 V; rwa [w1] at this
  have H2 : Hid (∀ V, Calls Tryd.prog 43 #[.int .i64 d.week, .int .i64 (1), .int .i64 5] V fun e w' => e = .returned (.bool true) ∧ V = w') := Lib.hid fun V => by have := within_any d.week (1) 5 V; rwa [w2] at this
  have H3 : Hid (∀ V, Calls Tryd.prog 43 #[.int .i64 d.day, .int .i64 (0), .int .i64 6] V fun e w' => e = .returned (.bool c) ∧ V = w') := Lib.hid fun V => by have := within_any d.day (0) 6 V; rwa [w3] at this
  have j0 : (d.kind == 1) = false := k0
  have j1 : (d.kind == 2) = false := k1
  have j2 : (d.kind == 3) = true := k2
  clear w0 w1 w2 w3
  obtain ⟨kind, month, week, day, time⟩ := d
  simp only at *
  go_enter Tryd.func30, Tryd.ntmps30
  go_wp2_with (first
    | (go_at_call 43; refine (H0.out _).mono ?_; clear H0; rintro e V0 ⟨rfl, rfl⟩)
    | (go_at_call 43; refine (H1.out _).mono ?_; clear H1; rintro e V1 ⟨rfl, rfl⟩)
    | (go_at_call 43; refine (H2.out _).mono ?_; clear H2; rintro e V2 ⟨rfl, rfl⟩)
    | (go_at_call 43; refine (H3.out _).mono ?_; clear H3; rintro e V3 ⟨rfl, rfl⟩)
    | fail)
  go_ret
  exact ⟨rfl, (Below.refl _ _).alloc (Nat.le_refl _) _⟩
set_option maxRecDepth 100000 in
set_option maxHeartbeats 400000 in
theorem rightDay_n (d : Dy) (w : World) (w0 : inB d.time (-604799) 604799 = true) (k0 : decide (d.kind = 1) = false) (k1 : decide (d.kind = 2) = false) (k2 : decide (d.kind = 3) = false) : Calls Tryd.prog 30 #[dyV d] w fun e w' => e = .returned (.bool false) ∧ Below w.heap.size w w' := by
  have H0 : Hid (∀ V, Calls Tryd.prog 43 #[.int .i64 d.time, .int .i64 (-604799), .int .i64 604799] V fun e w' => e = .returned (.bool true) ∧ V = w') := Lib.hid fun V => by have := within_any d.time (-604799) 604799 V; rwa [w0] at this
  have j0 : (d.kind == 1) = false := k0
  have j1 : (d.kind == 2) = false := k1
  have j2 : (d.kind == 3) = false := k2
  clear w0
  obtain ⟨kind, month, week, day, time⟩ := d
  simp only at *
  go_enter Tryd.func30, Tryd.ntmps30
  go_wp2_with (first
    | (go_at_call 43; refine (H0.out _).mono ?_; clear H0; rintro e V0 ⟨rfl, rfl⟩)
    | fail)
  go_ret
  exact ⟨rfl, (Below.refl _ _).alloc (Nat.le_refl _) _⟩
theorem rightDay_any (d : Dy) (w : World) : Calls Tryd.prog 30 #[dyV d] w fun e w' => e = .returned (.bool (dayB d)) ∧ Below w.heap.size w w' := by
  unfold dayB
  cases ht : inB d.time (-604799) 604799 with
  | false => exact rightDay_a d w ht
  | true =>
    rw [Bool.true_and]
    by_cases k1 : d.kind = 1
    · rw [if_pos k1]
      by_cases d0 : d.day = 0
      · rw [decide_eq_false (fun h => h d0)]
        exact rightDay_b d w ht (decide_eq_true k1) (decide_eq_true d0)
      · rw [decide_eq_true (show d.day ≠ 0 from d0)]
        cases hm : decide (d.month = 0) with
        | false => exact rightDay_j0 d w ht (decide_eq_true k1) (decide_eq_false d0) hm
        | true =>
          cases hw : decide (d.week = 0) with
          | false => exact rightDay_j1 d w ht (decide_eq_true k1) (decide_eq_false d0) hm hw
          | true => exact rightDay_j2 d _ w ht rfl (decide_eq_true k1) (decide_eq_false d0) hm hw
    · rw [if_neg k1]
      by_cases k2 : d.kind = 2
      · rw [if_pos k2]
        cases hm : decide (d.month = 0) with
        | false => exact rightDay_z0 d w ht (decide_eq_false k1) (decide_eq_true k2) hm
        | true =>
          cases hw : decide (d.week = 0) with
          | false => exact rightDay_z1 d w ht (decide_eq_false k1) (decide_eq_true k2) hm hw
          | true => exact rightDay_z2 d _ w ht rfl (decide_eq_false k1) (decide_eq_true k2) hm hw
      · rw [if_neg k2]
        by_cases k3 : d.kind = 3
        · rw [if_pos k3]
          cases hm : inB d.month 1 12 with
          | false => exact rightDay_m0 d w ht hm (decide_eq_false k1) (decide_eq_false k2) (decide_eq_true k3)
          | true =>
            cases hw : inB d.week 1 5 with
            | false => exact rightDay_m1 d w ht hm hw (decide_eq_false k1) (decide_eq_false k2) (decide_eq_true k3)
            | true => exact rightDay_m2 d _ w ht hm hw rfl (decide_eq_false k1) (decide_eq_false k2) (decide_eq_true k3)
        · rw [if_neg k3]
          exact rightDay_n d w ht (decide_eq_false k1) (decide_eq_false k2) (decide_eq_false k3)
end Go.Proofs.YtkfhipkcnocokaaDoor.Fo
