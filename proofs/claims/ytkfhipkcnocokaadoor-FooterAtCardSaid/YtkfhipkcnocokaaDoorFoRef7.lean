/-
  Layer 7 (footer): the document's own right days (written by gen_fo7i.py).
-/
import Derived.Test.YtkfhipkcnocokaaDoorFoRef3
namespace Go.Proofs.YtkfhipkcnocokaaDoor.Fo
open Go.RowKit

set_option maxRecDepth 100000 in
set_option maxHeartbeats 400000 in
theorem rday_a (d : Dy) (w : World) (w0 : decide (d.time < -604799) = true) : Calls Tryd.prog 27 #[dyV d] w fun e w' => e = .returned (.bool false) ∧ Below w.heap.size w w' := by
  obtain ⟨kind, month, week, day, time⟩ := d
  simp only at *
  go_enter Tryd.func27, Tryd.ntmps27
  go_wp2
  go_ret
  exact ⟨rfl, (Below.refl _ _).alloc (Nat.le_refl _) _⟩
set_option maxRecDepth 100000 in
set_option maxHeartbeats 400000 in
theorem rday_b (d : Dy) (w : World) (w0 : decide (d.time < -604799) = false) (w1 : decide ((604799 : Int) < d.time) = true) : Calls Tryd.prog 27 #[dyV d] w fun e w' => e = .returned (.bool false) ∧ Below w.heap.size w w' := by
  obtain ⟨kind, month, week, day, time⟩ := d
  simp only at *
  go_enter Tryd.func27, Tryd.ntmps27
  go_wp2
  go_ret
  exact ⟨rfl, (Below.refl _ _).alloc (Nat.le_refl _) _⟩
set_option maxRecDepth 100000 in
set_option maxHeartbeats 400000 in
theorem rday_j0 (d : Dy) (w : World) (k0 : decide (d.kind = 1) = true) (k1 : decide (d.month = 0) = false) (w0 : decide (d.time < -604799) = false) (w1 : decide ((604799 : Int) < d.time) = false) : Calls Tryd.prog 27 #[dyV d] w fun e w' => e = .returned (.bool false) ∧ Below w.heap.size w w' := by
  have j0 : (d.kind == 1) = true := k0
  have j1 : (d.month == 0) = false := k1
  obtain ⟨kind, month, week, day, time⟩ := d
  simp only at *
  go_enter Tryd.func27, Tryd.ntmps27
  go_wp2
  go_ret
  exact ⟨rfl, (Below.refl _ _).alloc (Nat.le_refl _) _⟩
set_option maxRecDepth 100000 in
set_option maxHeartbeats 400000 in
theorem rday_j1 (d : Dy) (w : World) (k0 : decide (d.kind = 1) = true) (k1 : decide (d.month = 0) = true) (k2 : decide (d.week = 0) = false) (w0 : decide (d.time < -604799) = false) (w1 : decide ((604799 : Int) < d.time) = false) : Calls Tryd.prog 27 #[dyV d] w fun e w' => e = .returned (.bool false) ∧ Below w.heap.size w w' := by
  have j0 : (d.kind == 1) = true := k0
  have j1 : (d.month == 0) = true := k1
  have j2 : (d.week == 0) = false := k2
  obtain ⟨kind, month, week, day, time⟩ := d
  simp only at *
  go_enter Tryd.func27, Tryd.ntmps27
  go_wp2
  go_ret
  exact ⟨rfl, (Below.refl _ _).alloc (Nat.le_refl _) _⟩
set_option maxRecDepth 100000 in
set_option maxHeartbeats 400000 in
theorem rday_j2 (d : Dy) (w : World) (k0 : decide (d.kind = 1) = true) (k1 : decide (d.month = 0) = true) (k2 : decide (d.week = 0) = true) (w0 : decide (d.time < -604799) = false) (w1 : decide ((604799 : Int) < d.time) = false) (w2 : decide ((1 : Int) ≤ d.day) = false) : Calls Tryd.prog 27 #[dyV d] w fun e w' => e = .returned (.bool false) ∧ Below w.heap.size w w' := by
  have j0 : (d.kind == 1) = true := k0
  have j1 : (d.month == 0) = true := k1
  have j2 : (d.week == 0) = true := k2
  obtain ⟨kind, month, week, day, time⟩ := d
  simp only at *
  go_enter Tryd.func27, Tryd.ntmps27
  go_wp2
  go_ret
  exact ⟨rfl, (Below.refl _ _).alloc (Nat.le_refl _) _⟩
set_option maxRecDepth 100000 in
set_option maxHeartbeats 400000 in
theorem rday_j3 (d : Dy) (c : Bool) (w : World) (k0 : decide (d.kind = 1) = true) (k1 : decide (d.month = 0) = true) (k2 : decide (d.week = 0) = true) (w0 : decide (d.time < -604799) = false) (w1 : decide ((604799 : Int) < d.time) = false) (w2 : decide ((1 : Int) ≤ d.day) = true) (w3 : decide (d.day ≤ 365) = c) : Calls Tryd.prog 27 #[dyV d] w fun e w' => e = .returned (.bool c) ∧ Below w.heap.size w w' := by
  have j0 : (d.kind == 1) = true := k0
  have j1 : (d.month == 0) = true := k1
  have j2 : (d.week == 0) = true := k2
  obtain ⟨kind, month, week, day, time⟩ := d
  simp only at *
  subst w3
  go_enter Tryd.func27, Tryd.ntmps27
  go_wp2
  go_ret
  exact ⟨rfl, (Below.refl _ _).alloc (Nat.le_refl _) _⟩
set_option maxRecDepth 100000 in
set_option maxHeartbeats 400000 in
theorem rday_z0 (d : Dy) (w : World) (k0 : decide (d.kind = 1) = false) (k1 : decide (d.kind = 2) = true) (k2 : decide (d.month = 0) = false) (w0 : decide (d.time < -604799) = false) (w1 : decide ((604799 : Int) < d.time) = false) : Calls Tryd.prog 27 #[dyV d] w fun e w' => e = .returned (.bool false) ∧ Below w.heap.size w w' := by
  have j0 : (d.kind == 1) = false := k0
  have j1 : (d.kind == 2) = true := k1
  have j2 : (d.month == 0) = false := k2
  obtain ⟨kind, month, week, day, time⟩ := d
  simp only at *
  go_enter Tryd.func27, Tryd.ntmps27
  go_wp2
  go_ret
  exact ⟨rfl, (Below.refl _ _).alloc (Nat.le_refl _) _⟩
set_option maxRecDepth 100000 in
set_option maxHeartbeats 400000 in
theorem rday_z1 (d : Dy) (w : World) (k0 : decide (d.kind = 1) = false) (k1 : decide (d.kind = 2) = true) (k2 : decide (d.month = 0) = true) (k3 : decide (d.week = 0) = false) (w0 : decide (d.time < -604799) = false) (w1 : decide ((604799 : Int) < d.time) = false) : Calls Tryd.prog 27 #[dyV d] w fun e w' => e = .returned (.bool false) ∧ Below w.heap.size w w' := by
  have j0 : (d.kind == 1) = false := k0
  have j1 : (d.kind == 2) = true := k1
  have j2 : (d.month == 0) = true := k2
  have j3 : (d.week == 0) = false := k3
  obtain ⟨kind, month, week, day, time⟩ := d
  simp only at *
  go_enter Tryd.func27, Tryd.ntmps27
  go_wp2
  go_ret
  exact ⟨rfl, (Below.refl _ _).alloc (Nat.le_refl _) _⟩
set_option maxRecDepth 100000 in
set_option maxHeartbeats 400000 in
theorem rday_z2 (d : Dy) (w : World) (k0 : decide (d.kind = 1) = false) (k1 : decide (d.kind = 2) = true) (k2 : decide (d.month = 0) = true) (k3 : decide (d.week = 0) = true) (w0 : decide (d.time < -604799) = false) (w1 : decide ((604799 : Int) < d.time) = false) (w2 : decide ((0 : Int) ≤ d.day) = false) : Calls Tryd.prog 27 #[dyV d] w fun e w' => e = .returned (.bool false) ∧ Below w.heap.size w w' := by
  have j0 : (d.kind == 1) = false := k0
  have j1 : (d.kind == 2) = true := k1
  have j2 : (d.month == 0) = true := k2
  have j3 : (d.week == 0) = true := k3
  obtain ⟨kind, month, week, day, time⟩ := d
  simp only at *
  go_enter Tryd.func27, Tryd.ntmps27
  go_wp2
  go_ret
  exact ⟨rfl, (Below.refl _ _).alloc (Nat.le_refl _) _⟩
set_option maxRecDepth 100000 in
set_option maxHeartbeats 400000 in
theorem rday_z3 (d : Dy) (c : Bool) (w : World) (k0 : decide (d.kind = 1) = false) (k1 : decide (d.kind = 2) = true) (k2 : decide (d.month = 0) = true) (k3 : decide (d.week = 0) = true) (w0 : decide (d.time < -604799) = false) (w1 : decide ((604799 : Int) < d.time) = false) (w2 : decide ((0 : Int) ≤ d.day) = true) (w3 : decide (d.day ≤ 365) = c) : Calls Tryd.prog 27 #[dyV d] w fun e w' => e = .returned (.bool c) ∧ Below w.heap.size w w' := by
  have j0 : (d.kind == 1) = false := k0
  have j1 : (d.kind == 2) = true := k1
  have j2 : (d.month == 0) = true := k2
  have j3 : (d.week == 0) = true := k3
  obtain ⟨kind, month, week, day, time⟩ := d
  simp only at *
  subst w3
  go_enter Tryd.func27, Tryd.ntmps27
  go_wp2
  go_ret
  exact ⟨rfl, (Below.refl _ _).alloc (Nat.le_refl _) _⟩
set_option maxRecDepth 100000 in
set_option maxHeartbeats 400000 in
theorem rday_m0 (d : Dy) (w : World) (k0 : decide (d.kind = 1) = false) (k1 : decide (d.kind = 2) = false) (k2 : decide (d.kind = 3) = true) (w0 : decide (d.time < -604799) = false) (w1 : decide ((604799 : Int) < d.time) = false) (w2 : decide ((1 : Int) ≤ d.month) = false) : Calls Tryd.prog 27 #[dyV d] w fun e w' => e = .returned (.bool false) ∧ Below w.heap.size w w' := by
  have j0 : (d.kind == 1) = false := k0
  have j1 : (d.kind == 2) = false := k1
  have j2 : (d.kind == 3) = true := k2
  obtain ⟨kind, month, week, day, time⟩ := d
  simp only at *
  go_enter Tryd.func27, Tryd.ntmps27
  go_wp2
  go_ret
  exact ⟨rfl, (Below.refl _ _).alloc (Nat.le_refl _) _⟩
set_option maxRecDepth 100000 in
set_option maxHeartbeats 400000 in
theorem rday_m1 (d : Dy) (w : World) (k0 : decide (d.kind = 1) = false) (k1 : decide (d.kind = 2) = false) (k2 : decide (d.kind = 3) = true) (w0 : decide (d.time < -604799) = false) (w1 : decide ((604799 : Int) < d.time) = false) (w2 : decide ((1 : Int) ≤ d.month) = true) (w3 : decide (d.month ≤ 12) = false) : Calls Tryd.prog 27 #[dyV d] w fun e w' => e = .returned (.bool false) ∧ Below w.heap.size w w' := by
  have j0 : (d.kind == 1) = false := k0
  have j1 : (d.kind == 2) = false := k1
  have j2 : (d.kind == 3) = true := k2
  obtain ⟨kind, month, week, day, time⟩ := d
  simp only at *
  go_enter Tryd.func27, Tryd.ntmps27
  go_wp2
  go_ret
  exact ⟨rfl, (Below.refl _ _).alloc (Nat.le_refl _) _⟩
set_option maxRecDepth 100000 in
set_option maxHeartbeats 400000 in
theorem rday_m2 (d : Dy) (w : World) (k0 : decide (d.kind = 1) = false) (k1 : decide (d.kind = 2) = false) (k2 : decide (d.kind = 3) = true) (w0 : decide (d.time < -604799) = false) (w1 : decide ((604799 : Int) < d.time) = false) (w2 : decide ((1 : Int) ≤ d.month) = true) (w3 : decide (d.month ≤ 12) = true) (w4 : decide ((1 : Int) ≤ d.week) = false) : Calls Tryd.prog 27 #[dyV d] w fun e w' => e = .returned (.bool false) ∧ Below w.heap.size w w' := by
  have j0 : (d.kind == 1) = false := k0
  have j1 : (d.kind == 2) = false := k1
  have j2 : (d.kind == 3) = true := k2
  obtain ⟨kind, month, week, day, time⟩ := d
  simp only at *
  go_enter Tryd.func27, Tryd.ntmps27
  go_wp2
  go_ret
  exact ⟨rfl, (Below.refl _ _).alloc (Nat.le_refl _) _⟩
set_option maxRecDepth 100000 in
set_option maxHeartbeats 400000 in
theorem rday_m3 (d : Dy) (w : World) (k0 : decide (d.kind = 1) = false) (k1 : decide (d.kind = 2) = false) (k2 : decide (d.kind = 3) = true) (w0 : decide (d.time < -604799) = false) (w1 : decide ((604799 : Int) < d.time) = false) (w2 : decide ((1 : Int) ≤ d.month) = true) (w3 : decide (d.month ≤ 12) = true) (w4 : decide ((1 : Int) ≤ d.week) = true) (w5 : decide (d.week ≤ 5) = false) : Calls Tryd.prog 27 #[dyV d] w fun e w' => e = .returned (.bool false) ∧ Below w.heap.size w w' := by
  have j0 : (d.kind == 1) = false := k0
  have j1 : (d.kind == 2) = false := k1
  have j2 : (d.kind == 3) = true := k2
  obtain ⟨kind, month, week, day, time⟩ := d
  simp only at *
  go_enter Tryd.func27, Tryd.ntmps27
  go_wp2
  go_ret
  exact ⟨rfl, (Below.refl _ _).alloc (Nat.le_refl _) _⟩
set_option maxRecDepth 100000 in
set_option maxHeartbeats 400000 in
theorem rday_m4 (d : Dy) (w : World) (k0 : decide (d.kind = 1) = false) (k1 : decide (d.kind = 2) = false) (k2 : decide (d.kind = 3) = true) (w0 : decide (d.time < -604799) = false) (w1 : decide ((604799 : Int) < d.time) = false) (w2 : decide ((1 : Int) ≤ d.month) = true) (w3 : decide (d.month ≤ 12) = true) (w4 : decide ((1 : Int) ≤ d.week) = true) (w5 : decide (d.week ≤ 5) = true) (w6 : decide ((0 : Int) ≤ d.day) = false) : Calls Tryd.prog 27 #[dyV d] w fun e w' => e = .returned (.bool false) ∧ Below w.heap.size w w' := by
  have j0 : (d.kind == 1) = false := k0
  have j1 : (d.kind == 2) = false := k1
  have j2 : (d.kind == 3) = true := k2
  obtain ⟨kind, month, week, day, time⟩ := d
  simp only at *
  go_enter Tryd.func27, Tryd.ntmps27
  go_wp2
  go_ret
  exact ⟨rfl, (Below.refl _ _).alloc (Nat.le_refl _) _⟩
set_option maxRecDepth 100000 in
set_option maxHeartbeats 400000 in
theorem rday_m5 (d : Dy) (c : Bool) (w : World) (k0 : decide (d.kind = 1) = false) (k1 : decide (d.kind = 2) = false) (k2 : decide (d.kind = 3) = true) (w0 : decide (d.time < -604799) = false) (w1 : decide ((604799 : Int) < d.time) = false) (w2 : decide ((1 : Int) ≤ d.month) = true) (w3 : decide (d.month ≤ 12) = true) (w4 : decide ((1 : Int) ≤ d.week) = true) (w5 : decide (d.week ≤ 5) = true) (w6 : decide ((0 : Int) ≤ d.day) = true) (w7 : decide (d.day ≤ 6) = c) : Calls Tryd.prog 27 #[dyV d] w fun e w' => e = .returned (.bool c) ∧ Below w.heap.size w w' := by
  have j0 : (d.kind == 1) = false := k0
  have j1 : (d.kind == 2) = false := k1
  have j2 : (d.kind == 3) = true := k2
  obtain ⟨kind, month, week, day, time⟩ := d
  simp only at *
  subst w7
  go_enter Tryd.func27, Tryd.ntmps27
  go_wp2
  go_ret
  exact ⟨rfl, (Below.refl _ _).alloc (Nat.le_refl _) _⟩
set_option maxRecDepth 100000 in
set_option maxHeartbeats 400000 in
theorem rday_n (d : Dy) (w : World) (k0 : decide (d.kind = 1) = false) (k1 : decide (d.kind = 2) = false) (k2 : decide (d.kind = 3) = false) (w0 : decide (d.time < -604799) = false) (w1 : decide ((604799 : Int) < d.time) = false) : Calls Tryd.prog 27 #[dyV d] w fun e w' => e = .returned (.bool false) ∧ Below w.heap.size w w' := by
  have j0 : (d.kind == 1) = false := k0
  have j1 : (d.kind == 2) = false := k1
  have j2 : (d.kind == 3) = false := k2
  obtain ⟨kind, month, week, day, time⟩ := d
  simp only at *
  go_enter Tryd.func27, Tryd.ntmps27
  go_wp2
  go_ret
  exact ⟨rfl, (Below.refl _ _).alloc (Nat.le_refl _) _⟩
theorem rday_any (d : Dy) (w : World) : Calls Tryd.prog 27 #[dyV d] w fun e w' => e = .returned (.bool (dayB d)) ∧ Below w.heap.size w w' := by
  unfold dayB
  by_cases t1 : d.time < -604799
  · rw [show inB d.time (-604799) 604799 = false by unfold inB; rw [decide_eq_false (by omega)]; try rfl, Bool.false_and]
    exact rday_a d w (decide_eq_true t1)
  by_cases t2 : 604799 < d.time
  · rw [show inB d.time (-604799) 604799 = false by unfold inB; rw [decide_eq_false (by omega : ¬ d.time ≤ 604799), Bool.and_false], Bool.false_and]
    exact rday_b d w (decide_eq_false t1) (decide_eq_true t2)
  · rw [show inB d.time (-604799) 604799 = true by unfold inB; rw [decide_eq_true (by omega), decide_eq_true (by omega)]; try rfl, Bool.true_and]
    have T1 := decide_eq_false t1
    have T2 := decide_eq_false t2
    by_cases k1 : d.kind = 1
    · rw [if_pos k1]
      have e : (decide (d.day ≠ 0) && (decide (d.month = 0) && (decide (d.week = 0) && inB d.day 0 365))) = (decide (d.month = 0) && (decide (d.week = 0) && (decide ((1 : Int) ≤ d.day) && decide (d.day ≤ 365)))) := by
        rw [Bool.eq_iff_iff]; unfold inB; simp only [Bool.and_eq_true, decide_eq_true_eq]; try omega
      rw [e]
      cases hm : decide (d.month = 0) with
      | false => exact rday_j0 d w (decide_eq_true k1) hm T1 T2
      | true =>
        cases hw : decide (d.week = 0) with
        | false => exact rday_j1 d w (decide_eq_true k1) hm hw T1 T2
        | true =>
          cases hd : decide ((1 : Int) ≤ d.day) with
          | false => exact rday_j2 d w (decide_eq_true k1) hm hw T1 T2 hd
          | true => exact rday_j3 d _ w (decide_eq_true k1) hm hw T1 T2 hd rfl
    · rw [if_neg k1]
      by_cases k2 : d.kind = 2
      · rw [if_pos k2]
        have e : (decide (d.month = 0) && (decide (d.week = 0) && inB d.day 0 365)) = (decide (d.month = 0) && (decide (d.week = 0) && (decide ((0 : Int) ≤ d.day) && decide (d.day ≤ 365)))) := by
          rw [Bool.eq_iff_iff]; unfold inB; simp only [Bool.and_eq_true, decide_eq_true_eq]; try omega
        rw [e]
        cases hm : decide (d.month = 0) with
        | false => exact rday_z0 d w (decide_eq_false k1) (decide_eq_true k2) hm T1 T2
        | true =>
          cases hw : decide (d.week = 0) with
          | false => exact rday_z1 d w (decide_eq_false k1) (decide_eq_true k2) hm hw T1 T2
          | true =>
            cases hd : decide ((0 : Int) ≤ d.day) with
            | false => exact rday_z2 d w (decide_eq_false k1) (decide_eq_true k2) hm hw T1 T2 hd
            | true => exact rday_z3 d _ w (decide_eq_false k1) (decide_eq_true k2) hm hw T1 T2 hd rfl
      · rw [if_neg k2]
        by_cases k3 : d.kind = 3
        · rw [if_pos k3]
          have e : (inB d.month 1 12 && (inB d.week 1 5 && inB d.day 0 6)) = (decide ((1 : Int) ≤ d.month) && (decide (d.month ≤ 12) && (decide ((1 : Int) ≤ d.week) && (decide (d.week ≤ 5) && (decide ((0 : Int) ≤ d.day) && decide (d.day ≤ 6)))))) := by
            unfold inB; simp only [Bool.and_assoc]
          rw [e]
          cases h0 : decide ((1 : Int) ≤ d.month) with
          | false => exact rday_m0 d w (decide_eq_false k1) (decide_eq_false k2) (decide_eq_true k3) T1 T2  h0
          | true =>
            cases h1 : decide (d.month ≤ 12) with
            | false => exact rday_m1 d w (decide_eq_false k1) (decide_eq_false k2) (decide_eq_true k3) T1 T2 h0 h1
            | true =>
              cases h2 : decide ((1 : Int) ≤ d.week) with
              | false => exact rday_m2 d w (decide_eq_false k1) (decide_eq_false k2) (decide_eq_true k3) T1 T2 h0 h1 h2
              | true =>
                cases h3 : decide (d.week ≤ 5) with
                | false => exact rday_m3 d w (decide_eq_false k1) (decide_eq_false k2) (decide_eq_true k3) T1 T2 h0 h1 h2 h3
                | true =>
                  cases h4 : decide ((0 : Int) ≤ d.day) with
                  | false => exact rday_m4 d w (decide_eq_false k1) (decide_eq_false k2) (decide_eq_true k3) T1 T2 h0 h1 h2 h3 h4
                  | true =>
                    exact rday_m5 d _ w (decide_eq_false k1) (decide_eq_false k2) (decide_eq_true k3) T1 T2 h0 h1 h2 h3 h4 rfl
        · rw [if_neg k3]
          exact rday_n d w (decide_eq_false k1) (decide_eq_false k2) (decide_eq_false k3) T1 T2
end Go.Proofs.YtkfhipkcnocokaaDoor.Fo
