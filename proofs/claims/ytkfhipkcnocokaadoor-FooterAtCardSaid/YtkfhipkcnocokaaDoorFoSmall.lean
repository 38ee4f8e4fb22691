/-
  Layer 7 (footer): its small calls: what is between two numbers; which runes are letters.
-/
import Derived.Test.YtkfhipkcnocokaaDoorFoBase
import Derived.Test.YtkfhipkcnocokaaDoorShelf
namespace Go.Proofs.YtkfhipkcnocokaaDoor.Fo
open Go.RowKit

theorem inB_no {n a b : Int} (h : ¬ a ≤ n) : inB n a b = false := by unfold inB; simp [h]
theorem inB_yes {n a b : Int} (h : a ≤ n) : inB n a b = decide (n ≤ b) := by unfold inB; simp [h]
set_option maxHeartbeats 400000 in
theorem within_any (n a b : Int) (w : World) : Calls Tryd.prog 43 #[.int .i64 n, .int .i64 a, .int .i64 b] w fun e w' => e = .returned (.bool (inB n a b)) ∧ w = w' := by
  by_cases h : a ≤ n
  · rw [inB_yes h]
    have h2 := decide_eq_true h
    clear h
    go_enter Tryd.func43, Tryd.ntmps43
    go_wp2
    go_ret
    exact ⟨rfl, rfl⟩
  · rw [inB_no h]
    have h2 := decide_eq_false h
    clear h
    go_enter Tryd.func43, Tryd.ntmps43
    go_wp2
    go_ret
    exact ⟨rfl, rfl⟩
set_option maxHeartbeats 400000 in
theorem withinR_any (n a b : Int) (w : World) : Calls Tryd.prog 71 #[.int .i32 n, .int .i32 a, .int .i32 b] w fun e w' => e = .returned (.bool (inB n a b)) ∧ w = w' := by
  by_cases h : a ≤ n
  · rw [inB_yes h]
    have h2 := decide_eq_true h
    clear h
    go_enter Tryd.func71, Tryd.ntmps71
    go_wp2
    go_ret
    exact ⟨rfl, rfl⟩
  · rw [inB_no h]
    have h2 := decide_eq_false h
    clear h
    go_enter Tryd.func71, Tryd.ntmps71
    go_wp2
    go_ret
    exact ⟨rfl, rfl⟩
theorem inB_nat (x : Nat) (a b : Nat) : inB (x : Int) (a : Int) (b : Int) = decide (a ≤ x ∧ x ≤ b) := by
  unfold inB
  by_cases h : a ≤ x <;> by_cases h2 : x ≤ b <;> simp [h, h2] <;> omega
/-- A digit, as the program's function literal tells. -/
theorem digit_pays (w : World) : PredGrows Tryd.prog 89 #[] dgt w := fun W x hx _ => by
  have HW : Hid (∀ V, Calls Tryd.prog 71 #[.int .i32 (x : Int), .int .i32 48, .int .i32 57] V fun e w' => e = .returned (.bool (dgt x)) ∧ V = w') := Lib.hid fun V => by
    have := withinR_any (x : Int) 48 57 V
    rwa [show inB (x : Int) 48 57 = dgt x from inB_nat x 48 57] at this
  show Calls Tryd.prog 89 #[.int .i32 (x : Int)] W _
  go_enter Tryd.func89, Tryd.ntmps89
  go_wp2_with (first
    | (go_at_call 71; refine (HW.out _).mono ?_; rintro e V1 ⟨rfl, rfl⟩)
    | fail)
  go_ret
  exact ⟨rfl, Below.refl _ _⟩
end Go.Proofs.YtkfhipkcnocokaaDoor.Fo
