/-
  What the laws' walks of layer 3 share: worlds between, and that there is a day of each number.
-/
import Derived.Test.YtcllimfaoajapabDoorCvWorks
import Derived.Lib.QuietBelow
namespace Go.Proofs.YtcllimfaoajapabDoor.Cv
open Go.RowKit

/-- A walk from any world of which the same is known. -/
theorem wp_world {P : Program} {c : Code} {Q : Exit → Act → World → Prop} {a : Act} {W : World} (R : World → Prop) (h : R W) (k : ∀ W, R W → Code.wp P c Q a W) : Code.wp P c Q a W := k W h

/-! A region that draws its order, whose callees make at most new blocks, walked once (Derived/Lib/QuietBelow.lean). -/
theorem below_class {W w' : World} (h : ∃ p : Regrown, w' = Sort.grow (redrawn W p.d) p.os) : Below W.heap.size W w' := by
  obtain ⟨p, rfl⟩ := h; exact below_regrown W p.d p.os
theorem same_class {P : Program} {f : FuncId} {args : Array Value} {w : World} {d : Nat} {os : Array Obj} {v : Value}
    (h : Calls P f args (Sort.grow (redrawn w d) os) fun e w' => e = .returned v ∧ Sort.grow (redrawn w d) os = w') : Calls P f args (Sort.grow (redrawn w d) os) fun e w'' => e = .returned v ∧ ∃ p : Regrown, w'' = Sort.grow (redrawn w p.d) p.os :=
  Calls.regrown_of (h.mono fun _ _ ⟨he, hb⟩ => ⟨he, hb ▸ Below.refl _ _⟩)
theorem Tab.grow {W : World} (h : Tab W) (d : Nat) (os : Array Obj) : Tab (Sort.grow (redrawn W d) os) := h.of (below_regrown W d os)
theorem weekday_v (y m d n v : Int) (w : World) (ht : Tab w) (h : Right y m d) (hn : num y m d = n) (hv : wday n = v) : Calls Tryd.prog 15 #[dv y m d] w fun e w' => e = .returned (.int .i64 v) ∧ Below w.heap.size w w' := by
  subst hv; exact weekday_at y m d n w ht h hn

theorem month_of (y l : Int) (h0 : 0 ≤ l) : ∀ k : Nat, k ≤ 12 → l < cum y ((k : Int) + 1) → ∃ m : Int, 1 ≤ m ∧ m ≤ 12 ∧ cum y m ≤ l ∧ l < cum y (m + 1)
  | 0, _, h => by have := cum_one y; simp at h; omega
  | k + 1, hk, h => by
    by_cases g : l < cum y ((k : Int) + 1)
    · exact month_of y l h0 k (by omega) g
    · exact ⟨(k : Int) + 1, by omega, by omega, by omega, by rw [show ((k : Int) + 1 + 1) = (((k + 1 : Nat) : Int) + 1) by omega]; exact h⟩
/-- Of each number in range there is a day. -/
theorem day_of (n : Int) (h0 : -719162 ≤ n) (h1 : n ≤ 2932896) : ∃ y m d, Right y m d ∧ num y m d = n := by
  obtain ⟨a1, a2, a3, a4, a5⟩ := yrOf_ok (n + 719162) (by omega) (by omega)
  have hc : leftOf (n + 719162) < cum (yrOf (n + 719162)) (((12 : Nat) : Int) + 1) := by
    rw [show (((12 : Nat) : Int) + 1) = 13 from rfl, cum_end]; exact a5
  obtain ⟨m, b1, b2, b3, b4⟩ := month_of (yrOf (n + 719162)) (leftOf (n + 719162)) a4 12 (Nat.le_refl _) hc
  rw [cum_succ _ _ b1 b2] at b4
  exact ⟨yrOf (n + 719162), m, leftOf (n + 719162) - cum (yrOf (n + 719162)) m + 1, ⟨a1, a2, b1, b2, by omega, by omega⟩, by unfold num; omega⟩

theorem date_at0 (y m d : Int) (w : World) (t : TypeId) {B : Nat} (hB : B = w.heap.size) : DateAt B y m d (w.alloc (.cells #[.int .i64 y, .int .i64 m, .int .i64 d] t)) := by
  subst hB; exact date_new y m d w t

/-! The laws' calls, from a world whose first blocks are as they were. -/
section
variable {W u : World} (hk : Below W.heap.size W u)
include hk
theorem right_k (y m d : Int) (c : Bool) (ht : Tab W) (h : right y m d = c) : Calls Tryd.prog 11 #[dv y m d] u fun e w' => e = .returned (.bool c) ∧ Below W.heap.size W w' :=
  (right_at y m d c u (ht.of hk) h).mono fun _ _ ⟨he, hb⟩ => ⟨he, hk.trans (hb.mono hk.size)⟩
theorem rright_k (y m d : Int) (c : Bool) (h : right y m d = c) : Calls Tryd.prog 12 #[dv y m d] u fun e w' => e = .returned (.bool c) ∧ Below W.heap.size W w' :=
  (rright_at y m d c u h).mono fun _ _ ⟨he, hb⟩ => ⟨he, hk.trans (hb.mono hk.size)⟩
theorem long_k (y m : Int) (ht : Tab W) : Calls Tryd.prog 13 #[.int .i64 y, .int .i64 m] u fun e w' => e = .returned (.int .i64 (long y m)) ∧ Below W.heap.size W w' :=
  (long_any y m u (ht.of hk)).mono fun _ _ ⟨he, hb⟩ => ⟨he, hb ▸ hk⟩
theorem weekday_k (y m d n : Int) (ht : Tab W) (h : Right y m d) (hn : num y m d = n) : Calls Tryd.prog 15 #[dv y m d] u fun e w' => e = .returned (.int .i64 (wday n)) ∧ Below W.heap.size W w' :=
  (weekday_at y m d n u (ht.of hk) h hn).mono fun _ _ ⟨he, hb⟩ => ⟨he, hk.trans (hb.mono hk.size)⟩
theorem long_kv (y m v : Int) (ht : Tab W) (h : long y m = v) : Calls Tryd.prog 13 #[.int .i64 y, .int .i64 m] u fun e w' => e = .returned (.int .i64 v) ∧ Below W.heap.size W w' := by
  subst h; exact long_k hk y m ht
theorem weekday_kv (y m d n v : Int) (ht : Tab W) (h : Right y m d) (hn : num y m d = n) (hv : wday n = v) : Calls Tryd.prog 15 #[dv y m d] u fun e w' => e = .returned (.int .i64 v) ∧ Below W.heap.size W w' := by
  subst hv; exact weekday_k hk y m d n ht h hn
theorem rdays_k (y m d n : Int) (h : Right y m d) (hn : num y m d = n) : Calls Tryd.prog 17 #[dv y m d] u fun e w' => e = .returned (.int .i64 n) ∧ Below W.heap.size W w' :=
  (rdays_at y m d n u h hn).mono fun _ _ ⟨he, hb⟩ => ⟨he, hk.trans (hb.mono hk.size)⟩
theorem works_k (ht : Tab W) : Calls Tryd.prog 16 #[] u fun e w' => e = .returned (.bool true) ∧ Below W.heap.size W w' :=
  (works_any u (ht.of hk)).mono fun _ _ ⟨he, hb⟩ => ⟨he, hk.trans (hb.mono hk.size)⟩
end
end Go.Proofs.YtcllimfaoajapabDoor.Cv
