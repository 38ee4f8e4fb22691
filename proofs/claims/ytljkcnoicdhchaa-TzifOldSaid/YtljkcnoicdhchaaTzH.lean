/-
  Layer 6 (tzif): the law's few.
-/
import Derived.Test.YtljkcnoicdhchaaTzG
namespace Go.Proofs.Ytljkcnoicdhchaa.Tz
open Go.RowKit

def fewZ (z : Zn) (n : Int) : Bool := decide ((z.types.length : Int) ≤ 300) && decide ((z.times.length : Int) ≤ n) && decide ((z.index.length : Int) ≤ n) && decide ((z.footer.size : Int) ≤ 200)
set_option maxRecDepth 100000 in
set_option maxHeartbeats 4000000 in
theorem few_any (z : Zn) (vt vs vi : Value) (B : Nat) (n : Int) (w : World) (h : ZnAt w B z vt vs vi) : Calls Try.prog 8 #[.agg #[vt, vs, vi, .string z.footer], .int .i64 n] w fun e w' => e = .returned (.bool (fewZ z n)) ∧ Below w.heap.size w w' := by
  obtain ⟨At, ct, rfl⟩ := h.types.len
  obtain ⟨As, cs, rfl⟩ := h.times.len
  obtain ⟨Ai, ci, rfl⟩ := h.index.len
  clear h
  have z0 := World.cell?_alloc_mark w #[.slice At z.types.length ct, .slice As z.times.length cs, .slice Ai z.index.length ci, .string z.footer] 26 (0, 0) 0
  have z1 := World.cell?_alloc_mark w #[.slice At z.types.length ct, .slice As z.times.length cs, .slice Ai z.index.length ci, .string z.footer] 26 (0, 0) 1
  have z2 := World.cell?_alloc_mark w #[.slice At z.types.length ct, .slice As z.times.length cs, .slice Ai z.index.length ci, .string z.footer] 26 (0, 0) 2
  have z3 := World.cell?_alloc_mark w #[.slice At z.types.length ct, .slice As z.times.length cs, .slice Ai z.index.length ci, .string z.footer] 26 (0, 0) 3
  have HB0 : Hid (Below w.heap.size w (w.alloc (.cells #[.slice At z.types.length ct, .slice As z.times.length cs, .slice Ai z.index.length ci, .string z.footer] 26))) := Lib.hid ((Below.refl _ _).alloc (Nat.le_refl _) _)
  simp only [List.getElem?_toArray, List.getElem?_cons_zero, List.getElem?_cons_succ] at z0 z1 z2 z3
  by_cases h0 : (z.types.length : Int) ≤ 300
  · by_cases h1 : (z.times.length : Int) ≤ n
    · by_cases h2 : (z.index.length : Int) ≤ n
      · by_cases h3 : (z.footer.size : Int) ≤ 200
        · rw [show fewZ z n = true from by unfold fewZ; simp [h0, h1, h2, h3]]
          go_enter Try.func8, Try.ntmps8
          go_wp2_with fail
          go_ret
          exact ⟨rfl, HB0.out⟩
        · rw [show fewZ z n = false from by unfold fewZ; simp [h0, h1, h2, h3]]
          go_enter Try.func8, Try.ntmps8
          go_wp2_with fail
          go_ret
          exact ⟨rfl, HB0.out⟩
      · rw [show fewZ z n = false from by unfold fewZ; simp [h0, h1, h2]]
        go_enter Try.func8, Try.ntmps8
        go_wp2_with fail
        go_ret
        exact ⟨rfl, HB0.out⟩
    · rw [show fewZ z n = false from by unfold fewZ; simp [h0, h1]]
      go_enter Try.func8, Try.ntmps8
      go_wp2_with fail
      go_ret
      exact ⟨rfl, HB0.out⟩
  · rw [show fewZ z n = false from by unfold fewZ; simp [h0]]
    go_enter Try.func8, Try.ntmps8
    go_wp2_with fail
    go_ret
    exact ⟨rfl, HB0.out⟩
end Go.Proofs.Ytljkcnoicdhchaa.Tz
