/-
  What civil.Micro and civil.FromMicro answer.
-/
import Derived.Test.YtkfhipkcnocokaaDoorCvOf
namespace Go.Proofs.YtkfhipkcnocokaaDoor.Cv
open Go.RowKit

/-- A clock as the program has it. -/
abbrev cv (y m d h i s u : Int) : Value := .agg #[.int .i64 y, .int .i64 m, .int .i64 d, .int .i64 h, .int .i64 i, .int .i64 s, .int .i64 u]
/-- A time of a day. -/
def Time (h i s u : Int) : Prop := (0 ≤ h ∧ h ≤ 23) ∧ (0 ≤ i ∧ i ≤ 59) ∧ (0 ≤ s ∧ s ≤ 59) ∧ (0 ≤ u ∧ u ≤ 999999)

/-- A clock's microseconds. -/
def mic (n h i s u : Int) : Int := n * 86400000000 + h * 3600000000 + i * 60000000 + s * 1000000 + u

/-- The cells of a clock in a block. -/
def ClockAt (B : Nat) (y m d h i s u : Int) (w : World) : Prop :=
  w.cell? ⟨B, 0, none⟩ = some (.int .i64 y) ∧ w.cell? ⟨B, 1, none⟩ = some (.int .i64 m) ∧ w.cell? ⟨B, 2, none⟩ = some (.int .i64 d) ∧ w.cell? ⟨B, 3, none⟩ = some (.int .i64 h) ∧ w.cell? ⟨B, 4, none⟩ = some (.int .i64 i) ∧ w.cell? ⟨B, 5, none⟩ = some (.int .i64 s) ∧ w.cell? ⟨B, 6, none⟩ = some (.int .i64 u)
theorem ClockAt.below {B C : Nat} {y m d h i s u : Int} {w w' : World} (k : ClockAt B y m d h i s u w) (hb : Below C w w') (hB : B < C) : ClockAt B y m d h i s u w' := by
  unfold ClockAt at k ⊢
  rw [hb.cell (p := ⟨B, 0, none⟩) hB, hb.cell (p := ⟨B, 1, none⟩) hB, hb.cell (p := ⟨B, 2, none⟩) hB, hb.cell (p := ⟨B, 3, none⟩) hB, hb.cell (p := ⟨B, 4, none⟩) hB, hb.cell (p := ⟨B, 5, none⟩) hB, hb.cell (p := ⟨B, 6, none⟩) hB]
  exact k
theorem clock_new (y m d h i s u : Int) (w : World) (t : TypeId) : ClockAt w.heap.size y m d h i s u (w.alloc (.cells #[.int .i64 y, .int .i64 m, .int .i64 d, .int .i64 h, .int .i64 i, .int .i64 s, .int .i64 u] t)) := by
  unfold ClockAt; simp [go_sem]
theorem set7 (B : Nat) {a w : World} (h : Below B a w) (v0 v1 v2 v3 v4 v5 v6 : Value) :
    Below B a (((((((w.setCell ⟨B, 0, none⟩ v0).setCell ⟨B, 1, none⟩ v1).setCell ⟨B, 2, none⟩ v2).setCell ⟨B, 3, none⟩ v3).setCell ⟨B, 4, none⟩ v4).setCell ⟨B, 5, none⟩ v5).setCell ⟨B, 6, none⟩ v6) :=
  ((((((h.setCell (Nat.le_refl _) _).setCell (Nat.le_refl _) _).setCell (Nat.le_refl _) _).setCell (Nat.le_refl _) _).setCell (Nat.le_refl _) _).setCell (Nat.le_refl _) _).setCell (Nat.le_refl _) _
set_option maxHeartbeats 400000 in
theorem from_no (n : Int) (w : World) (hn : -9223372036854775808 ≤ n ∧ n ≤ 9223372036854775807) (h : n / 86400000000 < -719162 ∨ 2932896 < n / 86400000000) :
    Calls Tryd.prog 64 #[.int .i64 n] w fun e w' => e = .returned (.tuple #[cv 0 0 0 0 0 0 0, .int .i64 6]) ∧ Below w.heap.size w w' := by
  have H := Lib.hid h
  clear h
  go_enter Tryd.func64, Tryd.ntmps64
  go_wp2_with fail
  refine (divDay n _ hn).mono ?_
  rintro e w1 ⟨rfl, k, rfl⟩
  go_wp2_with fail
  refine (of_no _ _ H.out).mono ?_
  rintro e w2 ⟨rfl, hB⟩
  have HB := Lib.hid ((below_drewN ((Below.refl w.heap.size w).alloc (Nat.le_refl _) (.cells #[.int .i64 0, .int .i64 0, .int .i64 0, .int .i64 0, .int .i64 0, .int .i64 0, .int .i64 0] 92)) k).trans (hB.mono (by simp)))
  have hc := ((clock_new 0 0 0 0 0 0 0 w 92).below (below_drewN (Below.refl (w.heap.size + 1) _) k) (by omega)).below hB (by simp)
  obtain ⟨c0, c1, c2, c3, c4, c5, c6⟩ := hc
  have hf : ∀ o, w2.frozen? ⟨w.heap.size, o, none⟩ = false := fun o => by rw [hB.frozen (p := ⟨w.heap.size, o, none⟩) (by simp)]; simp [go_sem]
  have f0 := hf 0
  have f1 := hf 1
  have f2 := hf 2
  have f3 := hf 3
  have f4 := hf 4
  have f5 := hf 5
  have f6 := hf 6
  have hlt : w.heap.size < w2.heap.size := by have := hB.size; simp at this; omega
  clear hf hB
  go_wp2
  exact bodyPost_ret (v := .tuple #[cv 0 0 0 0 0 0 0, .int .i64 6]) (by simp [results, Tryd.results64, go_sem, c0, c1, c2, c3, c4, c5, c6, hlt]) rfl ⟨rfl, (set7 w.heap.size HB.out _ _ _ _ _ _ _).alloc (by have := HB.out.size; simpa using this) _⟩

end Go.Proofs.YtkfhipkcnocokaaDoor.Cv
