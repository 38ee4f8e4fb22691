/-
  What civil.FromMicro answers, where there is such a day.
-/
import Derived.Test.YtkfhipkcnocokaaDoorCvMicro
namespace Go.Proofs.YtkfhipkcnocokaaDoor.Cv
open Go.RowKit

set_option maxHeartbeats 1000000 in
theorem from_at (n y m d r : Int) (w : World) (ht : Tab w) (hn : -9223372036854775808 ≤ n ∧ n ≤ 9223372036854775807) (hr : Right y m d) (hv : num y m d = n / 86400000000) (hrr : n % 86400000000 = r) :
    Calls Tryd.prog 64 #[.int .i64 n] w fun e w' => e = .returned (.tuple #[cv y m d (r / 3600000000) (r % 3600000000 / 60000000) (r % 60000000 / 1000000) (r % 1000000), .int .i64 0]) ∧ Below w.heap.size w w' := by
  have H := Lib.hid hr
  have HV := Lib.hid hv
  have HA := Lib.hid (ht.below ((Below.refl _ _).alloc (Nat.le_refl _) (.cells #[.int .i64 0, .int .i64 0, .int .i64 0, .int .i64 0, .int .i64 0, .int .i64 0, .int .i64 0] 92)) (Nat.le_refl _))
  have hq : 0 ≤ r ∧ r < 86400000000 := by omega
  have HR := Lib.hid hrr
  obtain ⟨q0, q1⟩ := hq
  clear ht hr hv hrr
  go_enter Tryd.func64, Tryd.ntmps64
  go_wp2_with fail
  refine (divDay n _ hn).mono ?_
  rintro e w1 ⟨rfl, k, rfl⟩
  rw [HR.out]
  go_wp2_with fail
  refine (of_yes y m d _ _ (HA.out.drewN k) H.out HV.out).mono ?_
  rintro e w2 ⟨rfl, hB⟩
  have HB := Lib.hid ((below_drewN ((Below.refl w.heap.size w).alloc (Nat.le_refl _) (.cells #[.int .i64 0, .int .i64 0, .int .i64 0, .int .i64 0, .int .i64 0, .int .i64 0, .int .i64 0] 92)) k).trans (hB.mono (by simp)))
  have hc := ((clock_new 0 0 0 0 0 0 0 w 92).below (below_drewN (Below.refl (w.heap.size + 1) _) k) (by omega)).below hB (by simp)
  obtain ⟨c0, c1, c2, c3, c4, c5, c6⟩ := hc
  have hf : ∀ o, w2.frozen? ⟨w.heap.size, o, none⟩ = false := fun o => by rw [hB.frozen (p := ⟨w.heap.size, o, none⟩) (by simp)]; simp [go_sem]
  have f0 := hf 0
  have f1 := hf 1
  have f2 := hf 2
  have f3 := hf 3
  have f4 := hf 4
  have f5 := hf 5
  have f6 := hf 6
  have hlt : w.heap.size < w2.heap.size := by have := hB.size; simp at this; omega
  clear hf hB
  go_wp2
  exact bodyPost_ret (v := .tuple #[cv y m d (r / 3600000000) (r % 3600000000 / 60000000) (r % 60000000 / 1000000) (r % 1000000), .int .i64 0]) (by simp [results, Tryd.results64, go_sem, c0, c1, c2, c3, c4, c5, c6, hlt]) rfl ⟨rfl, (set7 w.heap.size HB.out _ _ _ _ _ _ _).alloc (by have := HB.out.size; simpa using this) _⟩
end Go.Proofs.YtkfhipkcnocokaaDoor.Cv
