/-
  The walk of the law UsecOrder, by the contracts of package usec: plain facts on Later.
-/
import Derived.Test.YtkdedagilaaldaaUsecRulesWalk
namespace Go.Proofs.Ytkdedagilaaldaa.Us
open Go.RowKit

/-- What is later is no less with a greater span. -/
theorem laterV_mono (c x y : Int) (hx : -9223372036854775808 ≤ x ∧ x ≤ 9223372036854775807) (hy : -9223372036854775808 ≤ y ∧ y ≤ 9223372036854775807) (hc : -9223372036854775808 ≤ c ∧ c ≤ 9223372036854775807) (h : x ≤ y) : decide (laterV c y < laterV c x) = false := by
  rw [decide_eq_false_iff_not]
  have g := (laterV_fits c x).2
  unfold laterV at g ⊢
  by_cases h1 : c = 9223372036854775807 ∨ y = 9223372036854775807
  · rw [if_pos h1]; exact Int.not_lt.2 g
  · have h1' : ¬ (c = 9223372036854775807 ∨ x = 9223372036854775807) := by omega
    rw [if_neg h1'] at g
    rw [if_neg h1, if_neg h1']
    cases h2 : fits (c + max y 0)
    · rw [if_neg (show ¬ false = true by simp)]; exact Int.not_lt.2 g
    · have := of_fits h2
      rw [if_pos rfl, fits_yes (show -9223372036854775808 ≤ c + max x 0 ∧ c + max x 0 ≤ 9223372036854775807 by omega), if_pos rfl]
      omega
theorem laterV_from (c y : Int) (hc : -9223372036854775808 ≤ c ∧ c ≤ 9223372036854775807) : decide (laterV c y < c) = false := by
  rw [decide_eq_false_iff_not]
  unfold laterV
  split
  · omega
  · split <;> omega

end Go.Proofs.Ytkdedagilaaldaa.Us
