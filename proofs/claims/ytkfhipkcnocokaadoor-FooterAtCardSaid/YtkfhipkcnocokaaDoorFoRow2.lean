/-
  What the rows of layer 7 ask, besides: the table of powers of ten.
-/
import Derived.Test.YtkfhipkcnocokaaDoorFoRow
import Derived.Test.YtkfhipkcnocokaaDoorFoText
namespace Go.Proofs.YtkfhipkcnocokaaDoor.Fo
open Go.ChangeShapes Go.WideShapes Go.ChangeAt Go.RowKit Go.Joins Go.Deep

theorem pw_of5 {W : World} (h : laidMetH Tryd.prog laid5 W) : Pw W := by
  rw [MakeChecks.laidMetH_plain _ _ _ (by kernel_rfl)] at h
  exact Lib.tabIs_of_head (k := .u64) (zs := Lib.pow10Tab) gPow (by kernel_rfl) Tryd.underlying131 Tryd.underlying116 (by kernel_rfl) (by kernel_rfl) h.tail.tail
theorem pw_of6 {W : World} (h : laidMetH Tryd.prog laid6 W) : Pw W := by
  rw [MakeChecks.laidMetH_plain _ _ _ (by kernel_rfl)] at h
  exact Lib.tabIs_of_head (k := .u64) (zs := Lib.pow10Tab) gPow (by kernel_rfl) Tryd.underlying131 Tryd.underlying116 (by kernel_rfl) (by kernel_rfl) h.tail.tail
end Go.Proofs.YtkfhipkcnocokaaDoor.Fo
