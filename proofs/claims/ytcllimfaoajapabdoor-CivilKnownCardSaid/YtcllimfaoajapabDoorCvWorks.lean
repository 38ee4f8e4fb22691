/-
  The chapter's examples ('works').
-/
import Derived.Test.YtcllimfaoajapabDoorCvRefDays
namespace Go.Proofs.YtcllimfaoajapabDoor.Cv
open Go.RowKit

theorem r1 : Right 2000 2 29 := by unfold Right; decide
theorem n1 : num 2000 2 29 = 11016 := by decide
theorem r2 : Right 1969 12 31 := by unfold Right; decide
theorem n2 : num 1969 12 31 = -1 / 86400000000 := by decide
theorem r3 : right 1900 2 29 = false := by decide
theorem Tab.of {w w' : World} (h : Tab w) (hb : Below w.heap.size w w') : Tab w' := h.below hb (Nat.le_refl _)

set_option maxHeartbeats 2000000 in
theorem works_any (w : World) (ht : Tab w) :
    Calls Tryd.prog 16 #[] w fun e w' => e = .returned (.bool true) ∧ Below w.heap.size w w' := by
  have HT := Lib.hid ht
  clear ht
  go_enter Tryd.func16, Tryd.ntmps16
  go_wp2_with fail
  have hA := (Below.refl w.heap.size w).alloc (Nat.le_refl _) (.cells #[.int .i64 2000, .int .i64 2, .int .i64 29] 23)
  refine (days_at 2000 2 29 11016 _ (HT.out.of hA) r1 n1).mono ?_
  rintro e w1 ⟨rfl, hB⟩
  have HB1 := Lib.hid (hA.trans (hB.mono (by simp)))
  have D1 := Lib.hid ((date_new 2000 2 29 w 23).below hB (by simp))
  have HL1 := Lib.hid (show w.heap.size < w1.heap.size by have := hB.size; simp at this; omega)
  clear hB hA
  go_wp2_with fail
  refine (from_at (-1) 1969 12 31 86399999999 _ (HT.out.of HB1.out) (by omega) r2 n2 (by decide)).mono ?_
  rintro e w2 ⟨rfl, hB⟩
  have HB2 := Lib.hid (HB1.out.trans (hB.mono HB1.out.size))
  have D2 := D1.out.below hB HL1.out
  have HL2 := Nat.lt_of_lt_of_le HL1.out hB.size
  obtain ⟨c0, c1, c2⟩ := D2
  clear hB D1 HL1 HB1
  go_wp2_with fail
  have k1 : ClockAt w2.heap.size 1969 12 31 23 59 59 999999 ((w2.alloc (.cells #[.int .i64 1969, .int .i64 12, .int .i64 31, .int .i64 23, .int .i64 59, .int .i64 59, .int .i64 999999] 41)).alloc (.cells #[.int .i64 1969, .int .i64 12, .int .i64 31, .int .i64 23, .int .i64 59, .int .i64 59, .int .i64 999999] 41)) :=
    (clock_new 1969 12 31 23 59 59 999999 w2 41).below ((Below.refl (w2.heap.size + 1) _).alloc (by simp) _) (by omega)
  have k2 : ClockAt (w2.heap.size + 1) 1969 12 31 23 59 59 999999 ((w2.alloc (.cells #[.int .i64 1969, .int .i64 12, .int .i64 31, .int .i64 23, .int .i64 59, .int .i64 59, .int .i64 999999] 41)).alloc (.cells #[.int .i64 1969, .int .i64 12, .int .i64 31, .int .i64 23, .int .i64 59, .int .i64 59, .int .i64 999999] 41)) := by
    have := clock_new 1969 12 31 23 59 59 999999 (w2.alloc (.cells #[.int .i64 1969, .int .i64 12, .int .i64 31, .int .i64 23, .int .i64 59, .int .i64 59, .int .i64 999999] 41)) 41
    simpa using this
  have hWs : ((w2.alloc (.cells #[.int .i64 1969, .int .i64 12, .int .i64 31, .int .i64 23, .int .i64 59, .int .i64 59, .int .i64 999999] 41)).alloc (.cells #[.int .i64 1969, .int .i64 12, .int .i64 31, .int .i64 23, .int .i64 59, .int .i64 59, .int .i64 999999] 41)).heap.size = w2.heap.size + 2 := by simp
  have hWb : Below w.heap.size w ((w2.alloc (.cells #[.int .i64 1969, .int .i64 12, .int .i64 31, .int .i64 23, .int .i64 59, .int .i64 59, .int .i64 999999] 41)).alloc (.cells #[.int .i64 1969, .int .i64 12, .int .i64 31, .int .i64 23, .int .i64 59, .int .i64 59, .int .i64 999999] 41)) :=
    (HB2.out.alloc HB2.out.size _).alloc (by have := HB2.out.size; simp; omega) _
  clear c0 c1 c2 HL2
  generalize (w2.alloc (.cells #[.int .i64 1969, .int .i64 12, .int .i64 31, .int .i64 23, .int .i64 59, .int .i64 59, .int .i64 999999] 41)).alloc (.cells #[.int .i64 1969, .int .i64 12, .int .i64 31, .int .i64 23, .int .i64 59, .int .i64 59, .int .i64 999999] 41) = W at *
  have K1 := Lib.hid k1
  have K2 := Lib.hid k2
  have HW := Lib.hid hWb
  have HS := Lib.hid hWs
  clear k1 k2 hWb hWs
  refine (weekday_at 2000 2 29 11016 _ (HT.out.of HW.out) r1 n1).mono ?_
  rintro e w3 ⟨rfl, hB⟩
  have HB3 := Lib.hid (HW.out.trans (hB.mono HW.out.size))
  have K3 := Lib.hid (K1.out.below hB (by rw [HS.out]; omega))
  have K4 := Lib.hid (K2.out.below hB (by rw [HS.out]; omega))
  have HL3 := Lib.hid (show w2.heap.size + 1 < w3.heap.size by have := hB.size; rw [HS.out] at this; omega)
  clear hB
  go_wp2_with fail
  refine (right_at 1900 2 29 false _ (HT.out.of HB3.out) r3).mono ?_
  rintro e w4 ⟨rfl, hB⟩
  have HB4 := Lib.hid (HB3.out.trans (hB.mono HB3.out.size))
  have k3 := K3.out.below hB (by have := HL3.out; omega)
  have k4 := K4.out.below hB HL3.out
  obtain ⟨a0, a1, a2, a3, a4, a5, a6⟩ := k3
  obtain ⟨b0, b1, b2, b3, b4, b5, b6⟩ := k4
  clear hB
  go_wp2
  go_ret
  exact ⟨rfl, HB4.out⟩
end Go.Proofs.YtcllimfaoajapabDoor.Cv
