/-
  The walk of the law CivilOf.
-/
import Derived.Test.YtcllimfaoajapabDoorCvLaw
namespace Go.Proofs.YtcllimfaoajapabDoor.Cv
open Go.RowKit

set_option maxRecDepth 100000 in
set_option maxHeartbeats 2000000 in
theorem of_law_low (n : Int) (w : World) (ht : Tab w) (h : n < -719162) :
    Calls Tryd.prog 4 #[.int .i64 n] w fun e w' => e = .returned (.bool true) ∧ Below w.heap.size w w' := by
  have HT := Lib.hid ht
  clear ht
  go_enter Tryd.func4, Tryd.ntmps4
  go_wp2_with fail
  refine (of_no n _ (by omega)).mono ?_
  rintro e w1 ⟨rfl, hB⟩
  have HB1 := Lib.hid (hB.alloc hB.size (.cells #[.int .i64 0, .int .i64 0, .int .i64 0] 23))
  clear hB
  go_wp2_with fail
  refine (works_any _ (HT.out.of HB1.out)).mono ?_
  rintro e w2 ⟨rfl, hB⟩
  have HB2 := Lib.hid (HB1.out.trans (hB.mono HB1.out.size))
  clear hB
  go_wp2
  go_ret
  exact ⟨rfl, HB2.out⟩
set_option maxRecDepth 100000 in
set_option maxHeartbeats 2000000 in
theorem of_law_high (n : Int) (w : World) (ht : Tab w) (h : 2932896 < n) :
    Calls Tryd.prog 4 #[.int .i64 n] w fun e w' => e = .returned (.bool true) ∧ Below w.heap.size w w' := by
  have h' : ¬ n < -719162 := by omega
  have HT := Lib.hid ht
  clear ht
  go_enter Tryd.func4, Tryd.ntmps4
  go_wp2_with fail
  refine (of_no n _ (by omega)).mono ?_
  rintro e w1 ⟨rfl, hB⟩
  have HB1 := Lib.hid (hB.alloc hB.size (.cells #[.int .i64 0, .int .i64 0, .int .i64 0] 23))
  clear hB
  go_wp2_with fail
  refine (works_any _ (HT.out.of HB1.out)).mono ?_
  rintro e w2 ⟨rfl, hB⟩
  have HB2 := Lib.hid (HB1.out.trans (hB.mono HB1.out.size))
  clear hB
  go_wp2
  go_ret
  exact ⟨rfl, HB2.out⟩

set_option maxRecDepth 100000 in
set_option maxHeartbeats 2000000 in
theorem of_law_last (n : Int) (w : World) (ht : Tab w) (hn : num 9999 12 31 = n) (h0 : n = 2932896) (hr : Right 9999 12 31) :
    Calls Tryd.prog 4 #[.int .i64 n] w fun e w' => e = .returned (.bool true) ∧ Below w.heap.size w w' := by
  subst h0
  have HT := Lib.hid ht
  have HN := Lib.hid hn
  have HR := Lib.hid hr
  have HRB := Lib.hid ((right_iff _ _ _).2 hr)
  clear ht hn hr
  go_enter Tryd.func4, Tryd.ntmps4
  go_wp2_with fail
  refine (of_yes 9999 12 31 _ _ HT.out HR.out HN.out).mono ?_
  rintro e w1 ⟨rfl, hB⟩
  have HB1 := Lib.hid (hB.alloc hB.size (.cells #[.int .i64 9999, .int .i64 12, .int .i64 31] 23))
  have HD1 := Lib.hid (date_new 9999 12 31 w1 23)
  clear hB
  go_wp2_with fail
  refine (days_at 9999 12 31 _ _ (HT.out.of HB1.out) HR.out HN.out).mono ?_
  rintro e w2 ⟨rfl, hB⟩
  have HB2 := Lib.hid (HB1.out.trans (hB.mono HB1.out.size))
  have hd := HD1.out.below hB (by simp)
  have HD2 := Lib.hid hd
  have HL2 := Lib.hid (show w1.heap.size < w2.heap.size by have := hB.size; simp at this; omega)
  obtain ⟨c0, c1, c2⟩ := hd
  clear hB
  go_wp2_with fail
  refine (plain_any _ _ _ _).mono ?_
  rintro e w3 ⟨rfl, hB⟩
  have HB3 := Lib.hid (HB2.out.trans (hB.mono HB2.out.size))
  have HD3 := Lib.hid (HD2.out.below hB HL2.out)
  have HL3 := Lib.hid (Nat.lt_of_lt_of_le HL2.out hB.size)
  clear hB
  go_wp2_with fail
  refine (rof_at 9999 12 31 _ _ HR.out HN.out).mono ?_
  rintro e w4 ⟨rfl, hB⟩
  have HB4 := Lib.hid (HB3.out.trans (hB.mono HB3.out.size))
  clear c0 c1 c2
  have hd := HD3.out.below hB HL3.out
  have HD4 := Lib.hid hd
  have HL4 := Lib.hid (Nat.lt_of_lt_of_le HL3.out hB.size)
  obtain ⟨c0, c1, c2⟩ := hd
  clear hB
  go_wp2_with fail
  refine (right_at _ _ _ true _ (HT.out.of HB4.out) HRB.out).mono ?_
  rintro e w5 ⟨rfl, hB⟩
  have HB5 := Lib.hid (HB4.out.trans (hB.mono HB4.out.size))
  clear c0 c1 c2
  have hd := HD4.out.below hB HL4.out
  obtain ⟨c0, c1, c2⟩ := hd
  clear hB
  go_wp2_with fail
  refine (works_any _ (HT.out.of HB5.out)).mono ?_
  rintro e w6 ⟨rfl, hB⟩
  have HB6 := Lib.hid (HB5.out.trans (hB.mono HB5.out.size))
  clear hB
  go_wp2
  go_ret
  exact ⟨rfl, HB6.out⟩
end Go.Proofs.YtcllimfaoajapabDoor.Cv
