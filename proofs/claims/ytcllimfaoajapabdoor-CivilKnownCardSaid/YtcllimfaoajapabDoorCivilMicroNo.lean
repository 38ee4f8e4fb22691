/-
  The walk of the law CivilMicro, where the clock is not right. (Made by tools/gen_civil.py.)
-/
import Derived.Test.YtcllimfaoajapabDoorCvLaw
import Derived.Deep.RegionHeld3
import Derived.IntWalk
import Derived.BigQuiet
namespace Go.Proofs.YtcllimfaoajapabDoor.Cv
open Go.RowKit

set_option maxRecDepth 100000 in
set_option maxHeartbeats 2000000 in
theorem micro_law_date (y m d h i s u : Int) (hr : right y m d = false) (w : World) (ht : Tab w) :
    Calls Tryd.prog 5 #[cv y m d h i s u] w fun e w' => e = .returned (.bool true) ∧ Below w.heap.size w w' := by
  have HT := Lib.hid ht
  have HR := Lib.hid hr
  clear hr
  clear ht
  have HB0 := Lib.hid (Below.refl w.heap.size w)
  have HDa := Lib.hid (clock_new (y) (m) (d) (h) (i) (s) (u) w 41)
  have HLa := Lib.hid (show w.heap.size < (w.alloc (.cells #[.int .i64 y, .int .i64 m, .int .i64 d, .int .i64 h, .int .i64 i, .int .i64 s, .int .i64 u] 41)).heap.size by simp)
  have HB0 := Lib.hid (HB0.out.alloc HB0.out.size (.cells #[.int .i64 y, .int .i64 m, .int .i64 d, .int .i64 h, .int .i64 i, .int .i64 s, .int .i64 u] 41))
  go_enter Tryd.func5, Tryd.ntmps5
  go_wp2_with fail
  refine (micro_nodate y m d h i s u _ (HT.out.of HB0.out) HR.out).mono ?_
  rintro e w1 ⟨rfl, hB⟩
  have HB1 := Lib.hid (HB0.out.trans (hB.mono HB0.out.size))
  have HDa := Lib.hid (HDa.out.below hB HLa.out)
  have HLa := Lib.hid (Nat.lt_of_lt_of_le HLa.out hB.size)
  clear hB
  obtain ⟨ca0, ca1, ca2, ca3, ca4, ca5, ca6⟩ := HDa.out
  have hLa := HLa.out
  go_wp2_with fail
  refine (plain_any y m d _).mono ?_
  rintro e w2 ⟨rfl, hB⟩
  have HB2 := Lib.hid (HB1.out.trans (hB.mono HB1.out.size))
  clear ca0 ca1 ca2 ca3 ca4 ca5 ca6 hLa
  have HDa := Lib.hid (HDa.out.below hB HLa.out)
  have HLa := Lib.hid (Nat.lt_of_lt_of_le HLa.out hB.size)
  clear hB
  obtain ⟨ca0, ca1, ca2, ca3, ca4, ca5, ca6⟩ := HDa.out
  have hLa := HLa.out
  have HDa := Lib.hid (HDa.out.below ((Below.refl w2.heap.size _).alloc (Nat.le_refl _) (.cells #[.int .i64 y, .int .i64 m, .int .i64 d] 24)) HLa.out)
  have HLa := Lib.hid (show w.heap.size < (w2.alloc (.cells #[.int .i64 y, .int .i64 m, .int .i64 d] 24)).heap.size by have := HLa.out; simp; omega)
  have HDb := Lib.hid (date_new (y) (m) (d) w2 24)
  have HLb := Lib.hid (show w2.heap.size < (w2.alloc (.cells #[.int .i64 y, .int .i64 m, .int .i64 d] 24)).heap.size by simp)
  have HB2 := Lib.hid (HB2.out.alloc HB2.out.size (.cells #[.int .i64 y, .int .i64 m, .int .i64 d] 24))
  go_wp2_with fail
  refine (rright_at y m d false _ HR.out).mono ?_
  rintro e w3 ⟨rfl, hB⟩
  have HB3 := Lib.hid (HB2.out.trans (hB.mono HB2.out.size))
  clear ca0 ca1 ca2 ca3 ca4 ca5 ca6 hLa
  have HDa := Lib.hid (HDa.out.below hB HLa.out)
  have HLa := Lib.hid (Nat.lt_of_lt_of_le HLa.out hB.size)
  have HDb := Lib.hid (HDb.out.below hB HLb.out)
  have HLb := Lib.hid (Nat.lt_of_lt_of_le HLb.out hB.size)
  clear hB
  obtain ⟨ca0, ca1, ca2, ca3, ca4, ca5, ca6⟩ := HDa.out
  have hLa := HLa.out
  obtain ⟨cb0, cb1, cb2⟩ := HDb.out
  have hLb := HLb.out
  go_wp2_with fail
  refine (works_any _ (HT.out.of HB3.out)).mono ?_
  rintro e w4 ⟨rfl, hB⟩
  have HB4 := Lib.hid (HB3.out.trans (hB.mono HB3.out.size))
  clear ca0 ca1 ca2 ca3 ca4 ca5 ca6 hLa
  have HDa := Lib.hid (HDa.out.below hB HLa.out)
  have HLa := Lib.hid (Nat.lt_of_lt_of_le HLa.out hB.size)
  clear cb0 cb1 cb2 hLb
  have HDb := Lib.hid (HDb.out.below hB HLb.out)
  have HLb := Lib.hid (Nat.lt_of_lt_of_le HLb.out hB.size)
  clear hB
  obtain ⟨ca0, ca1, ca2, ca3, ca4, ca5, ca6⟩ := HDa.out
  have hLa := HLa.out
  obtain ⟨cb0, cb1, cb2⟩ := HDb.out
  have hLb := HLb.out
  go_wp2
  go_ret
  exact ⟨rfl, HB4.out⟩

set_option maxRecDepth 100000 in
set_option maxHeartbeats 2000000 in
theorem micro_law_al (y m d h i s u : Int) (hr : Right y m d) (p0 : ¬ 0 ≤ h) (w : World) (ht : Tab w) :
    Calls Tryd.prog 5 #[cv y m d h i s u] w fun e w' => e = .returned (.bool true) ∧ Below w.heap.size w w' := by
  have HT := Lib.hid ht
  have HR := Lib.hid hr
  have HRB := Lib.hid ((right_iff y m d).2 hr)
  have HM := Lib.hid (show ¬ Time h i s u from fun k => by unfold Time at k; omega)
  clear hr
  clear ht
  have HB0 := Lib.hid (Below.refl w.heap.size w)
  have HDa := Lib.hid (clock_new (y) (m) (d) (h) (i) (s) (u) w 41)
  have HLa := Lib.hid (show w.heap.size < (w.alloc (.cells #[.int .i64 y, .int .i64 m, .int .i64 d, .int .i64 h, .int .i64 i, .int .i64 s, .int .i64 u] 41)).heap.size by simp)
  have HB0 := Lib.hid (HB0.out.alloc HB0.out.size (.cells #[.int .i64 y, .int .i64 m, .int .i64 d, .int .i64 h, .int .i64 i, .int .i64 s, .int .i64 u] 41))
  go_enter Tryd.func5, Tryd.ntmps5
  go_wp2_with fail
  refine (micro_notime y m d h i s u _ (HT.out.of HB0.out) HR.out HM.out).mono ?_
  rintro e w1 ⟨rfl, hB⟩
  have HB1 := Lib.hid (HB0.out.trans (hB.mono HB0.out.size))
  have HDa := Lib.hid (HDa.out.below hB HLa.out)
  have HLa := Lib.hid (Nat.lt_of_lt_of_le HLa.out hB.size)
  clear hB
  obtain ⟨ca0, ca1, ca2, ca3, ca4, ca5, ca6⟩ := HDa.out
  have hLa := HLa.out
  go_wp2_with fail
  refine (plain_any y m d _).mono ?_
  rintro e w2 ⟨rfl, hB⟩
  have HB2 := Lib.hid (HB1.out.trans (hB.mono HB1.out.size))
  clear ca0 ca1 ca2 ca3 ca4 ca5 ca6 hLa
  have HDa := Lib.hid (HDa.out.below hB HLa.out)
  have HLa := Lib.hid (Nat.lt_of_lt_of_le HLa.out hB.size)
  clear hB
  obtain ⟨ca0, ca1, ca2, ca3, ca4, ca5, ca6⟩ := HDa.out
  have hLa := HLa.out
  have HDa := Lib.hid (HDa.out.below ((Below.refl w2.heap.size _).alloc (Nat.le_refl _) (.cells #[.int .i64 y, .int .i64 m, .int .i64 d] 24)) HLa.out)
  have HLa := Lib.hid (show w.heap.size < (w2.alloc (.cells #[.int .i64 y, .int .i64 m, .int .i64 d] 24)).heap.size by have := HLa.out; simp; omega)
  have HDb := Lib.hid (date_new (y) (m) (d) w2 24)
  have HLb := Lib.hid (show w2.heap.size < (w2.alloc (.cells #[.int .i64 y, .int .i64 m, .int .i64 d] 24)).heap.size by simp)
  have HB2 := Lib.hid (HB2.out.alloc HB2.out.size (.cells #[.int .i64 y, .int .i64 m, .int .i64 d] 24))
  go_wp2_with fail
  refine (rright_at y m d true _ HRB.out).mono ?_
  rintro e w3 ⟨rfl, hB⟩
  have HB3 := Lib.hid (HB2.out.trans (hB.mono HB2.out.size))
  clear ca0 ca1 ca2 ca3 ca4 ca5 ca6 hLa
  have HDa := Lib.hid (HDa.out.below hB HLa.out)
  have HLa := Lib.hid (Nat.lt_of_lt_of_le HLa.out hB.size)
  have HDb := Lib.hid (HDb.out.below hB HLb.out)
  have HLb := Lib.hid (Nat.lt_of_lt_of_le HLb.out hB.size)
  clear hB
  obtain ⟨ca0, ca1, ca2, ca3, ca4, ca5, ca6⟩ := HDa.out
  have hLa := HLa.out
  obtain ⟨cb0, cb1, cb2⟩ := HDb.out
  have hLb := HLb.out
  go_wp2_with fail
  refine (works_any _ (HT.out.of HB3.out)).mono ?_
  rintro e w4 ⟨rfl, hB⟩
  have HB4 := Lib.hid (HB3.out.trans (hB.mono HB3.out.size))
  clear ca0 ca1 ca2 ca3 ca4 ca5 ca6 hLa
  have HDa := Lib.hid (HDa.out.below hB HLa.out)
  have HLa := Lib.hid (Nat.lt_of_lt_of_le HLa.out hB.size)
  clear cb0 cb1 cb2 hLb
  have HDb := Lib.hid (HDb.out.below hB HLb.out)
  have HLb := Lib.hid (Nat.lt_of_lt_of_le HLb.out hB.size)
  clear hB
  obtain ⟨ca0, ca1, ca2, ca3, ca4, ca5, ca6⟩ := HDa.out
  have hLa := HLa.out
  obtain ⟨cb0, cb1, cb2⟩ := HDb.out
  have hLb := HLb.out
  go_wp2
  go_ret
  exact ⟨rfl, HB4.out⟩

set_option maxRecDepth 100000 in
set_option maxHeartbeats 2000000 in
theorem micro_law_ah (y m d h i s u : Int) (hr : Right y m d) (p0 : 0 ≤ h) (q0 : ¬ h ≤ 23) (w : World) (ht : Tab w) :
    Calls Tryd.prog 5 #[cv y m d h i s u] w fun e w' => e = .returned (.bool true) ∧ Below w.heap.size w w' := by
  have HT := Lib.hid ht
  have HR := Lib.hid hr
  have HRB := Lib.hid ((right_iff y m d).2 hr)
  have HM := Lib.hid (show ¬ Time h i s u from fun k => by unfold Time at k; omega)
  clear hr
  clear ht
  have HB0 := Lib.hid (Below.refl w.heap.size w)
  have HDa := Lib.hid (clock_new (y) (m) (d) (h) (i) (s) (u) w 41)
  have HLa := Lib.hid (show w.heap.size < (w.alloc (.cells #[.int .i64 y, .int .i64 m, .int .i64 d, .int .i64 h, .int .i64 i, .int .i64 s, .int .i64 u] 41)).heap.size by simp)
  have HB0 := Lib.hid (HB0.out.alloc HB0.out.size (.cells #[.int .i64 y, .int .i64 m, .int .i64 d, .int .i64 h, .int .i64 i, .int .i64 s, .int .i64 u] 41))
  go_enter Tryd.func5, Tryd.ntmps5
  go_wp2_with fail
  refine (micro_notime y m d h i s u _ (HT.out.of HB0.out) HR.out HM.out).mono ?_
  rintro e w1 ⟨rfl, hB⟩
  have HB1 := Lib.hid (HB0.out.trans (hB.mono HB0.out.size))
  have HDa := Lib.hid (HDa.out.below hB HLa.out)
  have HLa := Lib.hid (Nat.lt_of_lt_of_le HLa.out hB.size)
  clear hB
  obtain ⟨ca0, ca1, ca2, ca3, ca4, ca5, ca6⟩ := HDa.out
  have hLa := HLa.out
  go_wp2_with fail
  refine (plain_any y m d _).mono ?_
  rintro e w2 ⟨rfl, hB⟩
  have HB2 := Lib.hid (HB1.out.trans (hB.mono HB1.out.size))
  clear ca0 ca1 ca2 ca3 ca4 ca5 ca6 hLa
  have HDa := Lib.hid (HDa.out.below hB HLa.out)
  have HLa := Lib.hid (Nat.lt_of_lt_of_le HLa.out hB.size)
  clear hB
  obtain ⟨ca0, ca1, ca2, ca3, ca4, ca5, ca6⟩ := HDa.out
  have hLa := HLa.out
  have HDa := Lib.hid (HDa.out.below ((Below.refl w2.heap.size _).alloc (Nat.le_refl _) (.cells #[.int .i64 y, .int .i64 m, .int .i64 d] 24)) HLa.out)
  have HLa := Lib.hid (show w.heap.size < (w2.alloc (.cells #[.int .i64 y, .int .i64 m, .int .i64 d] 24)).heap.size by have := HLa.out; simp; omega)
  have HDb := Lib.hid (date_new (y) (m) (d) w2 24)
  have HLb := Lib.hid (show w2.heap.size < (w2.alloc (.cells #[.int .i64 y, .int .i64 m, .int .i64 d] 24)).heap.size by simp)
  have HB2 := Lib.hid (HB2.out.alloc HB2.out.size (.cells #[.int .i64 y, .int .i64 m, .int .i64 d] 24))
  go_wp2_with fail
  refine (rright_at y m d true _ HRB.out).mono ?_
  rintro e w3 ⟨rfl, hB⟩
  have HB3 := Lib.hid (HB2.out.trans (hB.mono HB2.out.size))
  clear ca0 ca1 ca2 ca3 ca4 ca5 ca6 hLa
  have HDa := Lib.hid (HDa.out.below hB HLa.out)
  have HLa := Lib.hid (Nat.lt_of_lt_of_le HLa.out hB.size)
  have HDb := Lib.hid (HDb.out.below hB HLb.out)
  have HLb := Lib.hid (Nat.lt_of_lt_of_le HLb.out hB.size)
  clear hB
  obtain ⟨ca0, ca1, ca2, ca3, ca4, ca5, ca6⟩ := HDa.out
  have hLa := HLa.out
  obtain ⟨cb0, cb1, cb2⟩ := HDb.out
  have hLb := HLb.out
  go_wp2_with fail
  refine (works_any _ (HT.out.of HB3.out)).mono ?_
  rintro e w4 ⟨rfl, hB⟩
  have HB4 := Lib.hid (HB3.out.trans (hB.mono HB3.out.size))
  clear ca0 ca1 ca2 ca3 ca4 ca5 ca6 hLa
  have HDa := Lib.hid (HDa.out.below hB HLa.out)
  have HLa := Lib.hid (Nat.lt_of_lt_of_le HLa.out hB.size)
  clear cb0 cb1 cb2 hLb
  have HDb := Lib.hid (HDb.out.below hB HLb.out)
  have HLb := Lib.hid (Nat.lt_of_lt_of_le HLb.out hB.size)
  clear hB
  obtain ⟨ca0, ca1, ca2, ca3, ca4, ca5, ca6⟩ := HDa.out
  have hLa := HLa.out
  obtain ⟨cb0, cb1, cb2⟩ := HDb.out
  have hLb := HLb.out
  go_wp2
  go_ret
  exact ⟨rfl, HB4.out⟩

set_option maxRecDepth 100000 in
set_option maxHeartbeats 2000000 in
theorem micro_law_bl (y m d h i s u : Int) (hr : Right y m d) (p0 : 0 ≤ h) (q0 : h ≤ 23) (p1 : ¬ 0 ≤ i) (w : World) (ht : Tab w) :
    Calls Tryd.prog 5 #[cv y m d h i s u] w fun e w' => e = .returned (.bool true) ∧ Below w.heap.size w w' := by
  have HT := Lib.hid ht
  have HR := Lib.hid hr
  have HRB := Lib.hid ((right_iff y m d).2 hr)
  have HM := Lib.hid (show ¬ Time h i s u from fun k => by unfold Time at k; omega)
  clear hr
  clear ht
  have HB0 := Lib.hid (Below.refl w.heap.size w)
  have HDa := Lib.hid (clock_new (y) (m) (d) (h) (i) (s) (u) w 41)
  have HLa := Lib.hid (show w.heap.size < (w.alloc (.cells #[.int .i64 y, .int .i64 m, .int .i64 d, .int .i64 h, .int .i64 i, .int .i64 s, .int .i64 u] 41)).heap.size by simp)
  have HB0 := Lib.hid (HB0.out.alloc HB0.out.size (.cells #[.int .i64 y, .int .i64 m, .int .i64 d, .int .i64 h, .int .i64 i, .int .i64 s, .int .i64 u] 41))
  go_enter Tryd.func5, Tryd.ntmps5
  go_wp2_with fail
  refine (micro_notime y m d h i s u _ (HT.out.of HB0.out) HR.out HM.out).mono ?_
  rintro e w1 ⟨rfl, hB⟩
  have HB1 := Lib.hid (HB0.out.trans (hB.mono HB0.out.size))
  have HDa := Lib.hid (HDa.out.below hB HLa.out)
  have HLa := Lib.hid (Nat.lt_of_lt_of_le HLa.out hB.size)
  clear hB
  obtain ⟨ca0, ca1, ca2, ca3, ca4, ca5, ca6⟩ := HDa.out
  have hLa := HLa.out
  go_wp2_with fail
  refine (plain_any y m d _).mono ?_
  rintro e w2 ⟨rfl, hB⟩
  have HB2 := Lib.hid (HB1.out.trans (hB.mono HB1.out.size))
  clear ca0 ca1 ca2 ca3 ca4 ca5 ca6 hLa
  have HDa := Lib.hid (HDa.out.below hB HLa.out)
  have HLa := Lib.hid (Nat.lt_of_lt_of_le HLa.out hB.size)
  clear hB
  obtain ⟨ca0, ca1, ca2, ca3, ca4, ca5, ca6⟩ := HDa.out
  have hLa := HLa.out
  have HDa := Lib.hid (HDa.out.below ((Below.refl w2.heap.size _).alloc (Nat.le_refl _) (.cells #[.int .i64 y, .int .i64 m, .int .i64 d] 24)) HLa.out)
  have HLa := Lib.hid (show w.heap.size < (w2.alloc (.cells #[.int .i64 y, .int .i64 m, .int .i64 d] 24)).heap.size by have := HLa.out; simp; omega)
  have HDb := Lib.hid (date_new (y) (m) (d) w2 24)
  have HLb := Lib.hid (show w2.heap.size < (w2.alloc (.cells #[.int .i64 y, .int .i64 m, .int .i64 d] 24)).heap.size by simp)
  have HB2 := Lib.hid (HB2.out.alloc HB2.out.size (.cells #[.int .i64 y, .int .i64 m, .int .i64 d] 24))
  go_wp2_with fail
  refine (rright_at y m d true _ HRB.out).mono ?_
  rintro e w3 ⟨rfl, hB⟩
  have HB3 := Lib.hid (HB2.out.trans (hB.mono HB2.out.size))
  clear ca0 ca1 ca2 ca3 ca4 ca5 ca6 hLa
  have HDa := Lib.hid (HDa.out.below hB HLa.out)
  have HLa := Lib.hid (Nat.lt_of_lt_of_le HLa.out hB.size)
  have HDb := Lib.hid (HDb.out.below hB HLb.out)
  have HLb := Lib.hid (Nat.lt_of_lt_of_le HLb.out hB.size)
  clear hB
  obtain ⟨ca0, ca1, ca2, ca3, ca4, ca5, ca6⟩ := HDa.out
  have hLa := HLa.out
  obtain ⟨cb0, cb1, cb2⟩ := HDb.out
  have hLb := HLb.out
  go_wp2_with fail
  refine (works_any _ (HT.out.of HB3.out)).mono ?_
  rintro e w4 ⟨rfl, hB⟩
  have HB4 := Lib.hid (HB3.out.trans (hB.mono HB3.out.size))
  clear ca0 ca1 ca2 ca3 ca4 ca5 ca6 hLa
  have HDa := Lib.hid (HDa.out.below hB HLa.out)
  have HLa := Lib.hid (Nat.lt_of_lt_of_le HLa.out hB.size)
  clear cb0 cb1 cb2 hLb
  have HDb := Lib.hid (HDb.out.below hB HLb.out)
  have HLb := Lib.hid (Nat.lt_of_lt_of_le HLb.out hB.size)
  clear hB
  obtain ⟨ca0, ca1, ca2, ca3, ca4, ca5, ca6⟩ := HDa.out
  have hLa := HLa.out
  obtain ⟨cb0, cb1, cb2⟩ := HDb.out
  have hLb := HLb.out
  go_wp2
  go_ret
  exact ⟨rfl, HB4.out⟩

set_option maxRecDepth 100000 in
set_option maxHeartbeats 2000000 in
theorem micro_law_bh (y m d h i s u : Int) (hr : Right y m d) (p0 : 0 ≤ h) (q0 : h ≤ 23) (p1 : 0 ≤ i) (q1 : ¬ i ≤ 59) (w : World) (ht : Tab w) :
    Calls Tryd.prog 5 #[cv y m d h i s u] w fun e w' => e = .returned (.bool true) ∧ Below w.heap.size w w' := by
  have HT := Lib.hid ht
  have HR := Lib.hid hr
  have HRB := Lib.hid ((right_iff y m d).2 hr)
  have HM := Lib.hid (show ¬ Time h i s u from fun k => by unfold Time at k; omega)
  clear hr
  clear ht
  have HB0 := Lib.hid (Below.refl w.heap.size w)
  have HDa := Lib.hid (clock_new (y) (m) (d) (h) (i) (s) (u) w 41)
  have HLa := Lib.hid (show w.heap.size < (w.alloc (.cells #[.int .i64 y, .int .i64 m, .int .i64 d, .int .i64 h, .int .i64 i, .int .i64 s, .int .i64 u] 41)).heap.size by simp)
  have HB0 := Lib.hid (HB0.out.alloc HB0.out.size (.cells #[.int .i64 y, .int .i64 m, .int .i64 d, .int .i64 h, .int .i64 i, .int .i64 s, .int .i64 u] 41))
  go_enter Tryd.func5, Tryd.ntmps5
  go_wp2_with fail
  refine (micro_notime y m d h i s u _ (HT.out.of HB0.out) HR.out HM.out).mono ?_
  rintro e w1 ⟨rfl, hB⟩
  have HB1 := Lib.hid (HB0.out.trans (hB.mono HB0.out.size))
  have HDa := Lib.hid (HDa.out.below hB HLa.out)
  have HLa := Lib.hid (Nat.lt_of_lt_of_le HLa.out hB.size)
  clear hB
  obtain ⟨ca0, ca1, ca2, ca3, ca4, ca5, ca6⟩ := HDa.out
  have hLa := HLa.out
  go_wp2_with fail
  refine (plain_any y m d _).mono ?_
  rintro e w2 ⟨rfl, hB⟩
  have HB2 := Lib.hid (HB1.out.trans (hB.mono HB1.out.size))
  clear ca0 ca1 ca2 ca3 ca4 ca5 ca6 hLa
  have HDa := Lib.hid (HDa.out.below hB HLa.out)
  have HLa := Lib.hid (Nat.lt_of_lt_of_le HLa.out hB.size)
  clear hB
  obtain ⟨ca0, ca1, ca2, ca3, ca4, ca5, ca6⟩ := HDa.out
  have hLa := HLa.out
  have HDa := Lib.hid (HDa.out.below ((Below.refl w2.heap.size _).alloc (Nat.le_refl _) (.cells #[.int .i64 y, .int .i64 m, .int .i64 d] 24)) HLa.out)
  have HLa := Lib.hid (show w.heap.size < (w2.alloc (.cells #[.int .i64 y, .int .i64 m, .int .i64 d] 24)).heap.size by have := HLa.out; simp; omega)
  have HDb := Lib.hid (date_new (y) (m) (d) w2 24)
  have HLb := Lib.hid (show w2.heap.size < (w2.alloc (.cells #[.int .i64 y, .int .i64 m, .int .i64 d] 24)).heap.size by simp)
  have HB2 := Lib.hid (HB2.out.alloc HB2.out.size (.cells #[.int .i64 y, .int .i64 m, .int .i64 d] 24))
  go_wp2_with fail
  refine (rright_at y m d true _ HRB.out).mono ?_
  rintro e w3 ⟨rfl, hB⟩
  have HB3 := Lib.hid (HB2.out.trans (hB.mono HB2.out.size))
  clear ca0 ca1 ca2 ca3 ca4 ca5 ca6 hLa
  have HDa := Lib.hid (HDa.out.below hB HLa.out)
  have HLa := Lib.hid (Nat.lt_of_lt_of_le HLa.out hB.size)
  have HDb := Lib.hid (HDb.out.below hB HLb.out)
  have HLb := Lib.hid (Nat.lt_of_lt_of_le HLb.out hB.size)
  clear hB
  obtain ⟨ca0, ca1, ca2, ca3, ca4, ca5, ca6⟩ := HDa.out
  have hLa := HLa.out
  obtain ⟨cb0, cb1, cb2⟩ := HDb.out
  have hLb := HLb.out
  go_wp2_with fail
  refine (works_any _ (HT.out.of HB3.out)).mono ?_
  rintro e w4 ⟨rfl, hB⟩
  have HB4 := Lib.hid (HB3.out.trans (hB.mono HB3.out.size))
  clear ca0 ca1 ca2 ca3 ca4 ca5 ca6 hLa
  have HDa := Lib.hid (HDa.out.below hB HLa.out)
  have HLa := Lib.hid (Nat.lt_of_lt_of_le HLa.out hB.size)
  clear cb0 cb1 cb2 hLb
  have HDb := Lib.hid (HDb.out.below hB HLb.out)
  have HLb := Lib.hid (Nat.lt_of_lt_of_le HLb.out hB.size)
  clear hB
  obtain ⟨ca0, ca1, ca2, ca3, ca4, ca5, ca6⟩ := HDa.out
  have hLa := HLa.out
  obtain ⟨cb0, cb1, cb2⟩ := HDb.out
  have hLb := HLb.out
  go_wp2
  go_ret
  exact ⟨rfl, HB4.out⟩

set_option maxRecDepth 100000 in
set_option maxHeartbeats 2000000 in
theorem micro_law_cl (y m d h i s u : Int) (hr : Right y m d) (p0 : 0 ≤ h) (q0 : h ≤ 23) (p1 : 0 ≤ i) (q1 : i ≤ 59) (p2 : ¬ 0 ≤ s) (w : World) (ht : Tab w) :
    Calls Tryd.prog 5 #[cv y m d h i s u] w fun e w' => e = .returned (.bool true) ∧ Below w.heap.size w w' := by
  have HT := Lib.hid ht
  have HR := Lib.hid hr
  have HRB := Lib.hid ((right_iff y m d).2 hr)
  have HM := Lib.hid (show ¬ Time h i s u from fun k => by unfold Time at k; omega)
  clear hr
  clear ht
  have HB0 := Lib.hid (Below.refl w.heap.size w)
  have HDa := Lib.hid (clock_new (y) (m) (d) (h) (i) (s) (u) w 41)
  have HLa := Lib.hid (show w.heap.size < (w.alloc (.cells #[.int .i64 y, .int .i64 m, .int .i64 d, .int .i64 h, .int .i64 i, .int .i64 s, .int .i64 u] 41)).heap.size by simp)
  have HB0 := Lib.hid (HB0.out.alloc HB0.out.size (.cells #[.int .i64 y, .int .i64 m, .int .i64 d, .int .i64 h, .int .i64 i, .int .i64 s, .int .i64 u] 41))
  go_enter Tryd.func5, Tryd.ntmps5
  go_wp2_with fail
  refine (micro_notime y m d h i s u _ (HT.out.of HB0.out) HR.out HM.out).mono ?_
  rintro e w1 ⟨rfl, hB⟩
  have HB1 := Lib.hid (HB0.out.trans (hB.mono HB0.out.size))
  have HDa := Lib.hid (HDa.out.below hB HLa.out)
  have HLa := Lib.hid (Nat.lt_of_lt_of_le HLa.out hB.size)
  clear hB
  obtain ⟨ca0, ca1, ca2, ca3, ca4, ca5, ca6⟩ := HDa.out
  have hLa := HLa.out
  go_wp2_with fail
  refine (plain_any y m d _).mono ?_
  rintro e w2 ⟨rfl, hB⟩
  have HB2 := Lib.hid (HB1.out.trans (hB.mono HB1.out.size))
  clear ca0 ca1 ca2 ca3 ca4 ca5 ca6 hLa
  have HDa := Lib.hid (HDa.out.below hB HLa.out)
  have HLa := Lib.hid (Nat.lt_of_lt_of_le HLa.out hB.size)
  clear hB
  obtain ⟨ca0, ca1, ca2, ca3, ca4, ca5, ca6⟩ := HDa.out
  have hLa := HLa.out
  have HDa := Lib.hid (HDa.out.below ((Below.refl w2.heap.size _).alloc (Nat.le_refl _) (.cells #[.int .i64 y, .int .i64 m, .int .i64 d] 24)) HLa.out)
  have HLa := Lib.hid (show w.heap.size < (w2.alloc (.cells #[.int .i64 y, .int .i64 m, .int .i64 d] 24)).heap.size by have := HLa.out; simp; omega)
  have HDb := Lib.hid (date_new (y) (m) (d) w2 24)
  have HLb := Lib.hid (show w2.heap.size < (w2.alloc (.cells #[.int .i64 y, .int .i64 m, .int .i64 d] 24)).heap.size by simp)
  have HB2 := Lib.hid (HB2.out.alloc HB2.out.size (.cells #[.int .i64 y, .int .i64 m, .int .i64 d] 24))
  go_wp2_with fail
  refine (rright_at y m d true _ HRB.out).mono ?_
  rintro e w3 ⟨rfl, hB⟩
  have HB3 := Lib.hid (HB2.out.trans (hB.mono HB2.out.size))
  clear ca0 ca1 ca2 ca3 ca4 ca5 ca6 hLa
  have HDa := Lib.hid (HDa.out.below hB HLa.out)
  have HLa := Lib.hid (Nat.lt_of_lt_of_le HLa.out hB.size)
  have HDb := Lib.hid (HDb.out.below hB HLb.out)
  have HLb := Lib.hid (Nat.lt_of_lt_of_le HLb.out hB.size)
  clear hB
  obtain ⟨ca0, ca1, ca2, ca3, ca4, ca5, ca6⟩ := HDa.out
  have hLa := HLa.out
  obtain ⟨cb0, cb1, cb2⟩ := HDb.out
  have hLb := HLb.out
  go_wp2_with fail
  refine (works_any _ (HT.out.of HB3.out)).mono ?_
  rintro e w4 ⟨rfl, hB⟩
  have HB4 := Lib.hid (HB3.out.trans (hB.mono HB3.out.size))
  clear ca0 ca1 ca2 ca3 ca4 ca5 ca6 hLa
  have HDa := Lib.hid (HDa.out.below hB HLa.out)
  have HLa := Lib.hid (Nat.lt_of_lt_of_le HLa.out hB.size)
  clear cb0 cb1 cb2 hLb
  have HDb := Lib.hid (HDb.out.below hB HLb.out)
  have HLb := Lib.hid (Nat.lt_of_lt_of_le HLb.out hB.size)
  clear hB
  obtain ⟨ca0, ca1, ca2, ca3, ca4, ca5, ca6⟩ := HDa.out
  have hLa := HLa.out
  obtain ⟨cb0, cb1, cb2⟩ := HDb.out
  have hLb := HLb.out
  go_wp2
  go_ret
  exact ⟨rfl, HB4.out⟩

set_option maxRecDepth 100000 in
set_option maxHeartbeats 2000000 in
theorem micro_law_ch (y m d h i s u : Int) (hr : Right y m d) (p0 : 0 ≤ h) (q0 : h ≤ 23) (p1 : 0 ≤ i) (q1 : i ≤ 59) (p2 : 0 ≤ s) (q2 : ¬ s ≤ 59) (w : World) (ht : Tab w) :
    Calls Tryd.prog 5 #[cv y m d h i s u] w fun e w' => e = .returned (.bool true) ∧ Below w.heap.size w w' := by
  have HT := Lib.hid ht
  have HR := Lib.hid hr
  have HRB := Lib.hid ((right_iff y m d).2 hr)
  have HM := Lib.hid (show ¬ Time h i s u from fun k => by unfold Time at k; omega)
  clear hr
  clear ht
  have HB0 := Lib.hid (Below.refl w.heap.size w)
  have HDa := Lib.hid (clock_new (y) (m) (d) (h) (i) (s) (u) w 41)
  have HLa := Lib.hid (show w.heap.size < (w.alloc (.cells #[.int .i64 y, .int .i64 m, .int .i64 d, .int .i64 h, .int .i64 i, .int .i64 s, .int .i64 u] 41)).heap.size by simp)
  have HB0 := Lib.hid (HB0.out.alloc HB0.out.size (.cells #[.int .i64 y, .int .i64 m, .int .i64 d, .int .i64 h, .int .i64 i, .int .i64 s, .int .i64 u] 41))
  go_enter Tryd.func5, Tryd.ntmps5
  go_wp2_with fail
  refine (micro_notime y m d h i s u _ (HT.out.of HB0.out) HR.out HM.out).mono ?_
  rintro e w1 ⟨rfl, hB⟩
  have HB1 := Lib.hid (HB0.out.trans (hB.mono HB0.out.size))
  have HDa := Lib.hid (HDa.out.below hB HLa.out)
  have HLa := Lib.hid (Nat.lt_of_lt_of_le HLa.out hB.size)
  clear hB
  obtain ⟨ca0, ca1, ca2, ca3, ca4, ca5, ca6⟩ := HDa.out
  have hLa := HLa.out
  go_wp2_with fail
  refine (plain_any y m d _).mono ?_
  rintro e w2 ⟨rfl, hB⟩
  have HB2 := Lib.hid (HB1.out.trans (hB.mono HB1.out.size))
  clear ca0 ca1 ca2 ca3 ca4 ca5 ca6 hLa
  have HDa := Lib.hid (HDa.out.below hB HLa.out)
  have HLa := Lib.hid (Nat.lt_of_lt_of_le HLa.out hB.size)
  clear hB
  obtain ⟨ca0, ca1, ca2, ca3, ca4, ca5, ca6⟩ := HDa.out
  have hLa := HLa.out
  have HDa := Lib.hid (HDa.out.below ((Below.refl w2.heap.size _).alloc (Nat.le_refl _) (.cells #[.int .i64 y, .int .i64 m, .int .i64 d] 24)) HLa.out)
  have HLa := Lib.hid (show w.heap.size < (w2.alloc (.cells #[.int .i64 y, .int .i64 m, .int .i64 d] 24)).heap.size by have := HLa.out; simp; omega)
  have HDb := Lib.hid (date_new (y) (m) (d) w2 24)
  have HLb := Lib.hid (show w2.heap.size < (w2.alloc (.cells #[.int .i64 y, .int .i64 m, .int .i64 d] 24)).heap.size by simp)
  have HB2 := Lib.hid (HB2.out.alloc HB2.out.size (.cells #[.int .i64 y, .int .i64 m, .int .i64 d] 24))
  go_wp2_with fail
  refine (rright_at y m d true _ HRB.out).mono ?_
  rintro e w3 ⟨rfl, hB⟩
  have HB3 := Lib.hid (HB2.out.trans (hB.mono HB2.out.size))
  clear ca0 ca1 ca2 ca3 ca4 ca5 ca6 hLa
  have HDa := Lib.hid (HDa.out.below hB HLa.out)
  have HLa := Lib.hid (Nat.lt_of_lt_of_le HLa.out hB.size)
  have HDb := Lib.hid (HDb.out.below hB HLb.out)
  have HLb := Lib.hid (Nat.lt_of_lt_of_le HLb.out hB.size)
  clear hB
  obtain ⟨ca0, ca1, ca2, ca3, ca4, ca5, ca6⟩ := HDa.out
  have hLa := HLa.out
  obtain ⟨cb0, cb1, cb2⟩ := HDb.out
  have hLb := HLb.out
  go_wp2_with fail
  refine (works_any _ (HT.out.of HB3.out)).mono ?_
  rintro e w4 ⟨rfl, hB⟩
  have HB4 := Lib.hid (HB3.out.trans (hB.mono HB3.out.size))
  clear ca0 ca1 ca2 ca3 ca4 ca5 ca6 hLa
  have HDa := Lib.hid (HDa.out.below hB HLa.out)
  have HLa := Lib.hid (Nat.lt_of_lt_of_le HLa.out hB.size)
  clear cb0 cb1 cb2 hLb
  have HDb := Lib.hid (HDb.out.below hB HLb.out)
  have HLb := Lib.hid (Nat.lt_of_lt_of_le HLb.out hB.size)
  clear hB
  obtain ⟨ca0, ca1, ca2, ca3, ca4, ca5, ca6⟩ := HDa.out
  have hLa := HLa.out
  obtain ⟨cb0, cb1, cb2⟩ := HDb.out
  have hLb := HLb.out
  go_wp2
  go_ret
  exact ⟨rfl, HB4.out⟩

set_option maxRecDepth 100000 in
set_option maxHeartbeats 2000000 in
theorem micro_law_dl (y m d h i s u : Int) (hr : Right y m d) (p0 : 0 ≤ h) (q0 : h ≤ 23) (p1 : 0 ≤ i) (q1 : i ≤ 59) (p2 : 0 ≤ s) (q2 : s ≤ 59) (p3 : ¬ 0 ≤ u) (w : World) (ht : Tab w) :
    Calls Tryd.prog 5 #[cv y m d h i s u] w fun e w' => e = .returned (.bool true) ∧ Below w.heap.size w w' := by
  have HT := Lib.hid ht
  have HR := Lib.hid hr
  have HRB := Lib.hid ((right_iff y m d).2 hr)
  have HM := Lib.hid (show ¬ Time h i s u from fun k => by unfold Time at k; omega)
  clear hr
  clear ht
  have HB0 := Lib.hid (Below.refl w.heap.size w)
  have HDa := Lib.hid (clock_new (y) (m) (d) (h) (i) (s) (u) w 41)
  have HLa := Lib.hid (show w.heap.size < (w.alloc (.cells #[.int .i64 y, .int .i64 m, .int .i64 d, .int .i64 h, .int .i64 i, .int .i64 s, .int .i64 u] 41)).heap.size by simp)
  have HB0 := Lib.hid (HB0.out.alloc HB0.out.size (.cells #[.int .i64 y, .int .i64 m, .int .i64 d, .int .i64 h, .int .i64 i, .int .i64 s, .int .i64 u] 41))
  go_enter Tryd.func5, Tryd.ntmps5
  go_wp2_with fail
  refine (micro_notime y m d h i s u _ (HT.out.of HB0.out) HR.out HM.out).mono ?_
  rintro e w1 ⟨rfl, hB⟩
  have HB1 := Lib.hid (HB0.out.trans (hB.mono HB0.out.size))
  have HDa := Lib.hid (HDa.out.below hB HLa.out)
  have HLa := Lib.hid (Nat.lt_of_lt_of_le HLa.out hB.size)
  clear hB
  obtain ⟨ca0, ca1, ca2, ca3, ca4, ca5, ca6⟩ := HDa.out
  have hLa := HLa.out
  go_wp2_with fail
  refine (plain_any y m d _).mono ?_
  rintro e w2 ⟨rfl, hB⟩
  have HB2 := Lib.hid (HB1.out.trans (hB.mono HB1.out.size))
  clear ca0 ca1 ca2 ca3 ca4 ca5 ca6 hLa
  have HDa := Lib.hid (HDa.out.below hB HLa.out)
  have HLa := Lib.hid (Nat.lt_of_lt_of_le HLa.out hB.size)
  clear hB
  obtain ⟨ca0, ca1, ca2, ca3, ca4, ca5, ca6⟩ := HDa.out
  have hLa := HLa.out
  have HDa := Lib.hid (HDa.out.below ((Below.refl w2.heap.size _).alloc (Nat.le_refl _) (.cells #[.int .i64 y, .int .i64 m, .int .i64 d] 24)) HLa.out)
  have HLa := Lib.hid (show w.heap.size < (w2.alloc (.cells #[.int .i64 y, .int .i64 m, .int .i64 d] 24)).heap.size by have := HLa.out; simp; omega)
  have HDb := Lib.hid (date_new (y) (m) (d) w2 24)
  have HLb := Lib.hid (show w2.heap.size < (w2.alloc (.cells #[.int .i64 y, .int .i64 m, .int .i64 d] 24)).heap.size by simp)
  have HB2 := Lib.hid (HB2.out.alloc HB2.out.size (.cells #[.int .i64 y, .int .i64 m, .int .i64 d] 24))
  go_wp2_with fail
  refine (rright_at y m d true _ HRB.out).mono ?_
  rintro e w3 ⟨rfl, hB⟩
  have HB3 := Lib.hid (HB2.out.trans (hB.mono HB2.out.size))
  clear ca0 ca1 ca2 ca3 ca4 ca5 ca6 hLa
  have HDa := Lib.hid (HDa.out.below hB HLa.out)
  have HLa := Lib.hid (Nat.lt_of_lt_of_le HLa.out hB.size)
  have HDb := Lib.hid (HDb.out.below hB HLb.out)
  have HLb := Lib.hid (Nat.lt_of_lt_of_le HLb.out hB.size)
  clear hB
  obtain ⟨ca0, ca1, ca2, ca3, ca4, ca5, ca6⟩ := HDa.out
  have hLa := HLa.out
  obtain ⟨cb0, cb1, cb2⟩ := HDb.out
  have hLb := HLb.out
  go_wp2_with fail
  refine (works_any _ (HT.out.of HB3.out)).mono ?_
  rintro e w4 ⟨rfl, hB⟩
  have HB4 := Lib.hid (HB3.out.trans (hB.mono HB3.out.size))
  clear ca0 ca1 ca2 ca3 ca4 ca5 ca6 hLa
  have HDa := Lib.hid (HDa.out.below hB HLa.out)
  have HLa := Lib.hid (Nat.lt_of_lt_of_le HLa.out hB.size)
  clear cb0 cb1 cb2 hLb
  have HDb := Lib.hid (HDb.out.below hB HLb.out)
  have HLb := Lib.hid (Nat.lt_of_lt_of_le HLb.out hB.size)
  clear hB
  obtain ⟨ca0, ca1, ca2, ca3, ca4, ca5, ca6⟩ := HDa.out
  have hLa := HLa.out
  obtain ⟨cb0, cb1, cb2⟩ := HDb.out
  have hLb := HLb.out
  go_wp2
  go_ret
  exact ⟨rfl, HB4.out⟩

set_option maxRecDepth 100000 in
set_option maxHeartbeats 2000000 in
theorem micro_law_dh (y m d h i s u : Int) (hr : Right y m d) (p0 : 0 ≤ h) (q0 : h ≤ 23) (p1 : 0 ≤ i) (q1 : i ≤ 59) (p2 : 0 ≤ s) (q2 : s ≤ 59) (p3 : 0 ≤ u) (q3 : ¬ u ≤ 999999) (qb : decide (u ≤ 999999) = false) (w : World) (ht : Tab w) :
    Calls Tryd.prog 5 #[cv y m d h i s u] w fun e w' => e = .returned (.bool true) ∧ Below w.heap.size w w' := by
  have HT := Lib.hid ht
  have HR := Lib.hid hr
  have HRB := Lib.hid ((right_iff y m d).2 hr)
  have HM := Lib.hid (show ¬ Time h i s u from fun k => by unfold Time at k; omega)
  clear hr
  clear ht
  have HB0 := Lib.hid (Below.refl w.heap.size w)
  have HDa := Lib.hid (clock_new (y) (m) (d) (h) (i) (s) (u) w 41)
  have HLa := Lib.hid (show w.heap.size < (w.alloc (.cells #[.int .i64 y, .int .i64 m, .int .i64 d, .int .i64 h, .int .i64 i, .int .i64 s, .int .i64 u] 41)).heap.size by simp)
  have HB0 := Lib.hid (HB0.out.alloc HB0.out.size (.cells #[.int .i64 y, .int .i64 m, .int .i64 d, .int .i64 h, .int .i64 i, .int .i64 s, .int .i64 u] 41))
  go_enter Tryd.func5, Tryd.ntmps5
  go_wp2_with fail
  refine (micro_notime y m d h i s u _ (HT.out.of HB0.out) HR.out HM.out).mono ?_
  rintro e w1 ⟨rfl, hB⟩
  have HB1 := Lib.hid (HB0.out.trans (hB.mono HB0.out.size))
  have HDa := Lib.hid (HDa.out.below hB HLa.out)
  have HLa := Lib.hid (Nat.lt_of_lt_of_le HLa.out hB.size)
  clear hB
  obtain ⟨ca0, ca1, ca2, ca3, ca4, ca5, ca6⟩ := HDa.out
  have hLa := HLa.out
  go_wp2_with fail
  refine (plain_any y m d _).mono ?_
  rintro e w2 ⟨rfl, hB⟩
  have HB2 := Lib.hid (HB1.out.trans (hB.mono HB1.out.size))
  clear ca0 ca1 ca2 ca3 ca4 ca5 ca6 hLa
  have HDa := Lib.hid (HDa.out.below hB HLa.out)
  have HLa := Lib.hid (Nat.lt_of_lt_of_le HLa.out hB.size)
  clear hB
  obtain ⟨ca0, ca1, ca2, ca3, ca4, ca5, ca6⟩ := HDa.out
  have hLa := HLa.out
  have HDa := Lib.hid (HDa.out.below ((Below.refl w2.heap.size _).alloc (Nat.le_refl _) (.cells #[.int .i64 y, .int .i64 m, .int .i64 d] 24)) HLa.out)
  have HLa := Lib.hid (show w.heap.size < (w2.alloc (.cells #[.int .i64 y, .int .i64 m, .int .i64 d] 24)).heap.size by have := HLa.out; simp; omega)
  have HDb := Lib.hid (date_new (y) (m) (d) w2 24)
  have HLb := Lib.hid (show w2.heap.size < (w2.alloc (.cells #[.int .i64 y, .int .i64 m, .int .i64 d] 24)).heap.size by simp)
  have HB2 := Lib.hid (HB2.out.alloc HB2.out.size (.cells #[.int .i64 y, .int .i64 m, .int .i64 d] 24))
  go_wp2_with fail
  refine (rright_at y m d true _ HRB.out).mono ?_
  rintro e w3 ⟨rfl, hB⟩
  have HB3 := Lib.hid (HB2.out.trans (hB.mono HB2.out.size))
  clear ca0 ca1 ca2 ca3 ca4 ca5 ca6 hLa
  have HDa := Lib.hid (HDa.out.below hB HLa.out)
  have HLa := Lib.hid (Nat.lt_of_lt_of_le HLa.out hB.size)
  have HDb := Lib.hid (HDb.out.below hB HLb.out)
  have HLb := Lib.hid (Nat.lt_of_lt_of_le HLb.out hB.size)
  clear hB
  obtain ⟨ca0, ca1, ca2, ca3, ca4, ca5, ca6⟩ := HDa.out
  have hLa := HLa.out
  obtain ⟨cb0, cb1, cb2⟩ := HDb.out
  have hLb := HLb.out
  go_wp2_with fail
  refine (works_any _ (HT.out.of HB3.out)).mono ?_
  rintro e w4 ⟨rfl, hB⟩
  have HB4 := Lib.hid (HB3.out.trans (hB.mono HB3.out.size))
  clear ca0 ca1 ca2 ca3 ca4 ca5 ca6 hLa
  have HDa := Lib.hid (HDa.out.below hB HLa.out)
  have HLa := Lib.hid (Nat.lt_of_lt_of_le HLa.out hB.size)
  clear cb0 cb1 cb2 hLb
  have HDb := Lib.hid (HDb.out.below hB HLb.out)
  have HLb := Lib.hid (Nat.lt_of_lt_of_le HLb.out hB.size)
  clear hB
  obtain ⟨ca0, ca1, ca2, ca3, ca4, ca5, ca6⟩ := HDa.out
  have hLa := HLa.out
  obtain ⟨cb0, cb1, cb2⟩ := HDb.out
  have hLb := HLb.out
  go_wp2
  go_ret
  exact ⟨rfl, HB4.out⟩

theorem micro_law_time (y m d h i s u : Int) (w : World) (ht : Tab w) (hr : Right y m d) (hm : ¬ Time h i s u) :
    Calls Tryd.prog 5 #[cv y m d h i s u] w fun e w' => e = .returned (.bool true) ∧ Below w.heap.size w w' := by
  by_cases p0 : 0 ≤ h
  · by_cases q0 : h ≤ 23
    · by_cases p1 : 0 ≤ i
      · by_cases q1 : i ≤ 59
        · by_cases p2 : 0 ≤ s
          · by_cases q2 : s ≤ 59
            · by_cases p3 : 0 ≤ u
              · exact micro_law_dh y m d h i s u hr p0 q0 p1 q1 p2 q2 p3 (fun q3 => hm ⟨⟨p0, q0⟩, ⟨p1, q1⟩, ⟨p2, q2⟩, p3, q3⟩) (decide_eq_false fun q3 => hm ⟨⟨p0, q0⟩, ⟨p1, q1⟩, ⟨p2, q2⟩, p3, q3⟩) w ht
              · exact micro_law_dl y m d h i s u hr p0 q0 p1 q1 p2 q2 p3 w ht
            · exact micro_law_ch y m d h i s u hr p0 q0 p1 q1 p2 q2 w ht
          · exact micro_law_cl y m d h i s u hr p0 q0 p1 q1 p2 w ht
        · exact micro_law_bh y m d h i s u hr p0 q0 p1 q1 w ht
      · exact micro_law_bl y m d h i s u hr p0 q0 p1 w ht
    · exact micro_law_ah y m d h i s u hr p0 q0 w ht
  · exact micro_law_al y m d h i s u hr p0 w ht
end Go.Proofs.YtcllimfaoajapabDoor.Cv
