/-
  The walk of the law CivilFrom. (Made by tools/gen_civil.py.)
-/
import Derived.Test.YtcllimfaoajapabDoorCivilMicroWalk
import Derived.Deep.RegionHeld3
import Derived.IntWalk
import Derived.BigQuiet
namespace Go.Proofs.YtcllimfaoajapabDoor.Cv
open Go.RowKit

theorem time_parts (r : Int) (h : 0 ≤ r ∧ r < 86400000000) : Time (r / 3600000000) (r % 3600000000 / 60000000) (r % 60000000 / 1000000) (r % 1000000) := by
  unfold Time; omega
theorem mic_back (n q r : Int) (hq : n / 86400000000 = q) (hr : n % 86400000000 = r) : mic q (r / 3600000000) (r % 3600000000 / 60000000) (r % 60000000 / 1000000) (r % 1000000) = n := by
  unfold mic; omega

set_option maxRecDepth 100000 in
set_option maxHeartbeats 2000000 in
theorem from_law_pi (n q r : Int) (hi : -9223372036854775808 ≤ n ∧ n ≤ 9223372036854775807) (hs : 0 ≤ n) (hq : n / 86400000000 = q) (hr : n % 86400000000 = r) (y m d : Int) (hR : Right y m d) (hN : num y m d = q) (w : World) (ht : Tab w) :
    Calls Tryd.prog 6 #[.int .i64 n] w fun e w' => e = .returned (.bool true) ∧ Below w.heap.size w w' := by
  have HT := Lib.hid ht
  have HI := Lib.hid hi
  obtain ⟨hi1, hi2⟩ := hi
  have HRR := Lib.hid hr
  have HQ := Lib.hid hq
  have hqb : -106751992 ≤ q ∧ q ≤ 106751991 := by omega
  obtain ⟨hqb1, hqb2⟩ := hqb
  have HR := Lib.hid hR
  have HN := Lib.hid hN
  have hnb := num_bd hR
  rw [hN] at hnb
  obtain ⟨hnb1, hnb2⟩ := hnb
  have hnl : ¬ q < -719162 := by omega
  have hnh : ¬ 2932896 < q := by omega
  have HM := Lib.hid (time_parts r (by omega))
  have HE := Lib.hid (mic_back n q r HQ.out HRR.out)
  clear hR hN
  clear hr
  have hmn : ¬ n % 86400000000 < 0 := by omega
  clear ht
  have HB0 := Lib.hid (Below.refl w.heap.size w)
  go_enter Tryd.func6, Tryd.ntmps6
  go_wp2_with fail
  refine (from_at n y m d r _ HT.out HI.out HR.out (by rw [HN.out, HQ.out]) HRR.out).mono ?_
  rintro e w1 ⟨rfl, hB⟩
  have HB1 := Lib.hid (HB0.out.trans (hB.mono HB0.out.size))
  clear hB
  have HDa := Lib.hid (clock_new (y) (m) (d) (r / 3600000000) (r % 3600000000 / 60000000) (r % 60000000 / 1000000) (r % 1000000) w1 41)
  have HLa := Lib.hid (show w1.heap.size < (w1.alloc (.cells #[.int .i64 y, .int .i64 m, .int .i64 d, .int .i64 (r / 3600000000), .int .i64 (r % 3600000000 / 60000000), .int .i64 (r % 60000000 / 1000000), .int .i64 (r % 1000000)] 41)).heap.size by simp)
  have HB1 := Lib.hid (HB1.out.alloc HB1.out.size (.cells #[.int .i64 y, .int .i64 m, .int .i64 d, .int .i64 (r / 3600000000), .int .i64 (r % 3600000000 / 60000000), .int .i64 (r % 60000000 / 1000000), .int .i64 (r % 1000000)] 41))
  go_wp2_with fail
  refine (micro_at y m d _ _ _ _ q _ (HT.out.of HB1.out) HR.out HM.out HN.out).mono ?_
  rintro e w2 ⟨rfl, hB⟩
  have HB2 := Lib.hid (HB1.out.trans (hB.mono HB1.out.size))
  have HDa := Lib.hid (HDa.out.below hB HLa.out)
  have HLa := Lib.hid (Nat.lt_of_lt_of_le HLa.out hB.size)
  clear hB
  obtain ⟨ca0, ca1, ca2, ca3, ca4, ca5, ca6⟩ := HDa.out
  have hLa := HLa.out
  rw [HE.out]
  go_wp2_with fail
  refine (of_yes y m d q _ (HT.out.of HB2.out) HR.out HN.out).mono ?_
  rintro e w3 ⟨rfl, hB⟩
  have HB3 := Lib.hid (HB2.out.trans (hB.mono HB2.out.size))
  clear ca0 ca1 ca2 ca3 ca4 ca5 ca6 hLa
  have HDa := Lib.hid (HDa.out.below hB HLa.out)
  have HLa := Lib.hid (Nat.lt_of_lt_of_le HLa.out hB.size)
  clear hB
  obtain ⟨ca0, ca1, ca2, ca3, ca4, ca5, ca6⟩ := HDa.out
  have hLa := HLa.out
  have HDa := Lib.hid (HDa.out.below ((Below.refl w3.heap.size _).alloc (Nat.le_refl _) (.cells #[.int .i64 y, .int .i64 m, .int .i64 d] 23)) HLa.out)
  have HLa := Lib.hid (show w1.heap.size < (w3.alloc (.cells #[.int .i64 y, .int .i64 m, .int .i64 d] 23)).heap.size by have := HLa.out; simp; omega)
  have HDb := Lib.hid (date_new (y) (m) (d) w3 23)
  have HLb := Lib.hid (show w3.heap.size < (w3.alloc (.cells #[.int .i64 y, .int .i64 m, .int .i64 d] 23)).heap.size by simp)
  have HB3 := Lib.hid (HB3.out.alloc HB3.out.size (.cells #[.int .i64 y, .int .i64 m, .int .i64 d] 23))
  go_wp2_with fail
  refine (works_any _ (HT.out.of HB3.out)).mono ?_
  rintro e w4 ⟨rfl, hB⟩
  have HB4 := Lib.hid (HB3.out.trans (hB.mono HB3.out.size))
  clear ca0 ca1 ca2 ca3 ca4 ca5 ca6 hLa
  have HDa := Lib.hid (HDa.out.below hB HLa.out)
  have HLa := Lib.hid (Nat.lt_of_lt_of_le HLa.out hB.size)
  have HDb := Lib.hid (HDb.out.below hB HLb.out)
  have HLb := Lib.hid (Nat.lt_of_lt_of_le HLb.out hB.size)
  clear hB
  obtain ⟨ca0, ca1, ca2, ca3, ca4, ca5, ca6⟩ := HDa.out
  have hLa := HLa.out
  obtain ⟨cb0, cb1, cb2⟩ := HDb.out
  have hLb := HLb.out
  go_wp2
  go_ret
  exact ⟨rfl, HB4.out⟩

set_option maxRecDepth 100000 in
set_option maxHeartbeats 2000000 in
theorem from_law_po (n q r : Int) (hi : -9223372036854775808 ≤ n ∧ n ≤ 9223372036854775807) (hs : 0 ≤ n) (hq : n / 86400000000 = q) (hr : n % 86400000000 = r) (ho : 2932896 < q) (w : World) (ht : Tab w) :
    Calls Tryd.prog 6 #[.int .i64 n] w fun e w' => e = .returned (.bool true) ∧ Below w.heap.size w w' := by
  have HT := Lib.hid ht
  have HI := Lib.hid hi
  obtain ⟨hi1, hi2⟩ := hi
  have HRR := Lib.hid hr
  have HQ := Lib.hid hq
  have hqb : -106751992 ≤ q ∧ q ≤ 106751991 := by omega
  obtain ⟨hqb1, hqb2⟩ := hqb
  have HO := Lib.hid (show n / 86400000000 < -719162 ∨ 2932896 < n / 86400000000 by rw [HQ.out]; omega)
  have hnl : ¬ q < -719162 := by omega
  clear hr
  have hmn : ¬ n % 86400000000 < 0 := by omega
  clear ht
  have HB0 := Lib.hid (Below.refl w.heap.size w)
  go_enter Tryd.func6, Tryd.ntmps6
  go_wp2_with fail
  refine (from_no n _ HI.out HO.out).mono ?_
  rintro e w1 ⟨rfl, hB⟩
  have HB1 := Lib.hid (HB0.out.trans (hB.mono HB0.out.size))
  clear hB
  have HDa := Lib.hid (clock_new (0) (0) (0) (0) (0) (0) (0) w1 41)
  have HLa := Lib.hid (show w1.heap.size < (w1.alloc (.cells #[.int .i64 0, .int .i64 0, .int .i64 0, .int .i64 0, .int .i64 0, .int .i64 0, .int .i64 0] 41)).heap.size by simp)
  have HB1 := Lib.hid (HB1.out.alloc HB1.out.size (.cells #[.int .i64 0, .int .i64 0, .int .i64 0, .int .i64 0, .int .i64 0, .int .i64 0, .int .i64 0] 41))
  go_wp2_with fail
  refine (works_any _ (HT.out.of HB1.out)).mono ?_
  rintro e w2 ⟨rfl, hB⟩
  have HB2 := Lib.hid (HB1.out.trans (hB.mono HB1.out.size))
  have HDa := Lib.hid (HDa.out.below hB HLa.out)
  have HLa := Lib.hid (Nat.lt_of_lt_of_le HLa.out hB.size)
  clear hB
  obtain ⟨ca0, ca1, ca2, ca3, ca4, ca5, ca6⟩ := HDa.out
  have hLa := HLa.out
  go_wp2
  go_ret
  exact ⟨rfl, HB2.out⟩

set_option maxRecDepth 100000 in
set_option maxHeartbeats 2000000 in
theorem from_law_zi (n q r : Int) (hi : -9223372036854775808 ≤ n ∧ n ≤ 9223372036854775807) (hs : n < 0) (hq : n.tdiv 86400000000 = q) (hm : n.tmod 86400000000 = 0) (hq2 : n / 86400000000 = q) (hr : n % 86400000000 = r) (y m d : Int) (hR : Right y m d) (hN : num y m d = q) (w : World) (ht : Tab w) :
    Calls Tryd.prog 6 #[.int .i64 n] w fun e w' => e = .returned (.bool true) ∧ Below w.heap.size w w' := by
  have HT := Lib.hid ht
  have HI := Lib.hid hi
  obtain ⟨hi1, hi2⟩ := hi
  have HRR := Lib.hid hr
  have HQ := Lib.hid hq2
  have hqb : -106751992 ≤ q ∧ q ≤ 106751991 := by omega
  obtain ⟨hqb1, hqb2⟩ := hqb
  have HR := Lib.hid hR
  have HN := Lib.hid hN
  have hnb := num_bd hR
  rw [hN] at hnb
  obtain ⟨hnb1, hnb2⟩ := hnb
  have hnl : ¬ q < -719162 := by omega
  have hnh : ¬ 2932896 < q := by omega
  have HM := Lib.hid (time_parts r (by omega))
  have HE := Lib.hid (mic_back n q r HQ.out HRR.out)
  clear hR hN
  clear hr hq2
  clear ht
  have HB0 := Lib.hid (Below.refl w.heap.size w)
  go_enter Tryd.func6, Tryd.ntmps6
  go_wp2_with fail
  refine (from_at n y m d r _ HT.out HI.out HR.out (by rw [HN.out, HQ.out]) HRR.out).mono ?_
  rintro e w1 ⟨rfl, hB⟩
  have HB1 := Lib.hid (HB0.out.trans (hB.mono HB0.out.size))
  clear hB
  have HDa := Lib.hid (clock_new (y) (m) (d) (r / 3600000000) (r % 3600000000 / 60000000) (r % 60000000 / 1000000) (r % 1000000) w1 41)
  have HLa := Lib.hid (show w1.heap.size < (w1.alloc (.cells #[.int .i64 y, .int .i64 m, .int .i64 d, .int .i64 (r / 3600000000), .int .i64 (r % 3600000000 / 60000000), .int .i64 (r % 60000000 / 1000000), .int .i64 (r % 1000000)] 41)).heap.size by simp)
  have HB1 := Lib.hid (HB1.out.alloc HB1.out.size (.cells #[.int .i64 y, .int .i64 m, .int .i64 d, .int .i64 (r / 3600000000), .int .i64 (r % 3600000000 / 60000000), .int .i64 (r % 60000000 / 1000000), .int .i64 (r % 1000000)] 41))
  go_wp2_with fail
  refine (micro_at y m d _ _ _ _ q _ (HT.out.of HB1.out) HR.out HM.out HN.out).mono ?_
  rintro e w2 ⟨rfl, hB⟩
  have HB2 := Lib.hid (HB1.out.trans (hB.mono HB1.out.size))
  have HDa := Lib.hid (HDa.out.below hB HLa.out)
  have HLa := Lib.hid (Nat.lt_of_lt_of_le HLa.out hB.size)
  clear hB
  obtain ⟨ca0, ca1, ca2, ca3, ca4, ca5, ca6⟩ := HDa.out
  have hLa := HLa.out
  rw [HE.out]
  go_wp2_with fail
  refine (of_yes y m d q _ (HT.out.of HB2.out) HR.out HN.out).mono ?_
  rintro e w3 ⟨rfl, hB⟩
  have HB3 := Lib.hid (HB2.out.trans (hB.mono HB2.out.size))
  clear ca0 ca1 ca2 ca3 ca4 ca5 ca6 hLa
  have HDa := Lib.hid (HDa.out.below hB HLa.out)
  have HLa := Lib.hid (Nat.lt_of_lt_of_le HLa.out hB.size)
  clear hB
  obtain ⟨ca0, ca1, ca2, ca3, ca4, ca5, ca6⟩ := HDa.out
  have hLa := HLa.out
  have HDa := Lib.hid (HDa.out.below ((Below.refl w3.heap.size _).alloc (Nat.le_refl _) (.cells #[.int .i64 y, .int .i64 m, .int .i64 d] 23)) HLa.out)
  have HLa := Lib.hid (show w1.heap.size < (w3.alloc (.cells #[.int .i64 y, .int .i64 m, .int .i64 d] 23)).heap.size by have := HLa.out; simp; omega)
  have HDb := Lib.hid (date_new (y) (m) (d) w3 23)
  have HLb := Lib.hid (show w3.heap.size < (w3.alloc (.cells #[.int .i64 y, .int .i64 m, .int .i64 d] 23)).heap.size by simp)
  have HB3 := Lib.hid (HB3.out.alloc HB3.out.size (.cells #[.int .i64 y, .int .i64 m, .int .i64 d] 23))
  go_wp2_with fail
  refine (works_any _ (HT.out.of HB3.out)).mono ?_
  rintro e w4 ⟨rfl, hB⟩
  have HB4 := Lib.hid (HB3.out.trans (hB.mono HB3.out.size))
  clear ca0 ca1 ca2 ca3 ca4 ca5 ca6 hLa
  have HDa := Lib.hid (HDa.out.below hB HLa.out)
  have HLa := Lib.hid (Nat.lt_of_lt_of_le HLa.out hB.size)
  have HDb := Lib.hid (HDb.out.below hB HLb.out)
  have HLb := Lib.hid (Nat.lt_of_lt_of_le HLb.out hB.size)
  clear hB
  obtain ⟨ca0, ca1, ca2, ca3, ca4, ca5, ca6⟩ := HDa.out
  have hLa := HLa.out
  obtain ⟨cb0, cb1, cb2⟩ := HDb.out
  have hLb := HLb.out
  go_wp2
  go_ret
  exact ⟨rfl, HB4.out⟩

set_option maxRecDepth 100000 in
set_option maxHeartbeats 2000000 in
theorem from_law_zo (n q r : Int) (hi : -9223372036854775808 ≤ n ∧ n ≤ 9223372036854775807) (hs : n < 0) (hq : n.tdiv 86400000000 = q) (hm : n.tmod 86400000000 = 0) (hq2 : n / 86400000000 = q) (hr : n % 86400000000 = r) (ho : q < -719162) (w : World) (ht : Tab w) :
    Calls Tryd.prog 6 #[.int .i64 n] w fun e w' => e = .returned (.bool true) ∧ Below w.heap.size w w' := by
  have HT := Lib.hid ht
  have HI := Lib.hid hi
  obtain ⟨hi1, hi2⟩ := hi
  have HRR := Lib.hid hr
  have HQ := Lib.hid hq2
  have hqb : -106751992 ≤ q ∧ q ≤ 106751991 := by omega
  obtain ⟨hqb1, hqb2⟩ := hqb
  have HO := Lib.hid (show n / 86400000000 < -719162 ∨ 2932896 < n / 86400000000 by rw [HQ.out]; omega)
  clear hr hq2
  clear ht
  have HB0 := Lib.hid (Below.refl w.heap.size w)
  go_enter Tryd.func6, Tryd.ntmps6
  go_wp2_with fail
  refine (from_no n _ HI.out HO.out).mono ?_
  rintro e w1 ⟨rfl, hB⟩
  have HB1 := Lib.hid (HB0.out.trans (hB.mono HB0.out.size))
  clear hB
  have HDa := Lib.hid (clock_new (0) (0) (0) (0) (0) (0) (0) w1 41)
  have HLa := Lib.hid (show w1.heap.size < (w1.alloc (.cells #[.int .i64 0, .int .i64 0, .int .i64 0, .int .i64 0, .int .i64 0, .int .i64 0, .int .i64 0] 41)).heap.size by simp)
  have HB1 := Lib.hid (HB1.out.alloc HB1.out.size (.cells #[.int .i64 0, .int .i64 0, .int .i64 0, .int .i64 0, .int .i64 0, .int .i64 0, .int .i64 0] 41))
  go_wp2_with fail
  refine (works_any _ (HT.out.of HB1.out)).mono ?_
  rintro e w2 ⟨rfl, hB⟩
  have HB2 := Lib.hid (HB1.out.trans (hB.mono HB1.out.size))
  have HDa := Lib.hid (HDa.out.below hB HLa.out)
  have HLa := Lib.hid (Nat.lt_of_lt_of_le HLa.out hB.size)
  clear hB
  obtain ⟨ca0, ca1, ca2, ca3, ca4, ca5, ca6⟩ := HDa.out
  have hLa := HLa.out
  go_wp2
  go_ret
  exact ⟨rfl, HB2.out⟩

set_option maxRecDepth 100000 in
set_option maxHeartbeats 2000000 in
theorem from_law_mi (n q r : Int) (hi : -9223372036854775808 ≤ n ∧ n ≤ 9223372036854775807) (hs : n < 0) (t : Int) (ht0 : t < 0) (hq : n.tdiv 86400000000 = q + 1) (hm : n.tmod 86400000000 = t) (hq2 : n / 86400000000 = q) (hr : n % 86400000000 = r) (y m d : Int) (hR : Right y m d) (hN : num y m d = q) (w : World) (ht : Tab w) :
    Calls Tryd.prog 6 #[.int .i64 n] w fun e w' => e = .returned (.bool true) ∧ Below w.heap.size w w' := by
  have HT := Lib.hid ht
  have HI := Lib.hid hi
  obtain ⟨hi1, hi2⟩ := hi
  have HRR := Lib.hid hr
  have HQ := Lib.hid hq2
  have hqb : -106751992 ≤ q ∧ q ≤ 106751991 := by omega
  obtain ⟨hqb1, hqb2⟩ := hqb
  have HR := Lib.hid hR
  have HN := Lib.hid hN
  have hnb := num_bd hR
  rw [hN] at hnb
  obtain ⟨hnb1, hnb2⟩ := hnb
  have hnl : ¬ q < -719162 := by omega
  have hnh : ¬ 2932896 < q := by omega
  have HM := Lib.hid (time_parts r (by omega))
  have HE := Lib.hid (mic_back n q r HQ.out HRR.out)
  clear hR hN
  clear hr hq2
  clear ht
  have HB0 := Lib.hid (Below.refl w.heap.size w)
  go_enter Tryd.func6, Tryd.ntmps6
  go_wp2_with fail
  refine (from_at n y m d r _ HT.out HI.out HR.out (by rw [HN.out, HQ.out]) HRR.out).mono ?_
  rintro e w1 ⟨rfl, hB⟩
  have HB1 := Lib.hid (HB0.out.trans (hB.mono HB0.out.size))
  clear hB
  have HDa := Lib.hid (clock_new (y) (m) (d) (r / 3600000000) (r % 3600000000 / 60000000) (r % 60000000 / 1000000) (r % 1000000) w1 41)
  have HLa := Lib.hid (show w1.heap.size < (w1.alloc (.cells #[.int .i64 y, .int .i64 m, .int .i64 d, .int .i64 (r / 3600000000), .int .i64 (r % 3600000000 / 60000000), .int .i64 (r % 60000000 / 1000000), .int .i64 (r % 1000000)] 41)).heap.size by simp)
  have HB1 := Lib.hid (HB1.out.alloc HB1.out.size (.cells #[.int .i64 y, .int .i64 m, .int .i64 d, .int .i64 (r / 3600000000), .int .i64 (r % 3600000000 / 60000000), .int .i64 (r % 60000000 / 1000000), .int .i64 (r % 1000000)] 41))
  go_wp2_with fail
  refine (micro_at y m d _ _ _ _ q _ (HT.out.of HB1.out) HR.out HM.out HN.out).mono ?_
  rintro e w2 ⟨rfl, hB⟩
  have HB2 := Lib.hid (HB1.out.trans (hB.mono HB1.out.size))
  have HDa := Lib.hid (HDa.out.below hB HLa.out)
  have HLa := Lib.hid (Nat.lt_of_lt_of_le HLa.out hB.size)
  clear hB
  obtain ⟨ca0, ca1, ca2, ca3, ca4, ca5, ca6⟩ := HDa.out
  have hLa := HLa.out
  rw [HE.out]
  go_wp2_with fail
  refine (of_yes y m d q _ (HT.out.of HB2.out) HR.out HN.out).mono ?_
  rintro e w3 ⟨rfl, hB⟩
  have HB3 := Lib.hid (HB2.out.trans (hB.mono HB2.out.size))
  clear ca0 ca1 ca2 ca3 ca4 ca5 ca6 hLa
  have HDa := Lib.hid (HDa.out.below hB HLa.out)
  have HLa := Lib.hid (Nat.lt_of_lt_of_le HLa.out hB.size)
  clear hB
  obtain ⟨ca0, ca1, ca2, ca3, ca4, ca5, ca6⟩ := HDa.out
  have hLa := HLa.out
  have HDa := Lib.hid (HDa.out.below ((Below.refl w3.heap.size _).alloc (Nat.le_refl _) (.cells #[.int .i64 y, .int .i64 m, .int .i64 d] 23)) HLa.out)
  have HLa := Lib.hid (show w1.heap.size < (w3.alloc (.cells #[.int .i64 y, .int .i64 m, .int .i64 d] 23)).heap.size by have := HLa.out; simp; omega)
  have HDb := Lib.hid (date_new (y) (m) (d) w3 23)
  have HLb := Lib.hid (show w3.heap.size < (w3.alloc (.cells #[.int .i64 y, .int .i64 m, .int .i64 d] 23)).heap.size by simp)
  have HB3 := Lib.hid (HB3.out.alloc HB3.out.size (.cells #[.int .i64 y, .int .i64 m, .int .i64 d] 23))
  go_wp2_with fail
  refine (works_any _ (HT.out.of HB3.out)).mono ?_
  rintro e w4 ⟨rfl, hB⟩
  have HB4 := Lib.hid (HB3.out.trans (hB.mono HB3.out.size))
  clear ca0 ca1 ca2 ca3 ca4 ca5 ca6 hLa
  have HDa := Lib.hid (HDa.out.below hB HLa.out)
  have HLa := Lib.hid (Nat.lt_of_lt_of_le HLa.out hB.size)
  have HDb := Lib.hid (HDb.out.below hB HLb.out)
  have HLb := Lib.hid (Nat.lt_of_lt_of_le HLb.out hB.size)
  clear hB
  obtain ⟨ca0, ca1, ca2, ca3, ca4, ca5, ca6⟩ := HDa.out
  have hLa := HLa.out
  obtain ⟨cb0, cb1, cb2⟩ := HDb.out
  have hLb := HLb.out
  go_wp2
  go_ret
  exact ⟨rfl, HB4.out⟩

set_option maxRecDepth 100000 in
set_option maxHeartbeats 2000000 in
theorem from_law_mo (n q r : Int) (hi : -9223372036854775808 ≤ n ∧ n ≤ 9223372036854775807) (hs : n < 0) (t : Int) (ht0 : t < 0) (hq : n.tdiv 86400000000 = q + 1) (hm : n.tmod 86400000000 = t) (hq2 : n / 86400000000 = q) (hr : n % 86400000000 = r) (ho : q < -719162) (w : World) (ht : Tab w) :
    Calls Tryd.prog 6 #[.int .i64 n] w fun e w' => e = .returned (.bool true) ∧ Below w.heap.size w w' := by
  have HT := Lib.hid ht
  have HI := Lib.hid hi
  obtain ⟨hi1, hi2⟩ := hi
  have HRR := Lib.hid hr
  have HQ := Lib.hid hq2
  have hqb : -106751992 ≤ q ∧ q ≤ 106751991 := by omega
  obtain ⟨hqb1, hqb2⟩ := hqb
  have HO := Lib.hid (show n / 86400000000 < -719162 ∨ 2932896 < n / 86400000000 by rw [HQ.out]; omega)
  clear hr hq2
  clear ht
  have HB0 := Lib.hid (Below.refl w.heap.size w)
  go_enter Tryd.func6, Tryd.ntmps6
  go_wp2_with fail
  refine (from_no n _ HI.out HO.out).mono ?_
  rintro e w1 ⟨rfl, hB⟩
  have HB1 := Lib.hid (HB0.out.trans (hB.mono HB0.out.size))
  clear hB
  have HDa := Lib.hid (clock_new (0) (0) (0) (0) (0) (0) (0) w1 41)
  have HLa := Lib.hid (show w1.heap.size < (w1.alloc (.cells #[.int .i64 0, .int .i64 0, .int .i64 0, .int .i64 0, .int .i64 0, .int .i64 0, .int .i64 0] 41)).heap.size by simp)
  have HB1 := Lib.hid (HB1.out.alloc HB1.out.size (.cells #[.int .i64 0, .int .i64 0, .int .i64 0, .int .i64 0, .int .i64 0, .int .i64 0, .int .i64 0] 41))
  go_wp2_with fail
  refine (works_any _ (HT.out.of HB1.out)).mono ?_
  rintro e w2 ⟨rfl, hB⟩
  have HB2 := Lib.hid (HB1.out.trans (hB.mono HB1.out.size))
  have HDa := Lib.hid (HDa.out.below hB HLa.out)
  have HLa := Lib.hid (Nat.lt_of_lt_of_le HLa.out hB.size)
  clear hB
  obtain ⟨ca0, ca1, ca2, ca3, ca4, ca5, ca6⟩ := HDa.out
  have hLa := HLa.out
  go_wp2
  go_ret
  exact ⟨rfl, HB2.out⟩

theorem civilFrom_any (n : Int) (w : World) (ht : Tab w) (hi : -9223372036854775808 ≤ n ∧ n ≤ 9223372036854775807) :
    Calls Tryd.prog 6 #[.int .i64 n] w fun e w' => e = .returned (.bool true) ∧ Below w.heap.size w w' := by
  by_cases hs : 0 ≤ n
  · by_cases ho : 2932896 < n / 86400000000
    · exact from_law_po n _ _ hi hs rfl rfl ho w ht
    · obtain ⟨y, m, d, hR, hN⟩ := day_of (n / 86400000000) (by omega) (by omega)
      exact from_law_pi n _ _ hi hs rfl rfl y m d hR hN w ht
  · have hd : n.tdiv 86400000000 = - ((-n) / 86400000000) := by
      have := Int.neg_tdiv (-n) 86400000000
      rw [Int.neg_neg] at this; rw [this, Int.tdiv_eq_ediv_of_nonneg (by omega)]
    have hm : n.tmod 86400000000 = - ((-n) % 86400000000) := by
      have := Int.neg_tmod (-n) 86400000000
      rw [Int.neg_neg] at this; rw [this, Int.tmod_eq_emod_of_nonneg (by omega)]
    by_cases hz : n % 86400000000 = 0
    · have h1 : n.tdiv 86400000000 = n / 86400000000 := by omega
      have h2 : n.tmod 86400000000 = 0 := by omega
      by_cases ho : n / 86400000000 < -719162
      · exact from_law_zo n _ _ hi (by omega) h1 h2 rfl rfl ho w ht
      · obtain ⟨y, m, d, hR, hN⟩ := day_of (n / 86400000000) (by omega) (by omega)
        exact from_law_zi n _ _ hi (by omega) h1 h2 rfl rfl y m d hR hN w ht
    · have h1 : n.tdiv 86400000000 = n / 86400000000 + 1 := by omega
      have h2 : n.tmod 86400000000 < 0 := by omega
      by_cases ho : n / 86400000000 < -719162
      · exact from_law_mo n _ _ hi (by omega) _ h2 h1 rfl rfl rfl ho w ht
      · obtain ⟨y, m, d, hR, hN⟩ := day_of (n / 86400000000) (by omega) (by omega)
        exact from_law_mi n _ _ hi (by omega) _ h2 h1 rfl rfl rfl y m d hR hN w ht
end Go.Proofs.YtcllimfaoajapabDoor.Cv
