/-
  The walk of the law CivilRound. (Made by tools/gen_civil.py.)
-/
import Derived.Test.YtcllimfaoajapabDoorCvLaw
import Derived.Deep.RegionHeld3
import Derived.IntWalk
import Derived.BigQuiet
namespace Go.Proofs.YtcllimfaoajapabDoor.Cv
open Go.RowKit

theorem lp_400 (y : Int) : lp (y + 400) = lp y := by
  have h1 := lp_01 y
  have h2 := lp_01 (y + 400)
  omega
theorem ml_400 (y m : Int) : ml (y + 400) m = ml y m := by unfold ml; rw [lp_400]
theorem num_400 (y m d : Int) : num (y + 400) m d - num y m d = 146097 := by
  have h1 : cum (y + 400) m = cum y m := by unfold cum; rw [lp_400]
  have h2 : dby (y + 400) = dby y + 146097 := by unfold dby; omega
  unfold num; omega

set_option maxRecDepth 100000 in
set_option maxHeartbeats 2000000 in
theorem round_law_wrong (y m d : Int) (hr : right y m d = false) (w : World) (ht : Tab w) :
    Calls Tryd.prog 8 #[dv y m d] w fun e w' => e = .returned (.bool true) ∧ Below w.heap.size w w' := by
  have HT := Lib.hid ht
  have HR := Lib.hid hr
  clear hr
  clear ht
  have HB0 := Lib.hid (Below.refl w.heap.size w)
  have HDa := Lib.hid (date_new (y) (m) (d) w 23)
  have HLa := Lib.hid (show w.heap.size < (w.alloc (.cells #[.int .i64 y, .int .i64 m, .int .i64 d] 23)).heap.size by simp)
  have HB0 := Lib.hid (HB0.out.alloc HB0.out.size (.cells #[.int .i64 y, .int .i64 m, .int .i64 d] 23))
  go_enter Tryd.func8, Tryd.ntmps8
  go_wp2_with fail
  refine (right_at y m d false _ (HT.out.of HB0.out) HR.out).mono ?_
  rintro e w1 ⟨rfl, hB⟩
  have HB1 := Lib.hid (HB0.out.trans (hB.mono HB0.out.size))
  have HDa := Lib.hid (HDa.out.below hB HLa.out)
  have HLa := Lib.hid (Nat.lt_of_lt_of_le HLa.out hB.size)
  clear hB
  obtain ⟨ca0, ca1, ca2⟩ := HDa.out
  have hLa := HLa.out
  go_wp2_with fail
  refine (works_any _ (HT.out.of HB1.out)).mono ?_
  rintro e w2 ⟨rfl, hB⟩
  have HB2 := Lib.hid (HB1.out.trans (hB.mono HB1.out.size))
  clear ca0 ca1 ca2 hLa
  have HDa := Lib.hid (HDa.out.below hB HLa.out)
  have HLa := Lib.hid (Nat.lt_of_lt_of_le HLa.out hB.size)
  clear hB
  obtain ⟨ca0, ca1, ca2⟩ := HDa.out
  have hLa := HLa.out
  go_wp2
  go_ret
  exact ⟨rfl, HB2.out⟩

set_option maxRecDepth 100000 in
set_option maxHeartbeats 2000000 in
theorem round_law_late (y m d : Int) (hr : right y m d = true) (hy : 9599 < y) (w : World) (ht : Tab w) :
    Calls Tryd.prog 8 #[dv y m d] w fun e w' => e = .returned (.bool true) ∧ Below w.heap.size w w' := by
  have HT := Lib.hid ht
  have HR := Lib.hid hr
  clear hr
  clear ht
  have HB0 := Lib.hid (Below.refl w.heap.size w)
  have HDa := Lib.hid (date_new (y) (m) (d) w 23)
  have HLa := Lib.hid (show w.heap.size < (w.alloc (.cells #[.int .i64 y, .int .i64 m, .int .i64 d] 23)).heap.size by simp)
  have HB0 := Lib.hid (HB0.out.alloc HB0.out.size (.cells #[.int .i64 y, .int .i64 m, .int .i64 d] 23))
  go_enter Tryd.func8, Tryd.ntmps8
  go_wp2_with fail
  refine (right_at y m d true _ (HT.out.of HB0.out) HR.out).mono ?_
  rintro e w1 ⟨rfl, hB⟩
  have HB1 := Lib.hid (HB0.out.trans (hB.mono HB0.out.size))
  have HDa := Lib.hid (HDa.out.below hB HLa.out)
  have HLa := Lib.hid (Nat.lt_of_lt_of_le HLa.out hB.size)
  clear hB
  obtain ⟨ca0, ca1, ca2⟩ := HDa.out
  have hLa := HLa.out
  go_wp2_with fail
  refine (works_any _ (HT.out.of HB1.out)).mono ?_
  rintro e w2 ⟨rfl, hB⟩
  have HB2 := Lib.hid (HB1.out.trans (hB.mono HB1.out.size))
  clear ca0 ca1 ca2 hLa
  have HDa := Lib.hid (HDa.out.below hB HLa.out)
  have HLa := Lib.hid (Nat.lt_of_lt_of_le HLa.out hB.size)
  clear hB
  obtain ⟨ca0, ca1, ca2⟩ := HDa.out
  have hLa := HLa.out
  go_wp2
  go_ret
  exact ⟨rfl, HB2.out⟩

set_option maxRecDepth 100000 in
set_option maxHeartbeats 4000000 in
theorem round_law_plain (y m d n1 n2 a b l v : Int) (hr : Right y m d) (hy : y ≤ 9599) (hr2 : Right (y + 400) m d) (hra : Right y 1 1) (hrb : Right (y + 1) 1 1) (h1 : num y m d = n1) (h2 : num (y + 400) m d = n2) (ha : num y 1 1 = a) (hb : num (y + 1) 1 1 = b) (hl : long y m = l) (hl2 : long (y + 400) m = l) (hl28 : 28 ≤ l) (hl31 : l ≤ 31) (hlf : long y 2 = 28) (hw1 : wday n1 = v) (hw2 : wday n2 = v) (hd : n2 - n1 = 146097) (hab : b - a = 365) (w : World) (ht : Tab w) :
    Calls Tryd.prog 8 #[dv y m d] w fun e w' => e = .returned (.bool true) ∧ Below w.heap.size w w' := by
  have HT := Lib.hid ht
  have hnb1 := num_bd hr
  have hnb2 := num_bd hr2
  have hnba := num_bd hra
  have hnbb := num_bd hrb
  rw [h1] at hnb1
  rw [h2] at hnb2
  rw [ha] at hnba
  rw [hb] at hnbb
  obtain ⟨e1, e2⟩ := hnb1
  obtain ⟨e3, e4⟩ := hnb2
  obtain ⟨e5, e6⟩ := hnba
  obtain ⟨e7, e8⟩ := hnbb
  have hy0 := hr.1
  have HRB := Lib.hid ((right_iff y m d).2 hr)
  have hny : ¬ 9599 < y := by omega
  have HRq := Lib.hid hr
  have HR2q := Lib.hid hr2
  have HRAq := Lib.hid hra
  have HRBq := Lib.hid hrb
  have H1q := Lib.hid h1
  have H2q := Lib.hid h2
  have HAq := Lib.hid ha
  have HBq := Lib.hid hb
  have HLq := Lib.hid hl
  have HL2q := Lib.hid hl2
  have HLFq := Lib.hid hlf
  have HW1q := Lib.hid hw1
  have HW2q := Lib.hid hw2
  have HDq := Lib.hid hd
  have HABq := Lib.hid hab
  clear hr hr2 hra hrb h1 h2 ha hb hl hl2 hlf hw1 hw2 hd hab
  clear ht
  have HB0 := Lib.hid (Below.refl w.heap.size w)
  have HDa := Lib.hid (date_new (y) (m) (d) w 23)
  have HLa := Lib.hid (show w.heap.size < (w.alloc (.cells #[.int .i64 y, .int .i64 m, .int .i64 d] 23)).heap.size by simp)
  have HB0 := Lib.hid (HB0.out.alloc HB0.out.size (.cells #[.int .i64 y, .int .i64 m, .int .i64 d] 23))
  go_enter Tryd.func8, Tryd.ntmps8
  go_wp2_with fail
  refine (right_at y m d true _ (HT.out.of HB0.out) HRB.out).mono ?_
  rintro e w1 ⟨rfl, hB⟩
  have HB1 := Lib.hid (HB0.out.trans (hB.mono HB0.out.size))
  have HDa := Lib.hid (HDa.out.below hB HLa.out)
  have HLa := Lib.hid (Nat.lt_of_lt_of_le HLa.out hB.size)
  clear hB
  obtain ⟨ca0, ca1, ca2⟩ := HDa.out
  have hLa := HLa.out
  have HDa := Lib.hid (HDa.out.below ((Below.refl w1.heap.size _).alloc (Nat.le_refl _) (.cells #[.int .i64 (y + 400), .int .i64 m, .int .i64 d] 23)) HLa.out)
  have HLa := Lib.hid (show w.heap.size < (w1.alloc (.cells #[.int .i64 (y + 400), .int .i64 m, .int .i64 d] 23)).heap.size by have := HLa.out; simp; omega)
  have HDb := Lib.hid (date_new (y + 400) (m) (d) w1 23)
  have HLb := Lib.hid (show w1.heap.size < (w1.alloc (.cells #[.int .i64 (y + 400), .int .i64 m, .int .i64 d] 23)).heap.size by simp)
  have HB1 := Lib.hid (HB1.out.alloc HB1.out.size (.cells #[.int .i64 (y + 400), .int .i64 m, .int .i64 d] 23))
  go_wp2_with fail
  refine (days_at y m d n1 _ (HT.out.of HB1.out) HRq.out H1q.out).mono ?_
  rintro e w2 ⟨rfl, hB⟩
  have HB2 := Lib.hid (HB1.out.trans (hB.mono HB1.out.size))
  clear ca0 ca1 ca2 hLa
  have HDa := Lib.hid (HDa.out.below hB HLa.out)
  have HLa := Lib.hid (Nat.lt_of_lt_of_le HLa.out hB.size)
  have HDb := Lib.hid (HDb.out.below hB HLb.out)
  have HLb := Lib.hid (Nat.lt_of_lt_of_le HLb.out hB.size)
  clear hB
  obtain ⟨ca0, ca1, ca2⟩ := HDa.out
  have hLa := HLa.out
  obtain ⟨cb0, cb1, cb2⟩ := HDb.out
  have hLb := HLb.out
  go_wp2_with fail
  refine (days_at (y + 400) m d n2 _ (HT.out.of HB2.out) HR2q.out H2q.out).mono ?_
  rintro e w3 ⟨rfl, hB⟩
  have HB3 := Lib.hid (HB2.out.trans (hB.mono HB2.out.size))
  clear ca0 ca1 ca2 hLa
  have HDa := Lib.hid (HDa.out.below hB HLa.out)
  have HLa := Lib.hid (Nat.lt_of_lt_of_le HLa.out hB.size)
  clear cb0 cb1 cb2 hLb
  have HDb := Lib.hid (HDb.out.below hB HLb.out)
  have HLb := Lib.hid (Nat.lt_of_lt_of_le HLb.out hB.size)
  clear hB
  obtain ⟨ca0, ca1, ca2⟩ := HDa.out
  have hLa := HLa.out
  obtain ⟨cb0, cb1, cb2⟩ := HDb.out
  have hLb := HLb.out
  go_wp2_with fail
  refine (long_at y m l _ HLq.out (HT.out.of HB3.out)).mono ?_
  rintro e w' ⟨rfl, rfl⟩
  go_wp2_with fail
  refine (days_at y 1 1 a _ (HT.out.of HB3.out) HRAq.out HAq.out).mono ?_
  rintro e w4 ⟨rfl, hB⟩
  have HB4 := Lib.hid (HB3.out.trans (hB.mono HB3.out.size))
  clear ca0 ca1 ca2 hLa
  have HDa := Lib.hid (HDa.out.below hB HLa.out)
  have HLa := Lib.hid (Nat.lt_of_lt_of_le HLa.out hB.size)
  clear cb0 cb1 cb2 hLb
  have HDb := Lib.hid (HDb.out.below hB HLb.out)
  have HLb := Lib.hid (Nat.lt_of_lt_of_le HLb.out hB.size)
  clear hB
  obtain ⟨ca0, ca1, ca2⟩ := HDa.out
  have hLa := HLa.out
  obtain ⟨cb0, cb1, cb2⟩ := HDb.out
  have hLb := HLb.out
  go_wp2_with fail
  refine (days_at (y + 1) 1 1 b _ (HT.out.of HB4.out) HRBq.out HBq.out).mono ?_
  rintro e w5 ⟨rfl, hB⟩
  have HB5 := Lib.hid (HB4.out.trans (hB.mono HB4.out.size))
  clear ca0 ca1 ca2 hLa
  have HDa := Lib.hid (HDa.out.below hB HLa.out)
  have HLa := Lib.hid (Nat.lt_of_lt_of_le HLa.out hB.size)
  clear cb0 cb1 cb2 hLb
  have HDb := Lib.hid (HDb.out.below hB HLb.out)
  have HLb := Lib.hid (Nat.lt_of_lt_of_le HLb.out hB.size)
  clear hB
  obtain ⟨ca0, ca1, ca2⟩ := HDa.out
  have hLa := HLa.out
  obtain ⟨cb0, cb1, cb2⟩ := HDb.out
  have hLb := HLb.out
  go_wp2_with fail
  clear ca0 ca1 ca2 hLa
  clear cb0 cb1 cb2 hLb
  refine wp_world (R := fun W => (DateAt (w.heap.size) (y) (m) (d) (W)) ∧ w.heap.size < W.heap.size ∧ (DateAt (w1.heap.size) (y + 400) (m) (d) (W)) ∧ w1.heap.size < W.heap.size ∧ Below w.heap.size w W) ⟨HDa.out, HLa.out, HDb.out, HLb.out, HB5.out⟩ ?_
  rintro W6 ⟨hda, hla, hdb, hlb, hb⟩
  have HDa := Lib.hid hda
  have HLa := Lib.hid hla
  clear hda hla
  have HDb := Lib.hid hdb
  have HLb := Lib.hid hlb
  clear hdb hlb
  have HB6 := Lib.hid hb
  have HTW := Lib.hid (HT.out.of hb)
  clear hb
  have f1 : (n2 - n1 == 146097) = true := by rw [beq_iff_eq]; exact HDq.out
  have f2 : (b - a == 365) = true := by rw [beq_iff_eq]; exact HABq.out
  have f3 : (b - a == 366) = false := by rw [HABq.out]; rfl
  have qa0 : ∀ dq osq, (Sort.grow (redrawn W6 dq) osq).cell? ⟨w.heap.size, 0, none⟩ = some (.int .i64 y) := fun dq osq => (HDa.out.below (below_regrown W6 dq osq) HLa.out).1
  have qa1 : ∀ dq osq, (Sort.grow (redrawn W6 dq) osq).cell? ⟨w.heap.size, 1, none⟩ = some (.int .i64 m) := fun dq osq => (HDa.out.below (below_regrown W6 dq osq) HLa.out).2.1
  have qa2 : ∀ dq osq, (Sort.grow (redrawn W6 dq) osq).cell? ⟨w.heap.size, 2, none⟩ = some (.int .i64 d) := fun dq osq => (HDa.out.below (below_regrown W6 dq osq) HLa.out).2.2
  have qb0 : ∀ dq osq, (Sort.grow (redrawn W6 dq) osq).cell? ⟨w1.heap.size, 0, none⟩ = some (.int .i64 (y + 400)) := fun dq osq => (HDb.out.below (below_regrown W6 dq osq) HLb.out).1
  have qb1 : ∀ dq osq, (Sort.grow (redrawn W6 dq) osq).cell? ⟨w1.heap.size, 1, none⟩ = some (.int .i64 m) := fun dq osq => (HDb.out.below (below_regrown W6 dq osq) HLb.out).2.1
  have qb2 : ∀ dq osq, (Sort.grow (redrawn W6 dq) osq).cell? ⟨w1.heap.size, 2, none⟩ = some (.int .i64 d) := fun dq osq => (HDb.out.below (below_regrown W6 dq osq) HLb.out).2.2
  refine wp_region_quiet_below (by kernel_rfl) (by kernel_rfl) ?_
  repeat (first | go_big_quiet_step (first | (go_at_call 15; with_reducible exact Calls.regrown_of (weekday_v (y + 400) m d n2 v _ (HTW.out.grow _ _) HR2q.out H2q.out HW2q.out)) | (go_at_call 15; with_reducible exact Calls.regrown_of (weekday_v y m d n1 v _ (HTW.out.grow _ _) HRq.out H1q.out HW1q.out)) | (go_at_call 13; with_reducible exact same_class (long_at (y + 400) m l _ HL2q.out (HTW.out.grow _ _))) | (go_at_call 13; with_reducible exact same_class (long_at y 2 _ _ HLFq.out (HTW.out.grow _ _))) | (go_at_call 16; with_reducible exact Calls.regrown_of (works_any _ (HTW.out.grow _ _)))) | quiet_step (first | (go_at_call 15; with_reducible exact Calls.regrown_of (weekday_v (y + 400) m d n2 v _ (HTW.out.grow _ _) HR2q.out H2q.out HW2q.out)) | (go_at_call 15; with_reducible exact Calls.regrown_of (weekday_v y m d n1 v _ (HTW.out.grow _ _) HRq.out H1q.out HW1q.out)) | (go_at_call 13; with_reducible exact same_class (long_at (y + 400) m l _ HL2q.out (HTW.out.grow _ _))) | (go_at_call 13; with_reducible exact same_class (long_at y 2 _ _ HLFq.out (HTW.out.grow _ _))) | (go_at_call 16; with_reducible exact Calls.regrown_of (works_any _ (HTW.out.grow _ _)))))
  refine wpQuiet_nil ?_
  intro w7 hV
  have hB := below_class hV
  clear hV qa0 qa1 qa2 qb0 qb1 qb2
  have HB7 := Lib.hid (HB6.out.trans (hB.mono HB6.out.size))
  have HDa := Lib.hid (HDa.out.below hB HLa.out)
  have HLa := Lib.hid (Nat.lt_of_lt_of_le HLa.out hB.size)
  have HDb := Lib.hid (HDb.out.below hB HLb.out)
  have HLb := Lib.hid (Nat.lt_of_lt_of_le HLb.out hB.size)
  clear hB
  obtain ⟨ca0, ca1, ca2⟩ := HDa.out
  have hLa := HLa.out
  obtain ⟨cb0, cb1, cb2⟩ := HDb.out
  have hLb := HLb.out
  go_wp2
  go_ret
  exact ⟨rfl, HB7.out⟩

set_option maxRecDepth 100000 in
set_option maxHeartbeats 4000000 in
theorem round_law_more (y m d n1 n2 a b l v : Int) (hr : Right y m d) (hy : y ≤ 9599) (hr2 : Right (y + 400) m d) (hra : Right y 1 1) (hrb : Right (y + 1) 1 1) (h1 : num y m d = n1) (h2 : num (y + 400) m d = n2) (ha : num y 1 1 = a) (hb : num (y + 1) 1 1 = b) (hl : long y m = l) (hl2 : long (y + 400) m = l) (hl28 : 28 ≤ l) (hl31 : l ≤ 31) (hlf : long y 2 = 29) (hw1 : wday n1 = v) (hw2 : wday n2 = v) (hd : n2 - n1 = 146097) (hab : b - a = 366) (w : World) (ht : Tab w) :
    Calls Tryd.prog 8 #[dv y m d] w fun e w' => e = .returned (.bool true) ∧ Below w.heap.size w w' := by
  have HT := Lib.hid ht
  have hnb1 := num_bd hr
  have hnb2 := num_bd hr2
  have hnba := num_bd hra
  have hnbb := num_bd hrb
  rw [h1] at hnb1
  rw [h2] at hnb2
  rw [ha] at hnba
  rw [hb] at hnbb
  obtain ⟨e1, e2⟩ := hnb1
  obtain ⟨e3, e4⟩ := hnb2
  obtain ⟨e5, e6⟩ := hnba
  obtain ⟨e7, e8⟩ := hnbb
  have hy0 := hr.1
  have HRB := Lib.hid ((right_iff y m d).2 hr)
  have hny : ¬ 9599 < y := by omega
  have HRq := Lib.hid hr
  have HR2q := Lib.hid hr2
  have HRAq := Lib.hid hra
  have HRBq := Lib.hid hrb
  have H1q := Lib.hid h1
  have H2q := Lib.hid h2
  have HAq := Lib.hid ha
  have HBq := Lib.hid hb
  have HLq := Lib.hid hl
  have HL2q := Lib.hid hl2
  have HLFq := Lib.hid hlf
  have HW1q := Lib.hid hw1
  have HW2q := Lib.hid hw2
  have HDq := Lib.hid hd
  have HABq := Lib.hid hab
  clear hr hr2 hra hrb h1 h2 ha hb hl hl2 hlf hw1 hw2 hd hab
  clear ht
  have HB0 := Lib.hid (Below.refl w.heap.size w)
  have HDa := Lib.hid (date_new (y) (m) (d) w 23)
  have HLa := Lib.hid (show w.heap.size < (w.alloc (.cells #[.int .i64 y, .int .i64 m, .int .i64 d] 23)).heap.size by simp)
  have HB0 := Lib.hid (HB0.out.alloc HB0.out.size (.cells #[.int .i64 y, .int .i64 m, .int .i64 d] 23))
  go_enter Tryd.func8, Tryd.ntmps8
  go_wp2_with fail
  refine (right_at y m d true _ (HT.out.of HB0.out) HRB.out).mono ?_
  rintro e w1 ⟨rfl, hB⟩
  have HB1 := Lib.hid (HB0.out.trans (hB.mono HB0.out.size))
  have HDa := Lib.hid (HDa.out.below hB HLa.out)
  have HLa := Lib.hid (Nat.lt_of_lt_of_le HLa.out hB.size)
  clear hB
  obtain ⟨ca0, ca1, ca2⟩ := HDa.out
  have hLa := HLa.out
  have HDa := Lib.hid (HDa.out.below ((Below.refl w1.heap.size _).alloc (Nat.le_refl _) (.cells #[.int .i64 (y + 400), .int .i64 m, .int .i64 d] 23)) HLa.out)
  have HLa := Lib.hid (show w.heap.size < (w1.alloc (.cells #[.int .i64 (y + 400), .int .i64 m, .int .i64 d] 23)).heap.size by have := HLa.out; simp; omega)
  have HDb := Lib.hid (date_new (y + 400) (m) (d) w1 23)
  have HLb := Lib.hid (show w1.heap.size < (w1.alloc (.cells #[.int .i64 (y + 400), .int .i64 m, .int .i64 d] 23)).heap.size by simp)
  have HB1 := Lib.hid (HB1.out.alloc HB1.out.size (.cells #[.int .i64 (y + 400), .int .i64 m, .int .i64 d] 23))
  go_wp2_with fail
  refine (days_at y m d n1 _ (HT.out.of HB1.out) HRq.out H1q.out).mono ?_
  rintro e w2 ⟨rfl, hB⟩
  have HB2 := Lib.hid (HB1.out.trans (hB.mono HB1.out.size))
  clear ca0 ca1 ca2 hLa
  have HDa := Lib.hid (HDa.out.below hB HLa.out)
  have HLa := Lib.hid (Nat.lt_of_lt_of_le HLa.out hB.size)
  have HDb := Lib.hid (HDb.out.below hB HLb.out)
  have HLb := Lib.hid (Nat.lt_of_lt_of_le HLb.out hB.size)
  clear hB
  obtain ⟨ca0, ca1, ca2⟩ := HDa.out
  have hLa := HLa.out
  obtain ⟨cb0, cb1, cb2⟩ := HDb.out
  have hLb := HLb.out
  go_wp2_with fail
  refine (days_at (y + 400) m d n2 _ (HT.out.of HB2.out) HR2q.out H2q.out).mono ?_
  rintro e w3 ⟨rfl, hB⟩
  have HB3 := Lib.hid (HB2.out.trans (hB.mono HB2.out.size))
  clear ca0 ca1 ca2 hLa
  have HDa := Lib.hid (HDa.out.below hB HLa.out)
  have HLa := Lib.hid (Nat.lt_of_lt_of_le HLa.out hB.size)
  clear cb0 cb1 cb2 hLb
  have HDb := Lib.hid (HDb.out.below hB HLb.out)
  have HLb := Lib.hid (Nat.lt_of_lt_of_le HLb.out hB.size)
  clear hB
  obtain ⟨ca0, ca1, ca2⟩ := HDa.out
  have hLa := HLa.out
  obtain ⟨cb0, cb1, cb2⟩ := HDb.out
  have hLb := HLb.out
  go_wp2_with fail
  refine (long_at y m l _ HLq.out (HT.out.of HB3.out)).mono ?_
  rintro e w' ⟨rfl, rfl⟩
  go_wp2_with fail
  refine (days_at y 1 1 a _ (HT.out.of HB3.out) HRAq.out HAq.out).mono ?_
  rintro e w4 ⟨rfl, hB⟩
  have HB4 := Lib.hid (HB3.out.trans (hB.mono HB3.out.size))
  clear ca0 ca1 ca2 hLa
  have HDa := Lib.hid (HDa.out.below hB HLa.out)
  have HLa := Lib.hid (Nat.lt_of_lt_of_le HLa.out hB.size)
  clear cb0 cb1 cb2 hLb
  have HDb := Lib.hid (HDb.out.below hB HLb.out)
  have HLb := Lib.hid (Nat.lt_of_lt_of_le HLb.out hB.size)
  clear hB
  obtain ⟨ca0, ca1, ca2⟩ := HDa.out
  have hLa := HLa.out
  obtain ⟨cb0, cb1, cb2⟩ := HDb.out
  have hLb := HLb.out
  go_wp2_with fail
  refine (days_at (y + 1) 1 1 b _ (HT.out.of HB4.out) HRBq.out HBq.out).mono ?_
  rintro e w5 ⟨rfl, hB⟩
  have HB5 := Lib.hid (HB4.out.trans (hB.mono HB4.out.size))
  clear ca0 ca1 ca2 hLa
  have HDa := Lib.hid (HDa.out.below hB HLa.out)
  have HLa := Lib.hid (Nat.lt_of_lt_of_le HLa.out hB.size)
  clear cb0 cb1 cb2 hLb
  have HDb := Lib.hid (HDb.out.below hB HLb.out)
  have HLb := Lib.hid (Nat.lt_of_lt_of_le HLb.out hB.size)
  clear hB
  obtain ⟨ca0, ca1, ca2⟩ := HDa.out
  have hLa := HLa.out
  obtain ⟨cb0, cb1, cb2⟩ := HDb.out
  have hLb := HLb.out
  go_wp2_with fail
  clear ca0 ca1 ca2 hLa
  clear cb0 cb1 cb2 hLb
  refine wp_world (R := fun W => (DateAt (w.heap.size) (y) (m) (d) (W)) ∧ w.heap.size < W.heap.size ∧ (DateAt (w1.heap.size) (y + 400) (m) (d) (W)) ∧ w1.heap.size < W.heap.size ∧ Below w.heap.size w W) ⟨HDa.out, HLa.out, HDb.out, HLb.out, HB5.out⟩ ?_
  rintro W6 ⟨hda, hla, hdb, hlb, hb⟩
  have HDa := Lib.hid hda
  have HLa := Lib.hid hla
  clear hda hla
  have HDb := Lib.hid hdb
  have HLb := Lib.hid hlb
  clear hdb hlb
  have HB6 := Lib.hid hb
  have HTW := Lib.hid (HT.out.of hb)
  clear hb
  have f1 : (n2 - n1 == 146097) = true := by rw [beq_iff_eq]; exact HDq.out
  have f2 : (b - a == 365) = false := by rw [HABq.out]; rfl
  have f3 : (b - a == 366) = true := by rw [HABq.out]; rfl
  have qa0 : ∀ dq osq, (Sort.grow (redrawn W6 dq) osq).cell? ⟨w.heap.size, 0, none⟩ = some (.int .i64 y) := fun dq osq => (HDa.out.below (below_regrown W6 dq osq) HLa.out).1
  have qa1 : ∀ dq osq, (Sort.grow (redrawn W6 dq) osq).cell? ⟨w.heap.size, 1, none⟩ = some (.int .i64 m) := fun dq osq => (HDa.out.below (below_regrown W6 dq osq) HLa.out).2.1
  have qa2 : ∀ dq osq, (Sort.grow (redrawn W6 dq) osq).cell? ⟨w.heap.size, 2, none⟩ = some (.int .i64 d) := fun dq osq => (HDa.out.below (below_regrown W6 dq osq) HLa.out).2.2
  have qb0 : ∀ dq osq, (Sort.grow (redrawn W6 dq) osq).cell? ⟨w1.heap.size, 0, none⟩ = some (.int .i64 (y + 400)) := fun dq osq => (HDb.out.below (below_regrown W6 dq osq) HLb.out).1
  have qb1 : ∀ dq osq, (Sort.grow (redrawn W6 dq) osq).cell? ⟨w1.heap.size, 1, none⟩ = some (.int .i64 m) := fun dq osq => (HDb.out.below (below_regrown W6 dq osq) HLb.out).2.1
  have qb2 : ∀ dq osq, (Sort.grow (redrawn W6 dq) osq).cell? ⟨w1.heap.size, 2, none⟩ = some (.int .i64 d) := fun dq osq => (HDb.out.below (below_regrown W6 dq osq) HLb.out).2.2
  refine wp_region_quiet_below (by kernel_rfl) (by kernel_rfl) ?_
  repeat (first | go_big_quiet_step (first | (go_at_call 15; with_reducible exact Calls.regrown_of (weekday_v (y + 400) m d n2 v _ (HTW.out.grow _ _) HR2q.out H2q.out HW2q.out)) | (go_at_call 15; with_reducible exact Calls.regrown_of (weekday_v y m d n1 v _ (HTW.out.grow _ _) HRq.out H1q.out HW1q.out)) | (go_at_call 13; with_reducible exact same_class (long_at (y + 400) m l _ HL2q.out (HTW.out.grow _ _))) | (go_at_call 13; with_reducible exact same_class (long_at y 2 _ _ HLFq.out (HTW.out.grow _ _))) | (go_at_call 16; with_reducible exact Calls.regrown_of (works_any _ (HTW.out.grow _ _)))) | quiet_step (first | (go_at_call 15; with_reducible exact Calls.regrown_of (weekday_v (y + 400) m d n2 v _ (HTW.out.grow _ _) HR2q.out H2q.out HW2q.out)) | (go_at_call 15; with_reducible exact Calls.regrown_of (weekday_v y m d n1 v _ (HTW.out.grow _ _) HRq.out H1q.out HW1q.out)) | (go_at_call 13; with_reducible exact same_class (long_at (y + 400) m l _ HL2q.out (HTW.out.grow _ _))) | (go_at_call 13; with_reducible exact same_class (long_at y 2 _ _ HLFq.out (HTW.out.grow _ _))) | (go_at_call 16; with_reducible exact Calls.regrown_of (works_any _ (HTW.out.grow _ _)))))
  refine wpQuiet_nil ?_
  intro w7 hV
  have hB := below_class hV
  clear hV qa0 qa1 qa2 qb0 qb1 qb2
  have HB7 := Lib.hid (HB6.out.trans (hB.mono HB6.out.size))
  have HDa := Lib.hid (HDa.out.below hB HLa.out)
  have HLa := Lib.hid (Nat.lt_of_lt_of_le HLa.out hB.size)
  have HDb := Lib.hid (HDb.out.below hB HLb.out)
  have HLb := Lib.hid (Nat.lt_of_lt_of_le HLb.out hB.size)
  clear hB
  obtain ⟨ca0, ca1, ca2⟩ := HDa.out
  have hLa := HLa.out
  obtain ⟨cb0, cb1, cb2⟩ := HDb.out
  have hLb := HLb.out
  go_wp2
  go_ret
  exact ⟨rfl, HB7.out⟩

theorem civilRound_any (y m d : Int) (w : World) (ht : Tab w) :
    Calls Tryd.prog 8 #[dv y m d] w fun e w' => e = .returned (.bool true) ∧ Below w.heap.size w w' := by
  cases hr : right y m d
  · exact round_law_wrong y m d hr w ht
  · by_cases hy : 9599 < y
    · exact round_law_late y m d hr hy w ht
    · have hR := (right_iff y m d).1 hr
      obtain ⟨h1, h2, h3, h4, h5, h6⟩ := hR
      have hR2 : Right (y + 400) m d := ⟨by omega, by omega, h3, h4, h5, by rw [ml_400]; exact h6⟩
      have hRa : Right y 1 1 := ⟨h1, h2, by omega, by omega, by omega, by simp [ml, mtab]⟩
      have hRb : Right (y + 1) 1 1 := ⟨by omega, by omega, by omega, by omega, by omega, by simp [ml, mtab]⟩
      have hn := num_400 y m d
      have hml := ml_bd y m
      have hw : wday (num (y + 400) m d) = wday (num y m d) := by unfold wday; omega
      have hab : num (y + 1) 1 1 - num y 1 1 = yl y := by
        have a1 := cum_one y
        have a2 := cum_one (y + 1)
        have a3 := dby_succ y
        unfold num; omega
      have hl2 : long (y + 400) m = long y m := by rw [long_in ⟨by omega, by omega, h3, h4⟩, long_in ⟨h1, h2, h3, h4⟩, ml_400]
      have hlf : long y 2 = 28 + lp y := by rw [long_in ⟨h1, h2, by omega, by omega⟩]; rfl
      have hlm : long y m = ml y m := long_in ⟨h1, h2, h3, h4⟩
      unfold yl at hab
      rcases lp_01 y with ⟨e, _⟩ | ⟨e, _⟩
      · exact round_law_more y m d _ _ _ _ (long y m) _ ⟨h1, h2, h3, h4, h5, h6⟩ (by omega) hR2 hRa hRb rfl rfl rfl rfl rfl hl2 (by omega) (by omega) (by omega) rfl hw hn (by omega) w ht
      · exact round_law_plain y m d _ _ _ _ (long y m) _ ⟨h1, h2, h3, h4, h5, h6⟩ (by omega) hR2 hRa hRb rfl rfl rfl rfl rfl hl2 (by omega) (by omega) (by omega) rfl hw hn (by omega) w ht
end Go.Proofs.YtcllimfaoajapabDoor.Cv
