/-
  The walk of the law CivilDays. (Made by tools/gen_civil.py.)
-/
import Derived.Test.YtcllimfaoajapabDoorCvLaw
namespace Go.Proofs.YtcllimfaoajapabDoor.Cv
open Go.RowKit

set_option maxRecDepth 100000 in
set_option maxHeartbeats 2000000 in
theorem days_law_yes (y m d n : Int) (hr : Right y m d) (hn : num y m d = n) (w : World) (ht : Tab w) :
    Calls Tryd.prog 3 #[dv y m d] w fun e w' => e = .returned (.bool true) ∧ Below w.heap.size w w' := by
  have HT := Lib.hid ht
  have HR := Lib.hid hr
  have HN := Lib.hid hn
  have HRB := Lib.hid ((right_iff y m d).2 hr)
  have hnb := num_bd hr
  rw [hn] at hnb
  clear hr hn
  clear ht
  have HB0 := Lib.hid (Below.refl w.heap.size w)
  have HDa := Lib.hid (date_new (y) (m) (d) w 23)
  have HLa := Lib.hid (show w.heap.size < (w.alloc (.cells #[.int .i64 y, .int .i64 m, .int .i64 d] 23)).heap.size by simp)
  have HB0 := Lib.hid (HB0.out.alloc HB0.out.size (.cells #[.int .i64 y, .int .i64 m, .int .i64 d] 23))
  go_enter Tryd.func3, Tryd.ntmps3
  go_wp2_with fail
  refine (plain_any y m d _).mono ?_
  rintro e w1 ⟨rfl, hB⟩
  have HB1 := Lib.hid (HB0.out.trans (hB.mono HB0.out.size))
  have HDa := Lib.hid (HDa.out.below hB HLa.out)
  have HLa := Lib.hid (Nat.lt_of_lt_of_le HLa.out hB.size)
  clear hB
  obtain ⟨ca0, ca1, ca2⟩ := HDa.out
  have hLa := HLa.out
  have HDa := Lib.hid (HDa.out.below ((Below.refl w1.heap.size _).alloc (Nat.le_refl _) (.cells #[.int .i64 y, .int .i64 m, .int .i64 d] 24)) HLa.out)
  have HLa := Lib.hid (show w.heap.size < (w1.alloc (.cells #[.int .i64 y, .int .i64 m, .int .i64 d] 24)).heap.size by have := HLa.out; simp; omega)
  have HDb := Lib.hid (date_new (y) (m) (d) w1 24)
  have HLb := Lib.hid (show w1.heap.size < (w1.alloc (.cells #[.int .i64 y, .int .i64 m, .int .i64 d] 24)).heap.size by simp)
  have HB1 := Lib.hid (HB1.out.alloc HB1.out.size (.cells #[.int .i64 y, .int .i64 m, .int .i64 d] 24))
  go_wp2_with fail
  refine (days_at y m d n _ (HT.out.of HB1.out) HR.out HN.out).mono ?_
  rintro e w2 ⟨rfl, hB⟩
  have HB2 := Lib.hid (HB1.out.trans (hB.mono HB1.out.size))
  clear ca0 ca1 ca2 hLa
  have HDa := Lib.hid (HDa.out.below hB HLa.out)
  have HLa := Lib.hid (Nat.lt_of_lt_of_le HLa.out hB.size)
  have HDb := Lib.hid (HDb.out.below hB HLb.out)
  have HLb := Lib.hid (Nat.lt_of_lt_of_le HLb.out hB.size)
  clear hB
  obtain ⟨ca0, ca1, ca2⟩ := HDa.out
  have hLa := HLa.out
  obtain ⟨cb0, cb1, cb2⟩ := HDb.out
  have hLb := HLb.out
  go_wp2_with fail
  clear ca0 ca1 ca2 hLa
  clear cb0 cb1 cb2 hLb
  refine wp_world (R := fun W => (DateAt (w.heap.size) (y) (m) (d) (W)) ∧ w.heap.size < W.heap.size ∧ (DateAt (w1.heap.size) (y) (m) (d) (W)) ∧ w1.heap.size < W.heap.size ∧ Below w.heap.size w W) ⟨HDa.out, HLa.out, HDb.out, HLb.out, HB2.out⟩ ?_
  rintro W3 ⟨hda, hla, hdb, hlb, hb⟩
  have HDa := Lib.hid hda
  have HLa := Lib.hid hla
  clear hda hla
  have HDb := Lib.hid hdb
  have HLb := Lib.hid hlb
  clear hdb hlb
  have HB3 := Lib.hid hb
  have HTW := Lib.hid (HT.out.of hb)
  clear hb
  have KEEP := Lib.hid (show ∀ u, Below W3.heap.size W3 u → (u.cell? ⟨w.heap.size, 0, none⟩ = some (.int .i64 y) ∧ u.cell? ⟨w.heap.size, 1, none⟩ = some (.int .i64 m) ∧ u.cell? ⟨w.heap.size, 2, none⟩ = some (.int .i64 d) ∧ u.cell? ⟨w1.heap.size, 0, none⟩ = some (.int .i64 y) ∧ u.cell? ⟨w1.heap.size, 1, none⟩ = some (.int .i64 m) ∧ u.cell? ⟨w1.heap.size, 2, none⟩ = some (.int .i64 d) ∧ Below W3.heap.size W3 u) from fun u hb => by
    obtain ⟨ca0, ca1, ca2⟩ := HDa.out.below hb HLa.out
    obtain ⟨cb0, cb1, cb2⟩ := HDb.out.below hb HLb.out
    exact ⟨ca0, ca1, ca2, cb0, cb1, cb2, hb⟩)
  go_region_held3 (fun u => u.cell? ⟨w.heap.size, 0, none⟩ = some (.int .i64 y) ∧ u.cell? ⟨w.heap.size, 1, none⟩ = some (.int .i64 m) ∧ u.cell? ⟨w.heap.size, 2, none⟩ = some (.int .i64 d) ∧ u.cell? ⟨w1.heap.size, 0, none⟩ = some (.int .i64 y) ∧ u.cell? ⟨w1.heap.size, 1, none⟩ = some (.int .i64 m) ∧ u.cell? ⟨w1.heap.size, 2, none⟩ = some (.int .i64 d) ∧ Below W3.heap.size W3 u)
    (first | exact KEEP.out _ (by assumption) | exact KEEP.out _ (Below.refl _ _).drew)
    (first
      | (go_at_call 11; (with_reducible refine (right_k (W := W3) (by first | assumption | exact (Below.refl _ _).drew) y m d true HTW.out HRB.out).mono ?_); rintro e w' ⟨rfl, hk⟩)
      | (go_at_call 12; (with_reducible refine (rright_k (W := W3) (by first | assumption | exact (Below.refl _ _).drew) y m d true HRB.out).mono ?_); rintro e w' ⟨rfl, hk⟩)
      | (go_at_call 13; (with_reducible refine (long_k (W := W3) (by first | assumption | exact (Below.refl _ _).drew) y m HTW.out).mono ?_); rintro e w' ⟨rfl, hk⟩)
      | (go_at_call 14; (with_reducible refine (rlong_k W3 _ y m (by first | assumption | exact (Below.refl _ _).drew)).mono ?_); rintro e w' ⟨rfl, hk⟩))
  go_wp2_with fail
  refine (rright_k (W := W3) (by assumption) y m d true HRB.out).mono ?_
  rintro e w4 ⟨rfl, hB⟩
  have HB4 := Lib.hid (HB3.out.trans (hB.mono HB3.out.size))
  have HDa := Lib.hid (HDa.out.below hB HLa.out)
  have HLa := Lib.hid (Nat.lt_of_lt_of_le HLa.out hB.size)
  have HDb := Lib.hid (HDb.out.below hB HLb.out)
  have HLb := Lib.hid (Nat.lt_of_lt_of_le HLb.out hB.size)
  clear hB
  obtain ⟨ca0, ca1, ca2⟩ := HDa.out
  have hLa := HLa.out
  obtain ⟨cb0, cb1, cb2⟩ := HDb.out
  have hLb := HLb.out
  go_wp2_with fail
  refine (rdays_at y m d n _ HR.out HN.out).mono ?_
  rintro e w5 ⟨rfl, hB⟩
  have HB5 := Lib.hid (HB4.out.trans (hB.mono HB4.out.size))
  clear ca0 ca1 ca2 hLa
  have HDa := Lib.hid (HDa.out.below hB HLa.out)
  have HLa := Lib.hid (Nat.lt_of_lt_of_le HLa.out hB.size)
  clear cb0 cb1 cb2 hLb
  have HDb := Lib.hid (HDb.out.below hB HLb.out)
  have HLb := Lib.hid (Nat.lt_of_lt_of_le HLb.out hB.size)
  clear hB
  obtain ⟨ca0, ca1, ca2⟩ := HDa.out
  have hLa := HLa.out
  obtain ⟨cb0, cb1, cb2⟩ := HDb.out
  have hLb := HLb.out
  go_wp2_with fail
  refine (weekday_at y m d n _ (HT.out.of HB5.out) HR.out HN.out).mono ?_
  rintro e w6 ⟨rfl, hB⟩
  have HB6 := Lib.hid (HB5.out.trans (hB.mono HB5.out.size))
  clear ca0 ca1 ca2 hLa
  have HDa := Lib.hid (HDa.out.below hB HLa.out)
  have HLa := Lib.hid (Nat.lt_of_lt_of_le HLa.out hB.size)
  clear cb0 cb1 cb2 hLb
  have HDb := Lib.hid (HDb.out.below hB HLb.out)
  have HLb := Lib.hid (Nat.lt_of_lt_of_le HLb.out hB.size)
  clear hB
  obtain ⟨ca0, ca1, ca2⟩ := HDa.out
  have hLa := HLa.out
  obtain ⟨cb0, cb1, cb2⟩ := HDb.out
  have hLb := HLb.out
  go_wp2_with fail
  refine (rwday n _ hnb).mono ?_
  rintro e w' ⟨rfl, rfl⟩
  go_wp2_with fail
  refine (works_any _ (HT.out.of HB6.out)).mono ?_
  rintro e w7 ⟨rfl, hB⟩
  have HB7 := Lib.hid (HB6.out.trans (hB.mono HB6.out.size))
  clear ca0 ca1 ca2 hLa
  have HDa := Lib.hid (HDa.out.below hB HLa.out)
  have HLa := Lib.hid (Nat.lt_of_lt_of_le HLa.out hB.size)
  clear cb0 cb1 cb2 hLb
  have HDb := Lib.hid (HDb.out.below hB HLb.out)
  have HLb := Lib.hid (Nat.lt_of_lt_of_le HLb.out hB.size)
  clear hB
  obtain ⟨ca0, ca1, ca2⟩ := HDa.out
  have hLa := HLa.out
  obtain ⟨cb0, cb1, cb2⟩ := HDb.out
  have hLb := HLb.out
  go_wp2
  go_ret
  exact ⟨rfl, HB7.out⟩

set_option maxRecDepth 100000 in
set_option maxHeartbeats 2000000 in
theorem days_law_no (y m d : Int) (hr : right y m d = false) (w : World) (ht : Tab w) :
    Calls Tryd.prog 3 #[dv y m d] w fun e w' => e = .returned (.bool true) ∧ Below w.heap.size w w' := by
  have HT := Lib.hid ht
  have HR := Lib.hid hr
  clear hr
  clear ht
  have HB0 := Lib.hid (Below.refl w.heap.size w)
  have HDa := Lib.hid (date_new (y) (m) (d) w 23)
  have HLa := Lib.hid (show w.heap.size < (w.alloc (.cells #[.int .i64 y, .int .i64 m, .int .i64 d] 23)).heap.size by simp)
  have HB0 := Lib.hid (HB0.out.alloc HB0.out.size (.cells #[.int .i64 y, .int .i64 m, .int .i64 d] 23))
  go_enter Tryd.func3, Tryd.ntmps3
  go_wp2_with fail
  refine (plain_any y m d _).mono ?_
  rintro e w1 ⟨rfl, hB⟩
  have HB1 := Lib.hid (HB0.out.trans (hB.mono HB0.out.size))
  have HDa := Lib.hid (HDa.out.below hB HLa.out)
  have HLa := Lib.hid (Nat.lt_of_lt_of_le HLa.out hB.size)
  clear hB
  obtain ⟨ca0, ca1, ca2⟩ := HDa.out
  have hLa := HLa.out
  have HDa := Lib.hid (HDa.out.below ((Below.refl w1.heap.size _).alloc (Nat.le_refl _) (.cells #[.int .i64 y, .int .i64 m, .int .i64 d] 24)) HLa.out)
  have HLa := Lib.hid (show w.heap.size < (w1.alloc (.cells #[.int .i64 y, .int .i64 m, .int .i64 d] 24)).heap.size by have := HLa.out; simp; omega)
  have HDb := Lib.hid (date_new (y) (m) (d) w1 24)
  have HLb := Lib.hid (show w1.heap.size < (w1.alloc (.cells #[.int .i64 y, .int .i64 m, .int .i64 d] 24)).heap.size by simp)
  have HB1 := Lib.hid (HB1.out.alloc HB1.out.size (.cells #[.int .i64 y, .int .i64 m, .int .i64 d] 24))
  go_wp2_with fail
  refine (days_no y m d _ (HT.out.of HB1.out) HR.out).mono ?_
  rintro e w2 ⟨rfl, hB⟩
  have HB2 := Lib.hid (HB1.out.trans (hB.mono HB1.out.size))
  clear ca0 ca1 ca2 hLa
  have HDa := Lib.hid (HDa.out.below hB HLa.out)
  have HLa := Lib.hid (Nat.lt_of_lt_of_le HLa.out hB.size)
  have HDb := Lib.hid (HDb.out.below hB HLb.out)
  have HLb := Lib.hid (Nat.lt_of_lt_of_le HLb.out hB.size)
  clear hB
  obtain ⟨ca0, ca1, ca2⟩ := HDa.out
  have hLa := HLa.out
  obtain ⟨cb0, cb1, cb2⟩ := HDb.out
  have hLb := HLb.out
  go_wp2_with fail
  clear ca0 ca1 ca2 hLa
  clear cb0 cb1 cb2 hLb
  refine wp_world (R := fun W => (DateAt (w.heap.size) (y) (m) (d) (W)) ∧ w.heap.size < W.heap.size ∧ (DateAt (w1.heap.size) (y) (m) (d) (W)) ∧ w1.heap.size < W.heap.size ∧ Below w.heap.size w W) ⟨HDa.out, HLa.out, HDb.out, HLb.out, HB2.out⟩ ?_
  rintro W3 ⟨hda, hla, hdb, hlb, hb⟩
  have HDa := Lib.hid hda
  have HLa := Lib.hid hla
  clear hda hla
  have HDb := Lib.hid hdb
  have HLb := Lib.hid hlb
  clear hdb hlb
  have HB3 := Lib.hid hb
  have HTW := Lib.hid (HT.out.of hb)
  clear hb
  have KEEP := Lib.hid (show ∀ u, Below W3.heap.size W3 u → (u.cell? ⟨w.heap.size, 0, none⟩ = some (.int .i64 y) ∧ u.cell? ⟨w.heap.size, 1, none⟩ = some (.int .i64 m) ∧ u.cell? ⟨w.heap.size, 2, none⟩ = some (.int .i64 d) ∧ u.cell? ⟨w1.heap.size, 0, none⟩ = some (.int .i64 y) ∧ u.cell? ⟨w1.heap.size, 1, none⟩ = some (.int .i64 m) ∧ u.cell? ⟨w1.heap.size, 2, none⟩ = some (.int .i64 d) ∧ Below W3.heap.size W3 u) from fun u hb => by
    obtain ⟨ca0, ca1, ca2⟩ := HDa.out.below hb HLa.out
    obtain ⟨cb0, cb1, cb2⟩ := HDb.out.below hb HLb.out
    exact ⟨ca0, ca1, ca2, cb0, cb1, cb2, hb⟩)
  go_region_held3 (fun u => u.cell? ⟨w.heap.size, 0, none⟩ = some (.int .i64 y) ∧ u.cell? ⟨w.heap.size, 1, none⟩ = some (.int .i64 m) ∧ u.cell? ⟨w.heap.size, 2, none⟩ = some (.int .i64 d) ∧ u.cell? ⟨w1.heap.size, 0, none⟩ = some (.int .i64 y) ∧ u.cell? ⟨w1.heap.size, 1, none⟩ = some (.int .i64 m) ∧ u.cell? ⟨w1.heap.size, 2, none⟩ = some (.int .i64 d) ∧ Below W3.heap.size W3 u)
    (first | exact KEEP.out _ (by assumption) | exact KEEP.out _ (Below.refl _ _).drew)
    (first
      | (go_at_call 11; (with_reducible refine (right_k (W := W3) (by first | assumption | exact (Below.refl _ _).drew) y m d false HTW.out HR.out).mono ?_); rintro e w' ⟨rfl, hk⟩)
      | (go_at_call 12; (with_reducible refine (rright_k (W := W3) (by first | assumption | exact (Below.refl _ _).drew) y m d false HR.out).mono ?_); rintro e w' ⟨rfl, hk⟩)
      | (go_at_call 13; (with_reducible refine (long_k (W := W3) (by first | assumption | exact (Below.refl _ _).drew) y m HTW.out).mono ?_); rintro e w' ⟨rfl, hk⟩)
      | (go_at_call 14; (with_reducible refine (rlong_k W3 _ y m (by first | assumption | exact (Below.refl _ _).drew)).mono ?_); rintro e w' ⟨rfl, hk⟩))
  go_wp2_with fail
  refine (rright_k (W := W3) (by assumption) y m d false HR.out).mono ?_
  rintro e w4 ⟨rfl, hB⟩
  have HB4 := Lib.hid (HB3.out.trans (hB.mono HB3.out.size))
  have HDa := Lib.hid (HDa.out.below hB HLa.out)
  have HLa := Lib.hid (Nat.lt_of_lt_of_le HLa.out hB.size)
  have HDb := Lib.hid (HDb.out.below hB HLb.out)
  have HLb := Lib.hid (Nat.lt_of_lt_of_le HLb.out hB.size)
  clear hB
  obtain ⟨ca0, ca1, ca2⟩ := HDa.out
  have hLa := HLa.out
  obtain ⟨cb0, cb1, cb2⟩ := HDb.out
  have hLb := HLb.out
  go_wp2_with fail
  refine (weekday_no y m d _ (HT.out.of HB4.out) HR.out).mono ?_
  rintro e w5 ⟨rfl, hB⟩
  have HB5 := Lib.hid (HB4.out.trans (hB.mono HB4.out.size))
  clear ca0 ca1 ca2 hLa
  have HDa := Lib.hid (HDa.out.below hB HLa.out)
  have HLa := Lib.hid (Nat.lt_of_lt_of_le HLa.out hB.size)
  clear cb0 cb1 cb2 hLb
  have HDb := Lib.hid (HDb.out.below hB HLb.out)
  have HLb := Lib.hid (Nat.lt_of_lt_of_le HLb.out hB.size)
  clear hB
  obtain ⟨ca0, ca1, ca2⟩ := HDa.out
  have hLa := HLa.out
  obtain ⟨cb0, cb1, cb2⟩ := HDb.out
  have hLb := HLb.out
  go_wp2_with fail
  refine (works_any _ (HT.out.of HB5.out)).mono ?_
  rintro e w6 ⟨rfl, hB⟩
  have HB6 := Lib.hid (HB5.out.trans (hB.mono HB5.out.size))
  clear ca0 ca1 ca2 hLa
  have HDa := Lib.hid (HDa.out.below hB HLa.out)
  have HLa := Lib.hid (Nat.lt_of_lt_of_le HLa.out hB.size)
  clear cb0 cb1 cb2 hLb
  have HDb := Lib.hid (HDb.out.below hB HLb.out)
  have HLb := Lib.hid (Nat.lt_of_lt_of_le HLb.out hB.size)
  clear hB
  obtain ⟨ca0, ca1, ca2⟩ := HDa.out
  have hLa := HLa.out
  obtain ⟨cb0, cb1, cb2⟩ := HDb.out
  have hLb := HLb.out
  go_wp2
  go_ret
  exact ⟨rfl, HB6.out⟩

theorem civilDays_any (y m d : Int) (w : World) (ht : Tab w) :
    Calls Tryd.prog 3 #[dv y m d] w fun e w' => e = .returned (.bool true) ∧ Below w.heap.size w w' := by
  cases h : right y m d
  · exact days_law_no y m d h w ht
  · exact days_law_yes y m d _ ((right_iff y m d).1 h) rfl w ht
end Go.Proofs.YtcllimfaoajapabDoor.Cv
