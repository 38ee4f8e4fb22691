/-
  The walk of the law CivilOf, where there is a next day. (Made by tools/gen_civil.py.)
-/
import Derived.Test.YtcllimfaoajapabDoorCivilOfWalk
import Derived.Deep.RegionHeld3
import Derived.IntWalk
import Derived.BigQuiet
namespace Go.Proofs.YtcllimfaoajapabDoor.Cv
open Go.RowKit

set_option maxRecDepth 100000 in
set_option maxHeartbeats 4000000 in
theorem of_law_a (y m d n : Int) (hr : Right (y) (m) (d)) (hn : num (y) (m) (d) = n) (hr2 : Right (y) (m) (d + 1)) (hn2 : num (y) (m) (d + 1) = n + 1) (h0 : -719162 ≤ n) (h1 : n ≤ 2932896) (hl : (n == 2932896) = false) (w : World) (ht : Tab w) :
    Calls Tryd.prog 4 #[.int .i64 n] w fun e w' => e = .returned (.bool true) ∧ Below w.heap.size w w' := by
  have HT := Lib.hid ht
  have hnl : ¬ n < -719162 := by omega
  have hnh : ¬ 2932896 < n := by omega
  have hwb := wday_bd n
  have hwn := wday_next n
  have hyb := hr.1
  have hyb2 := hr.2.1
  have hdb := hr.2.2.2.2
  have hmb := hr.2.2.1
  have hmb2 := hr.2.2.2.1
  have hmlb := ml_bd y (m)
  have HR := Lib.hid hr
  have HN := Lib.hid hn
  have HR2 := Lib.hid hr2
  have HN2 := Lib.hid hn2
  have HRB := Lib.hid ((right_iff _ _ _).2 hr)
  clear hr hn hr2 hn2
  obtain ⟨k, hk⟩ : ∃ k, wday n = k := ⟨_, rfl⟩
  obtain ⟨k2, hk2⟩ : ∃ k, wday (n + 1) = k := ⟨_, rfl⟩
  obtain ⟨t, htt⟩ : ∃ t, t = k % 7 := ⟨_, rfl⟩
  rw [hk] at hwb hwn
  rw [hk2] at hwn
  have HW1 := Lib.hid hk
  have HW2 := Lib.hid hk2
  have HK := Lib.hid htt
  have HK2 := Lib.hid (show k2 = t + 1 by omega)
  have htb : 0 ≤ t ∧ t ≤ 6 := by omega
  clear hk hk2 htt hwn
  generalize ml y m = q at *
  clear ht
  have HB0 := Lib.hid (Below.refl w.heap.size w)
  go_enter Tryd.func4, Tryd.ntmps4
  go_wp2_with fail
  refine (of_yes (y) (m) (d) _ _ HT.out HR.out HN.out).mono ?_
  rintro e w1 ⟨rfl, hB⟩
  have HB1 := Lib.hid (HB0.out.trans (hB.mono HB0.out.size))
  clear hB
  have HDa := Lib.hid (date_new (y) (m) (d) w1 23)
  have HLa := Lib.hid (show w1.heap.size < (w1.alloc (.cells #[.int .i64 y, .int .i64 m, .int .i64 d] 23)).heap.size by simp)
  have HB1 := Lib.hid (HB1.out.alloc HB1.out.size (.cells #[.int .i64 y, .int .i64 m, .int .i64 d] 23))
  go_wp2_with fail
  refine (days_at (y) (m) (d) _ _ (HT.out.of HB1.out) HR.out HN.out).mono ?_
  rintro e w2 ⟨rfl, hB⟩
  have HB2 := Lib.hid (HB1.out.trans (hB.mono HB1.out.size))
  have HDa := Lib.hid (HDa.out.below hB HLa.out)
  have HLa := Lib.hid (Nat.lt_of_lt_of_le HLa.out hB.size)
  clear hB
  obtain ⟨ca0, ca1, ca2⟩ := HDa.out
  have hLa := HLa.out
  go_wp2_with fail
  refine (plain_any _ _ _ _).mono ?_
  rintro e w3 ⟨rfl, hB⟩
  have HB3 := Lib.hid (HB2.out.trans (hB.mono HB2.out.size))
  clear ca0 ca1 ca2 hLa
  have HDa := Lib.hid (HDa.out.below hB HLa.out)
  have HLa := Lib.hid (Nat.lt_of_lt_of_le HLa.out hB.size)
  clear hB
  obtain ⟨ca0, ca1, ca2⟩ := HDa.out
  have hLa := HLa.out
  go_wp2_with fail
  refine (rof_at (y) (m) (d) _ _ HR.out HN.out).mono ?_
  rintro e w4 ⟨rfl, hB⟩
  have HB4 := Lib.hid (HB3.out.trans (hB.mono HB3.out.size))
  clear ca0 ca1 ca2 hLa
  have HDa := Lib.hid (HDa.out.below hB HLa.out)
  have HLa := Lib.hid (Nat.lt_of_lt_of_le HLa.out hB.size)
  clear hB
  obtain ⟨ca0, ca1, ca2⟩ := HDa.out
  have hLa := HLa.out
  go_wp2_with fail
  refine (right_at _ _ _ true _ (HT.out.of HB4.out) HRB.out).mono ?_
  rintro e w5 ⟨rfl, hB⟩
  have HB5 := Lib.hid (HB4.out.trans (hB.mono HB4.out.size))
  clear ca0 ca1 ca2 hLa
  have HDa := Lib.hid (HDa.out.below hB HLa.out)
  have HLa := Lib.hid (Nat.lt_of_lt_of_le HLa.out hB.size)
  clear hB
  obtain ⟨ca0, ca1, ca2⟩ := HDa.out
  have hLa := HLa.out
  go_wp2_with fail
  refine (of_yes (y) (m) (d + 1) _ _ (HT.out.of HB5.out) HR2.out HN2.out).mono ?_
  rintro e w6 ⟨rfl, hB⟩
  have HB6 := Lib.hid (HB5.out.trans (hB.mono HB5.out.size))
  clear ca0 ca1 ca2 hLa
  have HDa := Lib.hid (HDa.out.below hB HLa.out)
  have HLa := Lib.hid (Nat.lt_of_lt_of_le HLa.out hB.size)
  clear hB
  obtain ⟨ca0, ca1, ca2⟩ := HDa.out
  have hLa := HLa.out
  have HDa := Lib.hid (HDa.out.below ((Below.refl w6.heap.size _).alloc (Nat.le_refl _) (.cells #[.int .i64 y, .int .i64 m, .int .i64 (d + 1)] 23)) HLa.out)
  have HLa := Lib.hid (show w1.heap.size < (w6.alloc (.cells #[.int .i64 y, .int .i64 m, .int .i64 (d + 1)] 23)).heap.size by have := HLa.out; simp; omega)
  have HDb := Lib.hid (date_new (y) (m) (d + 1) w6 23)
  have HLb := Lib.hid (show w6.heap.size < (w6.alloc (.cells #[.int .i64 y, .int .i64 m, .int .i64 (d + 1)] 23)).heap.size by simp)
  have HB6 := Lib.hid (HB6.out.alloc HB6.out.size (.cells #[.int .i64 y, .int .i64 m, .int .i64 (d + 1)] 23))
  go_wp2_with fail
  clear ca0 ca1 ca2 hLa
  refine wp_world (R := fun W => (DateAt (w1.heap.size) (y) (m) (d) (W)) ∧ w1.heap.size < W.heap.size ∧ (DateAt (w6.heap.size) (y) (m) (d + 1) (W)) ∧ w6.heap.size < W.heap.size ∧ Below w.heap.size w W) ⟨HDa.out, HLa.out, HDb.out, HLb.out, HB6.out⟩ ?_
  rintro W7 ⟨hda, hla, hdb, hlb, hb⟩
  have HDa := Lib.hid hda
  have HLa := Lib.hid hla
  clear hda hla
  have HDb := Lib.hid hdb
  have HLb := Lib.hid hlb
  clear hdb hlb
  have HB7 := Lib.hid hb
  have HTW := Lib.hid (HT.out.of hb)
  clear hb
  simp only [List.append_eq, List.cons_append, List.nil_append]
  have sm0 : IntKind.i64.wrap (d + 1) = d + 1 := IntWalk.i64_in _ (by omega)
  have sm1 : IntKind.i64.wrap (m + 1) = m + 1 := IntWalk.i64_in _ (by omega)
  have sm2 : IntKind.i64.wrap (y + 1) = y + 1 := IntWalk.i64_in _ (by omega)
  have sk0 : Int.tmod k 7 = t := by rw [HK.out]; exact Int.tmod_eq_emod_of_nonneg (by omega)
  have sk1 : IntKind.i64.wrap (t + 1) = k2 := by rw [HK2.out]; exact IntWalk.i64_in _ (by omega)
  have qa0 : ∀ dq osq, (Sort.grow (redrawn W7 dq) osq).cell? ⟨w1.heap.size, 0, none⟩ = some (.int .i64 y) := fun dq osq => (HDa.out.below (below_regrown W7 dq osq) HLa.out).1
  have qa1 : ∀ dq osq, (Sort.grow (redrawn W7 dq) osq).cell? ⟨w1.heap.size, 1, none⟩ = some (.int .i64 m) := fun dq osq => (HDa.out.below (below_regrown W7 dq osq) HLa.out).2.1
  have qa2 : ∀ dq osq, (Sort.grow (redrawn W7 dq) osq).cell? ⟨w1.heap.size, 2, none⟩ = some (.int .i64 d) := fun dq osq => (HDa.out.below (below_regrown W7 dq osq) HLa.out).2.2
  have qb0 : ∀ dq osq, (Sort.grow (redrawn W7 dq) osq).cell? ⟨w6.heap.size, 0, none⟩ = some (.int .i64 y) := fun dq osq => (HDb.out.below (below_regrown W7 dq osq) HLb.out).1
  have qb1 : ∀ dq osq, (Sort.grow (redrawn W7 dq) osq).cell? ⟨w6.heap.size, 1, none⟩ = some (.int .i64 m) := fun dq osq => (HDb.out.below (below_regrown W7 dq osq) HLb.out).2.1
  have qb2 : ∀ dq osq, (Sort.grow (redrawn W7 dq) osq).cell? ⟨w6.heap.size, 2, none⟩ = some (.int .i64 (d + 1)) := fun dq osq => (HDb.out.below (below_regrown W7 dq osq) HLb.out).2.2
  refine wp_region_quiet_below (by kernel_rfl) (by kernel_rfl) ?_
  repeat (first | go_big_quiet_step (first | (go_at_call 15; with_reducible exact Calls.regrown_of (weekday_v (y) (m) (d + 1) (n + 1) k2 _ (HTW.out.grow _ _) HR2.out HN2.out HW2.out)) | (go_at_call 15; with_reducible exact Calls.regrown_of (weekday_v (y) (m) (d) n k _ (HTW.out.grow _ _) HR.out HN.out HW1.out)) | (go_at_call 16; with_reducible exact Calls.regrown_of (works_any _ (HTW.out.grow _ _)))) | quiet_step (first | (go_at_call 15; with_reducible exact Calls.regrown_of (weekday_v (y) (m) (d + 1) (n + 1) k2 _ (HTW.out.grow _ _) HR2.out HN2.out HW2.out)) | (go_at_call 15; with_reducible exact Calls.regrown_of (weekday_v (y) (m) (d) n k _ (HTW.out.grow _ _) HR.out HN.out HW1.out)) | (go_at_call 16; with_reducible exact Calls.regrown_of (works_any _ (HTW.out.grow _ _)))))
  refine wpQuiet_nil ?_
  intro w8 hV
  have hB := below_class hV
  clear hV qa0 qa1 qa2 qb0 qb1 qb2
  have HB8 := Lib.hid (HB7.out.trans (hB.mono HB7.out.size))
  have HDa := Lib.hid (HDa.out.below hB HLa.out)
  have HLa := Lib.hid (Nat.lt_of_lt_of_le HLa.out hB.size)
  have HDb := Lib.hid (HDb.out.below hB HLb.out)
  have HLb := Lib.hid (Nat.lt_of_lt_of_le HLb.out hB.size)
  clear hB
  obtain ⟨ca0, ca1, ca2⟩ := HDa.out
  have hLa := HLa.out
  obtain ⟨cb0, cb1, cb2⟩ := HDb.out
  have hLb := HLb.out
  go_wp2
  go_ret
  exact ⟨rfl, HB8.out⟩

set_option maxRecDepth 100000 in
set_option maxHeartbeats 4000000 in
theorem of_law_b (y m n : Int) (hr : Right (y) (m) (ml y m)) (hn : num (y) (m) (ml y m) = n) (hr2 : Right (y) (m + 1) (1)) (hn2 : num (y) (m + 1) (1) = n + 1) (h0 : -719162 ≤ n) (h1 : n ≤ 2932896) (hl : (n == 2932896) = false) (w : World) (ht : Tab w) :
    Calls Tryd.prog 4 #[.int .i64 n] w fun e w' => e = .returned (.bool true) ∧ Below w.heap.size w w' := by
  have HT := Lib.hid ht
  have hnl : ¬ n < -719162 := by omega
  have hnh : ¬ 2932896 < n := by omega
  have hwb := wday_bd n
  have hwn := wday_next n
  have hyb := hr.1
  have hyb2 := hr.2.1
  have hdb := hr.2.2.2.2
  have hmb := hr.2.2.1
  have hmb2 := hr.2.2.2.1
  have hmlb := ml_bd y (m)
  have hne : ((1 : Int) == ml y m + 1) = false := by rw [beq_eq_false_iff_ne]; omega
  have HLG := Lib.hid (long_in (y := y) (m := m) ⟨hr.1, hr.2.1, hr.2.2.1, hr.2.2.2.1⟩)
  have HR := Lib.hid hr
  have HN := Lib.hid hn
  have HR2 := Lib.hid hr2
  have HN2 := Lib.hid hn2
  have HRB := Lib.hid ((right_iff _ _ _).2 hr)
  clear hr hn hr2 hn2
  obtain ⟨k, hk⟩ : ∃ k, wday n = k := ⟨_, rfl⟩
  obtain ⟨k2, hk2⟩ : ∃ k, wday (n + 1) = k := ⟨_, rfl⟩
  obtain ⟨t, htt⟩ : ∃ t, t = k % 7 := ⟨_, rfl⟩
  rw [hk] at hwb hwn
  rw [hk2] at hwn
  have HW1 := Lib.hid hk
  have HW2 := Lib.hid hk2
  have HK := Lib.hid htt
  have HK2 := Lib.hid (show k2 = t + 1 by omega)
  have htb : 0 ≤ t ∧ t ≤ 6 := by omega
  clear hk hk2 htt hwn
  generalize hq : ml y m = q at *
  clear hq
  clear ht
  have HB0 := Lib.hid (Below.refl w.heap.size w)
  go_enter Tryd.func4, Tryd.ntmps4
  go_wp2_with fail
  refine (of_yes (y) (m) (q) _ _ HT.out HR.out HN.out).mono ?_
  rintro e w1 ⟨rfl, hB⟩
  have HB1 := Lib.hid (HB0.out.trans (hB.mono HB0.out.size))
  clear hB
  have HDa := Lib.hid (date_new (y) (m) (q) w1 23)
  have HLa := Lib.hid (show w1.heap.size < (w1.alloc (.cells #[.int .i64 y, .int .i64 m, .int .i64 q] 23)).heap.size by simp)
  have HB1 := Lib.hid (HB1.out.alloc HB1.out.size (.cells #[.int .i64 y, .int .i64 m, .int .i64 q] 23))
  go_wp2_with fail
  refine (days_at (y) (m) (q) _ _ (HT.out.of HB1.out) HR.out HN.out).mono ?_
  rintro e w2 ⟨rfl, hB⟩
  have HB2 := Lib.hid (HB1.out.trans (hB.mono HB1.out.size))
  have HDa := Lib.hid (HDa.out.below hB HLa.out)
  have HLa := Lib.hid (Nat.lt_of_lt_of_le HLa.out hB.size)
  clear hB
  obtain ⟨ca0, ca1, ca2⟩ := HDa.out
  have hLa := HLa.out
  go_wp2_with fail
  refine (plain_any _ _ _ _).mono ?_
  rintro e w3 ⟨rfl, hB⟩
  have HB3 := Lib.hid (HB2.out.trans (hB.mono HB2.out.size))
  clear ca0 ca1 ca2 hLa
  have HDa := Lib.hid (HDa.out.below hB HLa.out)
  have HLa := Lib.hid (Nat.lt_of_lt_of_le HLa.out hB.size)
  clear hB
  obtain ⟨ca0, ca1, ca2⟩ := HDa.out
  have hLa := HLa.out
  go_wp2_with fail
  refine (rof_at (y) (m) (q) _ _ HR.out HN.out).mono ?_
  rintro e w4 ⟨rfl, hB⟩
  have HB4 := Lib.hid (HB3.out.trans (hB.mono HB3.out.size))
  clear ca0 ca1 ca2 hLa
  have HDa := Lib.hid (HDa.out.below hB HLa.out)
  have HLa := Lib.hid (Nat.lt_of_lt_of_le HLa.out hB.size)
  clear hB
  obtain ⟨ca0, ca1, ca2⟩ := HDa.out
  have hLa := HLa.out
  go_wp2_with fail
  refine (right_at _ _ _ true _ (HT.out.of HB4.out) HRB.out).mono ?_
  rintro e w5 ⟨rfl, hB⟩
  have HB5 := Lib.hid (HB4.out.trans (hB.mono HB4.out.size))
  clear ca0 ca1 ca2 hLa
  have HDa := Lib.hid (HDa.out.below hB HLa.out)
  have HLa := Lib.hid (Nat.lt_of_lt_of_le HLa.out hB.size)
  clear hB
  obtain ⟨ca0, ca1, ca2⟩ := HDa.out
  have hLa := HLa.out
  go_wp2_with fail
  refine (of_yes (y) (m + 1) (1) _ _ (HT.out.of HB5.out) HR2.out HN2.out).mono ?_
  rintro e w6 ⟨rfl, hB⟩
  have HB6 := Lib.hid (HB5.out.trans (hB.mono HB5.out.size))
  clear ca0 ca1 ca2 hLa
  have HDa := Lib.hid (HDa.out.below hB HLa.out)
  have HLa := Lib.hid (Nat.lt_of_lt_of_le HLa.out hB.size)
  clear hB
  obtain ⟨ca0, ca1, ca2⟩ := HDa.out
  have hLa := HLa.out
  have HDa := Lib.hid (HDa.out.below ((Below.refl w6.heap.size _).alloc (Nat.le_refl _) (.cells #[.int .i64 y, .int .i64 (m + 1), .int .i64 1] 23)) HLa.out)
  have HLa := Lib.hid (show w1.heap.size < (w6.alloc (.cells #[.int .i64 y, .int .i64 (m + 1), .int .i64 1] 23)).heap.size by have := HLa.out; simp; omega)
  have HDb := Lib.hid (date_new (y) (m + 1) (1) w6 23)
  have HLb := Lib.hid (show w6.heap.size < (w6.alloc (.cells #[.int .i64 y, .int .i64 (m + 1), .int .i64 1] 23)).heap.size by simp)
  have HB6 := Lib.hid (HB6.out.alloc HB6.out.size (.cells #[.int .i64 y, .int .i64 (m + 1), .int .i64 1] 23))
  go_wp2_with fail
  clear ca0 ca1 ca2 hLa
  refine wp_world (R := fun W => (DateAt (w1.heap.size) (y) (m) (q) (W)) ∧ w1.heap.size < W.heap.size ∧ (DateAt (w6.heap.size) (y) (m + 1) (1) (W)) ∧ w6.heap.size < W.heap.size ∧ Below w.heap.size w W) ⟨HDa.out, HLa.out, HDb.out, HLb.out, HB6.out⟩ ?_
  rintro W7 ⟨hda, hla, hdb, hlb, hb⟩
  have HDa := Lib.hid hda
  have HLa := Lib.hid hla
  clear hda hla
  have HDb := Lib.hid hdb
  have HLb := Lib.hid hlb
  clear hdb hlb
  have HB7 := Lib.hid hb
  have HTW := Lib.hid (HT.out.of hb)
  clear hb
  simp only [List.append_eq, List.cons_append, List.nil_append]
  have sm0 : IntKind.i64.wrap (q + 1) = q + 1 := IntWalk.i64_in _ (by omega)
  have sm1 : IntKind.i64.wrap (m + 1) = m + 1 := IntWalk.i64_in _ (by omega)
  have sk0 : Int.tmod k 7 = t := by rw [HK.out]; exact Int.tmod_eq_emod_of_nonneg (by omega)
  have sk1 : IntKind.i64.wrap (t + 1) = k2 := by rw [HK2.out]; exact IntWalk.i64_in _ (by omega)
  have qa0 : ∀ dq osq, (Sort.grow (redrawn W7 dq) osq).cell? ⟨w1.heap.size, 0, none⟩ = some (.int .i64 y) := fun dq osq => (HDa.out.below (below_regrown W7 dq osq) HLa.out).1
  have qa1 : ∀ dq osq, (Sort.grow (redrawn W7 dq) osq).cell? ⟨w1.heap.size, 1, none⟩ = some (.int .i64 m) := fun dq osq => (HDa.out.below (below_regrown W7 dq osq) HLa.out).2.1
  have qa2 : ∀ dq osq, (Sort.grow (redrawn W7 dq) osq).cell? ⟨w1.heap.size, 2, none⟩ = some (.int .i64 q) := fun dq osq => (HDa.out.below (below_regrown W7 dq osq) HLa.out).2.2
  have qb0 : ∀ dq osq, (Sort.grow (redrawn W7 dq) osq).cell? ⟨w6.heap.size, 0, none⟩ = some (.int .i64 y) := fun dq osq => (HDb.out.below (below_regrown W7 dq osq) HLb.out).1
  have qb1 : ∀ dq osq, (Sort.grow (redrawn W7 dq) osq).cell? ⟨w6.heap.size, 1, none⟩ = some (.int .i64 (m + 1)) := fun dq osq => (HDb.out.below (below_regrown W7 dq osq) HLb.out).2.1
  have qb2 : ∀ dq osq, (Sort.grow (redrawn W7 dq) osq).cell? ⟨w6.heap.size, 2, none⟩ = some (.int .i64 1) := fun dq osq => (HDb.out.below (below_regrown W7 dq osq) HLb.out).2.2
  refine wp_region_quiet_below (by kernel_rfl) (by kernel_rfl) ?_
  repeat (first | go_big_quiet_step (first | (go_at_call 15; with_reducible exact Calls.regrown_of (weekday_v (y) (m + 1) (1) (n + 1) k2 _ (HTW.out.grow _ _) HR2.out HN2.out HW2.out)) | (go_at_call 15; with_reducible exact Calls.regrown_of (weekday_v (y) (m) (q) n k _ (HTW.out.grow _ _) HR.out HN.out HW1.out)) | (go_at_call 16; with_reducible exact Calls.regrown_of (works_any _ (HTW.out.grow _ _))) | (go_at_call 13; with_reducible exact same_class (long_at _ _ _ _ HLG.out (HTW.out.grow _ _)))) | quiet_step (first | (go_at_call 15; with_reducible exact Calls.regrown_of (weekday_v (y) (m + 1) (1) (n + 1) k2 _ (HTW.out.grow _ _) HR2.out HN2.out HW2.out)) | (go_at_call 15; with_reducible exact Calls.regrown_of (weekday_v (y) (m) (q) n k _ (HTW.out.grow _ _) HR.out HN.out HW1.out)) | (go_at_call 16; with_reducible exact Calls.regrown_of (works_any _ (HTW.out.grow _ _))) | (go_at_call 13; with_reducible exact same_class (long_at _ _ _ _ HLG.out (HTW.out.grow _ _)))))
  refine wpQuiet_nil ?_
  intro w8 hV
  have hB := below_class hV
  clear hV qa0 qa1 qa2 qb0 qb1 qb2
  have HB8 := Lib.hid (HB7.out.trans (hB.mono HB7.out.size))
  have HDa := Lib.hid (HDa.out.below hB HLa.out)
  have HLa := Lib.hid (Nat.lt_of_lt_of_le HLa.out hB.size)
  have HDb := Lib.hid (HDb.out.below hB HLb.out)
  have HLb := Lib.hid (Nat.lt_of_lt_of_le HLb.out hB.size)
  clear hB
  obtain ⟨ca0, ca1, ca2⟩ := HDa.out
  have hLa := HLa.out
  obtain ⟨cb0, cb1, cb2⟩ := HDb.out
  have hLb := HLb.out
  go_wp2
  go_ret
  exact ⟨rfl, HB8.out⟩

set_option maxRecDepth 100000 in
set_option maxHeartbeats 4000000 in
theorem of_law_c (y n : Int) (hr : Right (y) (12) (31)) (hn : num (y) (12) (31) = n) (hr2 : Right (y + 1) (1) (1)) (hn2 : num (y + 1) (1) (1) = n + 1) (h0 : -719162 ≤ n) (h1 : n ≤ 2932896) (hl : (n == 2932896) = false) (w : World) (ht : Tab w) :
    Calls Tryd.prog 4 #[.int .i64 n] w fun e w' => e = .returned (.bool true) ∧ Below w.heap.size w w' := by
  have HT := Lib.hid ht
  have hnl : ¬ n < -719162 := by omega
  have hnh : ¬ 2932896 < n := by omega
  have hwb := wday_bd n
  have hwn := wday_next n
  have hyb := hr.1
  have hyb2 := hr.2.1
  have hdb := hr.2.2.2.2
  have hmb := hr.2.2.1
  have hmb2 := hr.2.2.2.1
  have hmlb := ml_bd y (12)
  have HLG := Lib.hid (show long y 12 = 31 by rw [long_in ⟨hr.1, hr.2.1, by omega, by omega⟩]; rfl)
  have HR := Lib.hid hr
  have HN := Lib.hid hn
  have HR2 := Lib.hid hr2
  have HN2 := Lib.hid hn2
  have HRB := Lib.hid ((right_iff _ _ _).2 hr)
  clear hr hn hr2 hn2
  obtain ⟨k, hk⟩ : ∃ k, wday n = k := ⟨_, rfl⟩
  obtain ⟨k2, hk2⟩ : ∃ k, wday (n + 1) = k := ⟨_, rfl⟩
  obtain ⟨t, htt⟩ : ∃ t, t = k % 7 := ⟨_, rfl⟩
  rw [hk] at hwb hwn
  rw [hk2] at hwn
  have HW1 := Lib.hid hk
  have HW2 := Lib.hid hk2
  have HK := Lib.hid htt
  have HK2 := Lib.hid (show k2 = t + 1 by omega)
  have htb : 0 ≤ t ∧ t ≤ 6 := by omega
  clear hk hk2 htt hwn
  clear ht
  have HB0 := Lib.hid (Below.refl w.heap.size w)
  go_enter Tryd.func4, Tryd.ntmps4
  go_wp2_with fail
  refine (of_yes (y) (12) (31) _ _ HT.out HR.out HN.out).mono ?_
  rintro e w1 ⟨rfl, hB⟩
  have HB1 := Lib.hid (HB0.out.trans (hB.mono HB0.out.size))
  clear hB
  have HDa := Lib.hid (date_new (y) (12) (31) w1 23)
  have HLa := Lib.hid (show w1.heap.size < (w1.alloc (.cells #[.int .i64 y, .int .i64 12, .int .i64 31] 23)).heap.size by simp)
  have HB1 := Lib.hid (HB1.out.alloc HB1.out.size (.cells #[.int .i64 y, .int .i64 12, .int .i64 31] 23))
  go_wp2_with fail
  refine (days_at (y) (12) (31) _ _ (HT.out.of HB1.out) HR.out HN.out).mono ?_
  rintro e w2 ⟨rfl, hB⟩
  have HB2 := Lib.hid (HB1.out.trans (hB.mono HB1.out.size))
  have HDa := Lib.hid (HDa.out.below hB HLa.out)
  have HLa := Lib.hid (Nat.lt_of_lt_of_le HLa.out hB.size)
  clear hB
  obtain ⟨ca0, ca1, ca2⟩ := HDa.out
  have hLa := HLa.out
  go_wp2_with fail
  refine (plain_any _ _ _ _).mono ?_
  rintro e w3 ⟨rfl, hB⟩
  have HB3 := Lib.hid (HB2.out.trans (hB.mono HB2.out.size))
  clear ca0 ca1 ca2 hLa
  have HDa := Lib.hid (HDa.out.below hB HLa.out)
  have HLa := Lib.hid (Nat.lt_of_lt_of_le HLa.out hB.size)
  clear hB
  obtain ⟨ca0, ca1, ca2⟩ := HDa.out
  have hLa := HLa.out
  go_wp2_with fail
  refine (rof_at (y) (12) (31) _ _ HR.out HN.out).mono ?_
  rintro e w4 ⟨rfl, hB⟩
  have HB4 := Lib.hid (HB3.out.trans (hB.mono HB3.out.size))
  clear ca0 ca1 ca2 hLa
  have HDa := Lib.hid (HDa.out.below hB HLa.out)
  have HLa := Lib.hid (Nat.lt_of_lt_of_le HLa.out hB.size)
  clear hB
  obtain ⟨ca0, ca1, ca2⟩ := HDa.out
  have hLa := HLa.out
  go_wp2_with fail
  refine (right_at _ _ _ true _ (HT.out.of HB4.out) HRB.out).mono ?_
  rintro e w5 ⟨rfl, hB⟩
  have HB5 := Lib.hid (HB4.out.trans (hB.mono HB4.out.size))
  clear ca0 ca1 ca2 hLa
  have HDa := Lib.hid (HDa.out.below hB HLa.out)
  have HLa := Lib.hid (Nat.lt_of_lt_of_le HLa.out hB.size)
  clear hB
  obtain ⟨ca0, ca1, ca2⟩ := HDa.out
  have hLa := HLa.out
  go_wp2_with fail
  refine (of_yes (y + 1) (1) (1) _ _ (HT.out.of HB5.out) HR2.out HN2.out).mono ?_
  rintro e w6 ⟨rfl, hB⟩
  have HB6 := Lib.hid (HB5.out.trans (hB.mono HB5.out.size))
  clear ca0 ca1 ca2 hLa
  have HDa := Lib.hid (HDa.out.below hB HLa.out)
  have HLa := Lib.hid (Nat.lt_of_lt_of_le HLa.out hB.size)
  clear hB
  obtain ⟨ca0, ca1, ca2⟩ := HDa.out
  have hLa := HLa.out
  have HDa := Lib.hid (HDa.out.below ((Below.refl w6.heap.size _).alloc (Nat.le_refl _) (.cells #[.int .i64 (y + 1), .int .i64 1, .int .i64 1] 23)) HLa.out)
  have HLa := Lib.hid (show w1.heap.size < (w6.alloc (.cells #[.int .i64 (y + 1), .int .i64 1, .int .i64 1] 23)).heap.size by have := HLa.out; simp; omega)
  have HDb := Lib.hid (date_new (y + 1) (1) (1) w6 23)
  have HLb := Lib.hid (show w6.heap.size < (w6.alloc (.cells #[.int .i64 (y + 1), .int .i64 1, .int .i64 1] 23)).heap.size by simp)
  have HB6 := Lib.hid (HB6.out.alloc HB6.out.size (.cells #[.int .i64 (y + 1), .int .i64 1, .int .i64 1] 23))
  go_wp2_with fail
  clear ca0 ca1 ca2 hLa
  refine wp_world (R := fun W => (DateAt (w1.heap.size) (y) (12) (31) (W)) ∧ w1.heap.size < W.heap.size ∧ (DateAt (w6.heap.size) (y + 1) (1) (1) (W)) ∧ w6.heap.size < W.heap.size ∧ Below w.heap.size w W) ⟨HDa.out, HLa.out, HDb.out, HLb.out, HB6.out⟩ ?_
  rintro W7 ⟨hda, hla, hdb, hlb, hb⟩
  have HDa := Lib.hid hda
  have HLa := Lib.hid hla
  clear hda hla
  have HDb := Lib.hid hdb
  have HLb := Lib.hid hlb
  clear hdb hlb
  have HB7 := Lib.hid hb
  have HTW := Lib.hid (HT.out.of hb)
  clear hb
  simp only [List.append_eq, List.cons_append, List.nil_append]
  have sm0 : IntKind.i64.wrap (y + 1) = y + 1 := IntWalk.i64_in _ (by omega)
  have sk0 : Int.tmod k 7 = t := by rw [HK.out]; exact Int.tmod_eq_emod_of_nonneg (by omega)
  have sk1 : IntKind.i64.wrap (t + 1) = k2 := by rw [HK2.out]; exact IntWalk.i64_in _ (by omega)
  have qa0 : ∀ dq osq, (Sort.grow (redrawn W7 dq) osq).cell? ⟨w1.heap.size, 0, none⟩ = some (.int .i64 y) := fun dq osq => (HDa.out.below (below_regrown W7 dq osq) HLa.out).1
  have qa1 : ∀ dq osq, (Sort.grow (redrawn W7 dq) osq).cell? ⟨w1.heap.size, 1, none⟩ = some (.int .i64 12) := fun dq osq => (HDa.out.below (below_regrown W7 dq osq) HLa.out).2.1
  have qa2 : ∀ dq osq, (Sort.grow (redrawn W7 dq) osq).cell? ⟨w1.heap.size, 2, none⟩ = some (.int .i64 31) := fun dq osq => (HDa.out.below (below_regrown W7 dq osq) HLa.out).2.2
  have qb0 : ∀ dq osq, (Sort.grow (redrawn W7 dq) osq).cell? ⟨w6.heap.size, 0, none⟩ = some (.int .i64 (y + 1)) := fun dq osq => (HDb.out.below (below_regrown W7 dq osq) HLb.out).1
  have qb1 : ∀ dq osq, (Sort.grow (redrawn W7 dq) osq).cell? ⟨w6.heap.size, 1, none⟩ = some (.int .i64 1) := fun dq osq => (HDb.out.below (below_regrown W7 dq osq) HLb.out).2.1
  have qb2 : ∀ dq osq, (Sort.grow (redrawn W7 dq) osq).cell? ⟨w6.heap.size, 2, none⟩ = some (.int .i64 1) := fun dq osq => (HDb.out.below (below_regrown W7 dq osq) HLb.out).2.2
  refine wp_region_quiet_below (by kernel_rfl) (by kernel_rfl) ?_
  repeat (first | go_big_quiet_step (first | (go_at_call 15; with_reducible exact Calls.regrown_of (weekday_v (y + 1) (1) (1) (n + 1) k2 _ (HTW.out.grow _ _) HR2.out HN2.out HW2.out)) | (go_at_call 15; with_reducible exact Calls.regrown_of (weekday_v (y) (12) (31) n k _ (HTW.out.grow _ _) HR.out HN.out HW1.out)) | (go_at_call 16; with_reducible exact Calls.regrown_of (works_any _ (HTW.out.grow _ _))) | (go_at_call 13; with_reducible exact same_class (long_at _ _ _ _ HLG.out (HTW.out.grow _ _)))) | quiet_step (first | (go_at_call 15; with_reducible exact Calls.regrown_of (weekday_v (y + 1) (1) (1) (n + 1) k2 _ (HTW.out.grow _ _) HR2.out HN2.out HW2.out)) | (go_at_call 15; with_reducible exact Calls.regrown_of (weekday_v (y) (12) (31) n k _ (HTW.out.grow _ _) HR.out HN.out HW1.out)) | (go_at_call 16; with_reducible exact Calls.regrown_of (works_any _ (HTW.out.grow _ _))) | (go_at_call 13; with_reducible exact same_class (long_at _ _ _ _ HLG.out (HTW.out.grow _ _)))))
  refine wpQuiet_nil ?_
  intro w8 hV
  have hB := below_class hV
  clear hV qa0 qa1 qa2 qb0 qb1 qb2
  have HB8 := Lib.hid (HB7.out.trans (hB.mono HB7.out.size))
  have HDa := Lib.hid (HDa.out.below hB HLa.out)
  have HLa := Lib.hid (Nat.lt_of_lt_of_le HLa.out hB.size)
  have HDb := Lib.hid (HDb.out.below hB HLb.out)
  have HLb := Lib.hid (Nat.lt_of_lt_of_le HLb.out hB.size)
  clear hB
  obtain ⟨ca0, ca1, ca2⟩ := HDa.out
  have hLa := HLa.out
  obtain ⟨cb0, cb1, cb2⟩ := HDb.out
  have hLb := HLb.out
  go_wp2
  go_ret
  exact ⟨rfl, HB8.out⟩

theorem civilOf_any (n : Int) (w : World) (ht : Tab w) :
    Calls Tryd.prog 4 #[.int .i64 n] w fun e w' => e = .returned (.bool true) ∧ Below w.heap.size w w' := by
  by_cases h0 : n < -719162
  · exact of_law_low n w ht h0
  by_cases h1 : 2932896 < n
  · exact of_law_high n w ht h1
  obtain ⟨y, m, d, hr, hn⟩ := day_of n (by omega) (by omega)
  by_cases hl : n = 2932896
  · obtain ⟨rfl, rfl, rfl⟩ := num_last hr (by rw [hn, hl])
    exact of_law_last n w ht hn hl hr
  · have hb := beq_eq_false_iff_ne.2 hl
    obtain ⟨y', m', d', hr', hn'⟩ := day_of (n + 1) (by omega) (by omega)
    rcases num_next hr hr' (by rw [hn', hn]) with ⟨rfl, rfl, rfl⟩ | ⟨rfl, rfl, rfl, rfl⟩ | ⟨rfl, h, rfl, rfl, rfl⟩
    · exact of_law_a _ _ d n hr hn hr' hn' (by omega) (by omega) hb w ht
    · exact of_law_b _ m n hr hn hr' hn' (by omega) (by omega) hb w ht
    · obtain rfl : d = 31 := by rw [h]; rfl
      exact of_law_c y n hr hn hr' hn' (by omega) (by omega) hb w ht
end Go.Proofs.YtcllimfaoajapabDoor.Cv
