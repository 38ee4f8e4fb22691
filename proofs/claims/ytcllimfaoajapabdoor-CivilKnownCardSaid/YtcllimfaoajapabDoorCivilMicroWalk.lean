/-
  The walk of the law CivilMicro. (Made by tools/gen_civil.py.)
-/
import Derived.Test.YtcllimfaoajapabDoorCivilMicroNo
import Derived.Deep.RegionHeld3
import Derived.IntWalk
import Derived.BigQuiet
namespace Go.Proofs.YtcllimfaoajapabDoor.Cv
open Go.RowKit

theorem mic_eq (n h i s u : Int) : (mic n h i s u == ((((n * 24 + h) * 60 + i) * 60 + s) * 1000000 + u)) = true := by
  rw [beq_iff_eq]; unfold mic; omega
theorem mic_parts (n h i s u : Int) (hm : Time h i s u) : mic n h i s u / 86400000000 = n ∧ mic n h i s u % 86400000000 = h * 3600000000 + i * 60000000 + s * 1000000 + u := by
  obtain ⟨⟨a1, a2⟩, ⟨a3, a4⟩, ⟨a5, a6⟩, a7, a8⟩ := hm
  unfold mic; omega
theorem from_back_k {W u' : World} (hk : Below W.heap.size W u') (y m d h i s u n : Int) (ht : Tab W) (hr : Right y m d) (hn : num y m d = n) (hm : Time h i s u) :
    Calls Tryd.prog 22 #[.int .i64 (mic n h i s u)] u' fun e w' => e = .returned (.tuple #[cv y m d h i s u, .int .i64 0]) ∧ Below W.heap.size W w' := by
  have hp := mic_parts n h i s u hm
  have hb := num_bd hr
  rw [hn] at hb
  have hr1 : -9223372036854775808 ≤ mic n h i s u ∧ mic n h i s u ≤ 9223372036854775807 := by
    obtain ⟨⟨a1, a2⟩, ⟨a3, a4⟩, ⟨a5, a6⟩, a7, a8⟩ := hm
    unfold mic; omega
  have H := from_at (mic n h i s u) y m d (h * 3600000000 + i * 60000000 + s * 1000000 + u) u' (ht.of hk) hr1 hr (by rw [hn, hp.1]) hp.2
  obtain ⟨⟨a1, a2⟩, ⟨a3, a4⟩, ⟨a5, a6⟩, a7, a8⟩ := hm
  rw [show (h * 3600000000 + i * 60000000 + s * 1000000 + u) / 3600000000 = h by omega, show (h * 3600000000 + i * 60000000 + s * 1000000 + u) % 3600000000 / 60000000 = i by omega,
    show (h * 3600000000 + i * 60000000 + s * 1000000 + u) % 60000000 / 1000000 = s by omega, show (h * 3600000000 + i * 60000000 + s * 1000000 + u) % 1000000 = u by omega] at H
  exact H.mono fun _ _ ⟨he, hb⟩ => ⟨he, hk.trans (hb.mono hk.size)⟩


set_option maxRecDepth 100000 in
set_option maxHeartbeats 4000000 in
theorem micro_law_yes (y m d h i s u n : Int) (hr : Right y m d) (hn : num y m d = n) (hm : Time h i s u) (w : World) (ht : Tab w) :
    Calls Tryd.prog 5 #[cv y m d h i s u] w fun e w' => e = .returned (.bool true) ∧ Below w.heap.size w w' := by
  have HT := Lib.hid ht
  have HR := Lib.hid hr
  have HN := Lib.hid hn
  have HM := Lib.hid hm
  have HRB := Lib.hid ((right_iff y m d).2 hr)
  have hnb := num_bd hr
  rw [hn] at hnb
  obtain ⟨⟨a1, a2⟩, ⟨a3, a4⟩, ⟨a5, a6⟩, a7, a8⟩ := hm
  have HB24 := Lib.hid (mic_eq n h i s u)
  clear hr hn
  clear ht
  have HB0 := Lib.hid (Below.refl w.heap.size w)
  have HDa := Lib.hid (clock_new (y) (m) (d) (h) (i) (s) (u) w 41)
  have HLa := Lib.hid (show w.heap.size < (w.alloc (.cells #[.int .i64 y, .int .i64 m, .int .i64 d, .int .i64 h, .int .i64 i, .int .i64 s, .int .i64 u] 41)).heap.size by simp)
  have HB0 := Lib.hid (HB0.out.alloc HB0.out.size (.cells #[.int .i64 y, .int .i64 m, .int .i64 d, .int .i64 h, .int .i64 i, .int .i64 s, .int .i64 u] 41))
  go_enter Tryd.func5, Tryd.ntmps5
  go_wp2_with fail
  refine (micro_at y m d h i s u n _ (HT.out.of HB0.out) HR.out HM.out HN.out).mono ?_
  rintro e w1 ⟨rfl, hB⟩
  have HB1 := Lib.hid (HB0.out.trans (hB.mono HB0.out.size))
  have HDa := Lib.hid (HDa.out.below hB HLa.out)
  have HLa := Lib.hid (Nat.lt_of_lt_of_le HLa.out hB.size)
  clear hB
  obtain ⟨ca0, ca1, ca2, ca3, ca4, ca5, ca6⟩ := HDa.out
  have hLa := HLa.out
  go_wp2_with fail
  refine (plain_any y m d _).mono ?_
  rintro e w2 ⟨rfl, hB⟩
  have HB2 := Lib.hid (HB1.out.trans (hB.mono HB1.out.size))
  clear ca0 ca1 ca2 ca3 ca4 ca5 ca6 hLa
  have HDa := Lib.hid (HDa.out.below hB HLa.out)
  have HLa := Lib.hid (Nat.lt_of_lt_of_le HLa.out hB.size)
  clear hB
  obtain ⟨ca0, ca1, ca2, ca3, ca4, ca5, ca6⟩ := HDa.out
  have hLa := HLa.out
  have HDa := Lib.hid (HDa.out.below ((Below.refl w2.heap.size _).alloc (Nat.le_refl _) (.cells #[.int .i64 y, .int .i64 m, .int .i64 d] 24)) HLa.out)
  have HLa := Lib.hid (show w.heap.size < (w2.alloc (.cells #[.int .i64 y, .int .i64 m, .int .i64 d] 24)).heap.size by have := HLa.out; simp; omega)
  have HDb := Lib.hid (date_new (y) (m) (d) w2 24)
  have HLb := Lib.hid (show w2.heap.size < (w2.alloc (.cells #[.int .i64 y, .int .i64 m, .int .i64 d] 24)).heap.size by simp)
  have HB2 := Lib.hid (HB2.out.alloc HB2.out.size (.cells #[.int .i64 y, .int .i64 m, .int .i64 d] 24))
  go_wp2_with fail
  refine (rright_at y m d true _ HRB.out).mono ?_
  rintro e w3 ⟨rfl, hB⟩
  have HB3 := Lib.hid (HB2.out.trans (hB.mono HB2.out.size))
  clear ca0 ca1 ca2 ca3 ca4 ca5 ca6 hLa
  have HDa := Lib.hid (HDa.out.below hB HLa.out)
  have HLa := Lib.hid (Nat.lt_of_lt_of_le HLa.out hB.size)
  have HDb := Lib.hid (HDb.out.below hB HLb.out)
  have HLb := Lib.hid (Nat.lt_of_lt_of_le HLb.out hB.size)
  clear hB
  obtain ⟨ca0, ca1, ca2, ca3, ca4, ca5, ca6⟩ := HDa.out
  have hLa := HLa.out
  obtain ⟨cb0, cb1, cb2⟩ := HDb.out
  have hLb := HLb.out
  go_wp2_with fail
  clear ca0 ca1 ca2 ca3 ca4 ca5 ca6 hLa
  clear cb0 cb1 cb2 hLb
  refine wp_world (R := fun W => (ClockAt (w.heap.size) (y) (m) (d) (h) (i) (s) (u) (W)) ∧ w.heap.size < W.heap.size ∧ (DateAt (w2.heap.size) (y) (m) (d) (W)) ∧ w2.heap.size < W.heap.size ∧ Below w.heap.size w W) ⟨HDa.out, HLa.out, HDb.out, HLb.out, HB3.out⟩ ?_
  rintro W4 ⟨hda, hla, hdb, hlb, hb⟩
  have HDa := Lib.hid hda
  have HLa := Lib.hid hla
  clear hda hla
  have HDb := Lib.hid hdb
  have HLb := Lib.hid hlb
  clear hdb hlb
  have HB4 := Lib.hid hb
  have HTW := Lib.hid (HT.out.of hb)
  clear hb
  have qa0 : ∀ dq osq, (Sort.grow (redrawn W4 dq) osq).cell? ⟨w.heap.size, 0, none⟩ = some (.int .i64 y) := fun dq osq => (HDa.out.below (below_regrown W4 dq osq) HLa.out).1
  have qa1 : ∀ dq osq, (Sort.grow (redrawn W4 dq) osq).cell? ⟨w.heap.size, 1, none⟩ = some (.int .i64 m) := fun dq osq => (HDa.out.below (below_regrown W4 dq osq) HLa.out).2.1
  have qa2 : ∀ dq osq, (Sort.grow (redrawn W4 dq) osq).cell? ⟨w.heap.size, 2, none⟩ = some (.int .i64 d) := fun dq osq => (HDa.out.below (below_regrown W4 dq osq) HLa.out).2.2.1
  have qa3 : ∀ dq osq, (Sort.grow (redrawn W4 dq) osq).cell? ⟨w.heap.size, 3, none⟩ = some (.int .i64 h) := fun dq osq => (HDa.out.below (below_regrown W4 dq osq) HLa.out).2.2.2.1
  have qa4 : ∀ dq osq, (Sort.grow (redrawn W4 dq) osq).cell? ⟨w.heap.size, 4, none⟩ = some (.int .i64 i) := fun dq osq => (HDa.out.below (below_regrown W4 dq osq) HLa.out).2.2.2.2.1
  have qa5 : ∀ dq osq, (Sort.grow (redrawn W4 dq) osq).cell? ⟨w.heap.size, 5, none⟩ = some (.int .i64 s) := fun dq osq => (HDa.out.below (below_regrown W4 dq osq) HLa.out).2.2.2.2.2.1
  have qa6 : ∀ dq osq, (Sort.grow (redrawn W4 dq) osq).cell? ⟨w.heap.size, 6, none⟩ = some (.int .i64 u) := fun dq osq => (HDa.out.below (below_regrown W4 dq osq) HLa.out).2.2.2.2.2.2
  have qb0 : ∀ dq osq, (Sort.grow (redrawn W4 dq) osq).cell? ⟨w2.heap.size, 0, none⟩ = some (.int .i64 y) := fun dq osq => (HDb.out.below (below_regrown W4 dq osq) HLb.out).1
  have qb1 : ∀ dq osq, (Sort.grow (redrawn W4 dq) osq).cell? ⟨w2.heap.size, 1, none⟩ = some (.int .i64 m) := fun dq osq => (HDb.out.below (below_regrown W4 dq osq) HLb.out).2.1
  have qb2 : ∀ dq osq, (Sort.grow (redrawn W4 dq) osq).cell? ⟨w2.heap.size, 2, none⟩ = some (.int .i64 d) := fun dq osq => (HDb.out.below (below_regrown W4 dq osq) HLb.out).2.2
  refine wp_region_quiet_below (by kernel_rfl) (by kernel_rfl) ?_
  repeat (first | go_big_quiet_step (first | (go_at_call 17; with_reducible exact Calls.regrown_of (rdays_at y m d n _ HR.out HN.out))) | quiet_step (first | (go_at_call 17; with_reducible exact Calls.regrown_of (rdays_at y m d n _ HR.out HN.out))))
  refine wpQuiet_nil ?_
  intro w5 hV
  have hB := below_class hV
  clear hV qa0 qa1 qa2 qa3 qa4 qa5 qa6 qb0 qb1 qb2
  have HB5 := Lib.hid (HB4.out.trans (hB.mono HB4.out.size))
  have HDa := Lib.hid (HDa.out.below hB HLa.out)
  have HLa := Lib.hid (Nat.lt_of_lt_of_le HLa.out hB.size)
  have HDb := Lib.hid (HDb.out.below hB HLb.out)
  have HLb := Lib.hid (Nat.lt_of_lt_of_le HLb.out hB.size)
  clear hB
  obtain ⟨ca0, ca1, ca2, ca3, ca4, ca5, ca6⟩ := HDa.out
  have hLa := HLa.out
  obtain ⟨cb0, cb1, cb2⟩ := HDb.out
  have hLb := HLb.out
  go_wp2_with fail
  refine (from_back_k (Below.refl _ _) y m d h i s u n (HT.out.of HB5.out) HR.out HN.out HM.out).mono ?_
  rintro e w6 ⟨rfl, hB⟩
  have HB6 := Lib.hid (HB5.out.trans (hB.mono HB5.out.size))
  clear ca0 ca1 ca2 ca3 ca4 ca5 ca6 hLa
  have HDa := Lib.hid (HDa.out.below hB HLa.out)
  have HLa := Lib.hid (Nat.lt_of_lt_of_le HLa.out hB.size)
  clear cb0 cb1 cb2 hLb
  have HDb := Lib.hid (HDb.out.below hB HLb.out)
  have HLb := Lib.hid (Nat.lt_of_lt_of_le HLb.out hB.size)
  clear hB
  obtain ⟨ca0, ca1, ca2, ca3, ca4, ca5, ca6⟩ := HDa.out
  have hLa := HLa.out
  obtain ⟨cb0, cb1, cb2⟩ := HDb.out
  have hLb := HLb.out
  have HDa := Lib.hid (HDa.out.below ((Below.refl w6.heap.size _).alloc (Nat.le_refl _) (.cells #[.int .i64 y, .int .i64 m, .int .i64 d, .int .i64 h, .int .i64 i, .int .i64 s, .int .i64 u] 41)) HLa.out)
  have HLa := Lib.hid (show w.heap.size < (w6.alloc (.cells #[.int .i64 y, .int .i64 m, .int .i64 d, .int .i64 h, .int .i64 i, .int .i64 s, .int .i64 u] 41)).heap.size by have := HLa.out; simp; omega)
  have HDb := Lib.hid (HDb.out.below ((Below.refl w6.heap.size _).alloc (Nat.le_refl _) (.cells #[.int .i64 y, .int .i64 m, .int .i64 d, .int .i64 h, .int .i64 i, .int .i64 s, .int .i64 u] 41)) HLb.out)
  have HLb := Lib.hid (show w2.heap.size < (w6.alloc (.cells #[.int .i64 y, .int .i64 m, .int .i64 d, .int .i64 h, .int .i64 i, .int .i64 s, .int .i64 u] 41)).heap.size by have := HLb.out; simp; omega)
  have HDe := Lib.hid (clock_new (y) (m) (d) (h) (i) (s) (u) w6 41)
  have HLe := Lib.hid (show w6.heap.size < (w6.alloc (.cells #[.int .i64 y, .int .i64 m, .int .i64 d, .int .i64 h, .int .i64 i, .int .i64 s, .int .i64 u] 41)).heap.size by simp)
  have HB6 := Lib.hid (HB6.out.alloc HB6.out.size (.cells #[.int .i64 y, .int .i64 m, .int .i64 d, .int .i64 h, .int .i64 i, .int .i64 s, .int .i64 u] 41))
  have HQ := HB24.out
  go_wp2_with fail
  refine (works_any _ (HT.out.of HB6.out)).mono ?_
  rintro e w7 ⟨rfl, hB⟩
  have HB7 := Lib.hid (HB6.out.trans (hB.mono HB6.out.size))
  clear ca0 ca1 ca2 ca3 ca4 ca5 ca6 hLa
  have HDa := Lib.hid (HDa.out.below hB HLa.out)
  have HLa := Lib.hid (Nat.lt_of_lt_of_le HLa.out hB.size)
  clear cb0 cb1 cb2 hLb
  have HDb := Lib.hid (HDb.out.below hB HLb.out)
  have HLb := Lib.hid (Nat.lt_of_lt_of_le HLb.out hB.size)
  have HDe := Lib.hid (HDe.out.below hB HLe.out)
  have HLe := Lib.hid (Nat.lt_of_lt_of_le HLe.out hB.size)
  clear hB
  obtain ⟨ca0, ca1, ca2, ca3, ca4, ca5, ca6⟩ := HDa.out
  have hLa := HLa.out
  obtain ⟨cb0, cb1, cb2⟩ := HDb.out
  have hLb := HLb.out
  obtain ⟨ce0, ce1, ce2, ce3, ce4, ce5, ce6⟩ := HDe.out
  have hLe := HLe.out
  go_wp2
  go_ret
  exact ⟨rfl, HB7.out⟩

theorem civilMicro_any (y m d h i s u : Int) (w : World) (ht : Tab w) :
    Calls Tryd.prog 5 #[cv y m d h i s u] w fun e w' => e = .returned (.bool true) ∧ Below w.heap.size w w' := by
  cases hr : right y m d
  · exact micro_law_date y m d h i s u hr w ht
  · by_cases hm : Time h i s u
    · exact micro_law_yes y m d h i s u _ ((right_iff y m d).1 hr) rfl hm w ht
    · exact micro_law_time y m d h i s u w ht ((right_iff y m d).1 hr) hm
end Go.Proofs.YtcllimfaoajapabDoor.Cv
