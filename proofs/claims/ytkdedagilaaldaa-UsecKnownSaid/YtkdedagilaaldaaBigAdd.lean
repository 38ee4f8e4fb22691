/-
  What clepsydraref01.Add answers.
-/
import Derived.Test.YtkdedagilaaldaaBigPlus
import Derived.Test.YtkdedagilaaldaaBigLess
import Derived.Test.YtkdedagilaaldaaBigSize
import Derived.Test.YtkdedagilaaldaaBigFits
import Derived.Test.YtkdedagilaaldaaBigOf
namespace Go.Proofs.Ytkdedagilaaldaa.Us
open Go.RowKit

/-- Behind a call that keeps what was there: old cells read as they did. -/
theorem Keeps.cell {W w1 : World} (h : Keeps W w1) : ∀ b o, b < W.heap.size → w1.cell? ⟨b, o, none⟩ = W.cell? ⟨b, o, none⟩ :=
  fun b o hb => h.below.cell (p := ⟨b, o, none⟩) hb

set_option maxHeartbeats 1000000 in
theorem add_same (m m' : Bool) (na nb : Int) (x y : Value) (w : World) (hx : IsBig m na x) (hy : IsBig m' nb y) (hm : (m == m') = true) (hlt : na + nb < 1461501637330902918203684832716283019655932542976) :
    Calls Try.prog 14 #[x, y] w (GivesBig m (na + nb) w) := by
  have hx0 := hx
  have hy0 := hy
  obtain ⟨a0, a1, a2, a3, a4, ha, hna, rfl⟩ := hx
  obtain ⟨b0, b1, b2, b3, b4, hb, hnb, rfl⟩ := hy
  have HX := Lib.hid hx0; have HY := Lib.hid hy0; have HL := Lib.hid hlt
  clear hx0 hy0 hlt ha hb hna hnb
  go_enter Try.func14, Try.ntmps14
  go_wp2_with fail
  refine (plus_big m m' na nb _ _ _ HX.out HY.out HL.out).mono ?_
  rintro e w1 ⟨v, ⟨r0, r1, r2, r3, r4, hd, hv, rfl⟩, rfl, hk⟩
  have HD := Lib.hid hd; have HV := Lib.hid hv; have HK := Lib.hid (show Keeps w w1 from Keeps.trans (by repeat (first | with_reducible exact Keeps.refl _ | (with_reducible refine Keeps.setCell ?_ ?hz _; case hz => simp; omega) | with_reducible refine Keeps.drewN ?_ _ | with_reducible refine Keeps.alloc ?_ _ _)) hk)
  have hc := hk.cell; have hf := hk.frozen; have hz := hk.below.size
  simp at hc hz
  clear hd hv hk
  go_wp2_with fail
  refine bodyPost_ret (v := .agg #[.bool m, .int .u64 r0, .int .u64 r1, .int .u64 r2, .int .u64 r3, .int .u64 r4]) (by simp [results, Try.results14, go_sem, hc]) rfl ⟨_, ⟨r0, r1, r2, r3, r4, HD.out, HV.out, rfl⟩, rfl, ?_⟩
  exact by repeat (first | with_reducible exact HK.out | (with_reducible refine Keeps.setCell ?_ ?hz _; case hz => simp; omega))

set_option maxHeartbeats 1000000 in
theorem add_geq (m m' : Bool) (na nb : Int) (x y : Value) (w : World) (hx : IsBig m na x) (hy : IsBig m' nb y) (hm : (m == m') = false) (hlt : nb ≤ na) :
    Calls Try.prog 14 #[x, y] w (GivesBig m (na - nb) w) := by
  have hx0 := hx
  have hy0 := hy
  obtain ⟨a0, a1, a2, a3, a4, ha, hna, rfl⟩ := hx
  obtain ⟨b0, b1, b2, b3, b4, hb, hnb, rfl⟩ := hy
  have HX := Lib.hid hx0; have HY := Lib.hid hy0; have HL := Lib.hid hlt
  have hs : decide (0 ≤ szV na nb) = true := by unfold szV; simp only [decide_eq_true_iff]; split <;> (try split) <;> omega
  clear hx0 hy0 hlt ha hb hna hnb
  go_enter Try.func14, Try.ntmps14
  go_wp2_with fail
  refine (size_big m m' na nb _ _ _ HX.out HY.out).mono ?_
  rintro e w0 ⟨rfl, hk⟩
  have HK := Lib.hid (show Keeps w w0 from Keeps.trans (by repeat (first | with_reducible exact Keeps.refl _ | (with_reducible refine Keeps.setCell ?_ ?hz _; case hz => simp; omega) | with_reducible refine Keeps.drewN ?_ _ | with_reducible refine Keeps.alloc ?_ _ _)) hk)
  have hc := hk.cell; have hf := hk.frozen; have hz := hk.below.size
  simp at hc hz
  clear hk
  go_wp2_with fail
  refine (less_big m m' na nb _ _ _ HX.out HY.out HL.out).mono ?_
  rintro e w1 ⟨v, ⟨r0, r1, r2, r3, r4, hd, hv, rfl⟩, rfl, hk⟩
  have HD := Lib.hid hd; have HV := Lib.hid hv; have HK2 := Lib.hid (show Keeps w w1 from Keeps.trans (HK.out) hk)
  have hc2 := hk.cell; have hf2 := hk.frozen; have hz2 := hk.below.size
  have hz3 : w.heap.size + 1 + 1 < w0.heap.size := by omega
  clear hd hv hk
  go_wp2_with fail
  refine bodyPost_ret (v := .agg #[.bool m, .int .u64 r0, .int .u64 r1, .int .u64 r2, .int .u64 r3, .int .u64 r4]) (by simp [results, Try.results14, go_sem, hc, hc2, hz3]) rfl ⟨_, ⟨r0, r1, r2, r3, r4, HD.out, HV.out, rfl⟩, rfl, ?_⟩
  exact by repeat (first | with_reducible exact HK2.out | (with_reducible refine Keeps.setCell ?_ ?hz _; case hz => simp; omega))

set_option maxHeartbeats 1000000 in
theorem add_lt (m m' : Bool) (na nb : Int) (x y : Value) (w : World) (hx : IsBig m na x) (hy : IsBig m' nb y) (hm : (m == m') = false) (hlt : na < nb) :
    Calls Try.prog 14 #[x, y] w (GivesBig m' (nb - na) w) := by
  have hx0 := hx
  have hy0 := hy
  obtain ⟨a0, a1, a2, a3, a4, ha, hna, rfl⟩ := hx
  obtain ⟨b0, b1, b2, b3, b4, hb, hnb, rfl⟩ := hy
  have HX := Lib.hid hx0; have HY := Lib.hid hy0; have HL := Lib.hid hlt
  have hs : decide (0 ≤ szV na nb) = false := by unfold szV; simp only [decide_eq_false_iff_not]; split <;> (try split) <;> omega
  clear hx0 hy0 hlt ha hb hna hnb
  go_enter Try.func14, Try.ntmps14
  go_wp2_with fail
  refine (size_big m m' na nb _ _ _ HX.out HY.out).mono ?_
  rintro e w0 ⟨rfl, hk⟩
  have HK := Lib.hid (show Keeps w w0 from Keeps.trans (by repeat (first | with_reducible exact Keeps.refl _ | (with_reducible refine Keeps.setCell ?_ ?hz _; case hz => simp; omega) | with_reducible refine Keeps.drewN ?_ _ | with_reducible refine Keeps.alloc ?_ _ _)) hk)
  have hc := hk.cell; have hf := hk.frozen; have hz := hk.below.size
  simp at hc hz
  clear hk
  go_wp2_with fail
  refine (less_big m' m nb na _ _ _ HY.out HX.out (Int.le_of_lt HL.out)).mono ?_
  rintro e w1 ⟨v, ⟨r0, r1, r2, r3, r4, hd, hv, rfl⟩, rfl, hk⟩
  have HD := Lib.hid hd; have HV := Lib.hid hv; have HK2 := Lib.hid (show Keeps w w1 from Keeps.trans (HK.out) hk)
  have hc2 := hk.cell; have hf2 := hk.frozen; have hz2 := hk.below.size
  have hz3 : w.heap.size + 1 + 1 < w0.heap.size := by omega
  clear hd hv hk
  go_wp2_with fail
  refine bodyPost_ret (v := .agg #[.bool m', .int .u64 r0, .int .u64 r1, .int .u64 r2, .int .u64 r3, .int .u64 r4]) (by simp [results, Try.results14, go_sem, hc, hc2, hz3]) rfl ⟨_, ⟨r0, r1, r2, r3, r4, HD.out, HV.out, rfl⟩, rfl, ?_⟩
  exact by repeat (first | with_reducible exact HK2.out | (with_reducible refine Keeps.setCell ?_ ?hz _; case hz => simp; omega))

end Go.Proofs.Ytkdedagilaaldaa.Us
