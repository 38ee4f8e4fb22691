/-
  What clepsydraref01.less answers.
-/
import Derived.Test.YtkdedagilaaldaaBigPlain
namespace Go.Proofs.Ytkdedagilaaldaa.Us
open Go.RowKit

set_option maxHeartbeats 600000 in
theorem less_big (m m' : Bool) (na nb : Int) (x y : Value) (w : World) (hx : IsBig m na x) (hy : IsBig m' nb y) (hlt : nb ≤ na) :
    Calls Try.prog 27 #[x, y] w (GivesBig m (na - nb) w) := by
  obtain ⟨a0, a1, a2, a3, a4, ⟨ha0, ha1, ha2, ha3, ha4⟩, hna, rfl⟩ := hx
  obtain ⟨b0, b1, b2, b3, b4, ⟨hb0, hb1, hb2, hb3, hb4⟩, hnb, rfl⟩ := hy
  unfold Dg at ha0 ha1 ha2 ha3 ha4 hb0 hb1 hb2 hb3 hb4
  obtain ⟨r0, hr0⟩ : ∃ r, bits .and .u64 (a0 + 4294967296 - b0) 4294967295 = r := ⟨_, rfl⟩
  have hs0 : r0 = (a0 + 4294967296 - b0) % 4294967296 := by rw [← hr0, low32]
  obtain ⟨c1, hc1⟩ : ∃ c, 1 - (a0 + 4294967296 - b0) / 4294967296 = c := ⟨_, rfl⟩
  have bc1 : 0 ≤ c1 ∧ c1 ≤ 1 := by omega
  obtain ⟨r1, hr1⟩ : ∃ r, bits .and .u64 (a1 + 4294967296 - b1 - c1) 4294967295 = r := ⟨_, rfl⟩
  have hs1 : r1 = (a1 + 4294967296 - b1 - c1) % 4294967296 := by rw [← hr1, low32]
  obtain ⟨c2, hc2⟩ : ∃ c, 1 - (a1 + 4294967296 - b1 - c1) / 4294967296 = c := ⟨_, rfl⟩
  have bc2 : 0 ≤ c2 ∧ c2 ≤ 1 := by omega
  obtain ⟨r2, hr2⟩ : ∃ r, bits .and .u64 (a2 + 4294967296 - b2 - c2) 4294967295 = r := ⟨_, rfl⟩
  have hs2 : r2 = (a2 + 4294967296 - b2 - c2) % 4294967296 := by rw [← hr2, low32]
  obtain ⟨c3, hc3⟩ : ∃ c, 1 - (a2 + 4294967296 - b2 - c2) / 4294967296 = c := ⟨_, rfl⟩
  have bc3 : 0 ≤ c3 ∧ c3 ≤ 1 := by omega
  obtain ⟨r3, hr3⟩ : ∃ r, bits .and .u64 (a3 + 4294967296 - b3 - c3) 4294967295 = r := ⟨_, rfl⟩
  have hs3 : r3 = (a3 + 4294967296 - b3 - c3) % 4294967296 := by rw [← hr3, low32]
  obtain ⟨c4, hc4⟩ : ∃ c, 1 - (a3 + 4294967296 - b3 - c3) / 4294967296 = c := ⟨_, rfl⟩
  have bc4 : 0 ≤ c4 ∧ c4 ≤ 1 := by omega
  obtain ⟨r4, hr4⟩ : ∃ r, bits .and .u64 (a4 + 4294967296 - b4 - c4) 4294967295 = r := ⟨_, rfl⟩
  have hs4 : r4 = (a4 + 4294967296 - b4 - c4) % 4294967296 := by rw [← hr4, low32]
  obtain ⟨c5, hc5⟩ : ∃ c, 1 - (a4 + 4294967296 - b4 - c4) / 4294967296 = c := ⟨_, rfl⟩
  have bc5 : 0 ≤ c5 ∧ c5 ≤ 1 := by omega
  have HD : Hid (Dg r0 ∧ Dg r1 ∧ Dg r2 ∧ Dg r3 ∧ Dg r4) := by unfold Hid Dg; omega
  have HV : Hid (r0 + 4294967296 * r1 + 18446744073709551616 * r2 + 79228162514264337593543950336 * r3 + 340282366920938463463374607431768211456 * r4 = na - nb) := by unfold Hid; omega
  clear hs0 hs1 hs2 hs3 hs4 hna hnb hlt
  go_enter Try.func27, Try.ntmps27
  go_wp2
  refine wp_loop_rounds 6 ?_
  rw [rounds_succ]
  go_wp2
  go_quiet (fail)
  go_wp2
  rw [rounds_succ]
  go_wp2
  go_quiet (fail)
  go_wp2
  rw [rounds_succ]
  go_wp2
  go_quiet (fail)
  go_wp2
  rw [rounds_succ]
  go_wp2
  go_quiet (fail)
  go_wp2
  rw [rounds_succ]
  go_wp2
  go_quiet (fail)
  go_wp2
  rw [rounds_succ]
  go_wp2
  refine bodyPost_ret (v := .agg #[.bool m, .int .u64 r0, .int .u64 r1, .int .u64 r2, .int .u64 r3, .int .u64 r4]) (by simp [results, Try.results27, go_sem]) rfl ⟨_, ⟨r0, r1, r2, r3, r4, HD.out, HV.out, rfl⟩, rfl, ?_⟩
  exact by repeat (first | with_reducible exact Keeps.refl _ | (with_reducible refine Keeps.setCell ?_ ?hz _; case hz => simp; omega) | with_reducible refine Keeps.drewN ?_ _ | with_reducible refine Keeps.alloc ?_ _ _)

end Go.Proofs.Ytkdedagilaaldaa.Us
