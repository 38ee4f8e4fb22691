/-
  What clepsydraref01.Mul answers.
-/
import Derived.Test.YtkdedagilaaldaaBigPlain
import Derived.Laws.MathBits
namespace Go.Proofs.Ytkdedagilaaldaa.Us
open Go.RowKit

/-- A walk from any world of which the same is known. -/
theorem wp_world {P : Program} {c : Code} {Q : Exit → Act → World → Prop} {a : Act} {W : World} (R : World → Prop) (h : R W) (k : ∀ W, R W → Code.wp P c Q a W) : Code.wp P c Q a W := k W h
/-- Block b holds the number, block c is the answer's. -/
structure MulOut (b c : Nat) (m : Bool) (d0 d1 d2 d3 : Int) (W : World) : Prop where
  m : W.cell? ⟨b, 0, none⟩ = some (.bool m)
  d0 : W.cell? ⟨b, 1, none⟩ = some (.int .u64 d0)
  d1 : W.cell? ⟨b, 2, none⟩ = some (.int .u64 d1)
  d2 : W.cell? ⟨b, 3, none⟩ = some (.int .u64 d2)
  d3 : W.cell? ⟨b, 4, none⟩ = some (.int .u64 d3)
  d4 : W.cell? ⟨b, 5, none⟩ = some (.int .u64 0)
  c0 : W.cell? ⟨c, 0, none⟩ = some (.bool false)
  c1 : W.cell? ⟨c, 1, none⟩ = some (.int .u64 0)
  c2 : W.cell? ⟨c, 2, none⟩ = some (.int .u64 0)
  c3 : W.cell? ⟨c, 3, none⟩ = some (.int .u64 0)
  c4 : W.cell? ⟨c, 4, none⟩ = some (.int .u64 0)
  c5 : W.cell? ⟨c, 5, none⟩ = some (.int .u64 0)
  fr : ∀ o, W.frozen? ⟨c, o, none⟩ = false

set_option maxHeartbeats 4000000 in
theorem mul_big (m m' : Bool) (na nb : Int) (x y : Value) (w : World) (hx : IsBig m na x) (hy : IsBig m' nb y) (hla : na ≤ 18446744073709551615) (hlb : nb ≤ 18446744073709551615) :
    Calls Try.prog 16 #[x, y] w (GivesBig (m != m') (na * nb) w) := by
  obtain ⟨a0, a1, a2, a3, a4, ⟨ha0, ha1, ha2, ha3, ha4⟩, hna, rfl⟩ := hx
  obtain ⟨b0, b1, b2, b3, b4, ⟨hb0, hb1, hb2, hb3, hb4⟩, hnb, rfl⟩ := hy
  unfold Dg at ha0 ha1 ha2 ha3 ha4 hb0 hb1 hb2 hb3 hb4
  obtain rfl : a2 = 0 := by omega
  obtain rfl : a3 = 0 := by omega
  obtain rfl : a4 = 0 := by omega
  obtain rfl : b2 = 0 := by omega
  obtain rfl : b3 = 0 := by omega
  obtain rfl : b4 = 0 := by omega
  have q00 := prod_bound a0 b0 ha0.1 ha0.2 hb0.1 hb0.2
  have q01 := prod_bound a0 b1 ha0.1 ha0.2 hb1.1 hb1.2
  have q10 := prod_bound a1 b0 ha1.1 ha1.2 hb0.1 hb0.2
  have q11 := prod_bound a1 b1 ha1.1 ha1.2 hb1.1 hb1.2
  have hpr : na * nb = a0 * b0 + 4294967296 * (a0 * b1 + a1 * b0) + 18446744073709551616 * (a1 * b1) := by
    rw [show na = a1 * 4294967296 + a0 by omega, show nb = b1 * 4294967296 + b0 by omega, split_mul]; omega
  obtain ⟨p00, hp00⟩ : ∃ p, a0 * b0 = p := ⟨_, rfl⟩
  obtain ⟨p01, hp01⟩ : ∃ p, a0 * b1 = p := ⟨_, rfl⟩
  obtain ⟨p10, hp10⟩ : ∃ p, a1 * b0 = p := ⟨_, rfl⟩
  obtain ⟨p11, hp11⟩ : ∃ p, a1 * b1 = p := ⟨_, rfl⟩
  rw [hp00] at q00 hpr
  rw [hp01] at q01 hpr
  rw [hp10] at q10 hpr
  rw [hp11] at q11 hpr
  obtain ⟨o0, ho0⟩ : ∃ r, bits .and .u64 (p00) 4294967295 = r := ⟨_, rfl⟩
  have so0 : o0 = (p00) % 4294967296 := by rw [← ho0, low32]
  obtain ⟨c1, hc1⟩ : ∃ c, (p00) / 4294967296 = c := ⟨_, rfl⟩
  have bo0 : 0 ≤ o0 ∧ o0 ≤ 4294967295 := by omega
  have bc1 : 0 ≤ c1 ∧ c1 ≤ 4294967295 := by omega
  obtain ⟨o1, ho1⟩ : ∃ r, bits .and .u64 (p01 + c1) 4294967295 = r := ⟨_, rfl⟩
  have so1 : o1 = (p01 + c1) % 4294967296 := by rw [← ho1, low32]
  obtain ⟨c2, hc2⟩ : ∃ c, (p01 + c1) / 4294967296 = c := ⟨_, rfl⟩
  have bo1 : 0 ≤ o1 ∧ o1 ≤ 4294967295 := by omega
  have bc2 : 0 ≤ c2 ∧ c2 ≤ 4294967295 := by omega
  have lc2 : bits .and .u64 c2 4294967295 = c2 := by rw [low32]; omega
  have zc2 : c2 / 4294967296 = 0 := by omega
  obtain ⟨r1, hr1⟩ : ∃ r, bits .and .u64 (o1 + p10) 4294967295 = r := ⟨_, rfl⟩
  have sr1 : r1 = (o1 + p10) % 4294967296 := by rw [← hr1, low32]
  obtain ⟨e1, he1⟩ : ∃ c, (o1 + p10) / 4294967296 = c := ⟨_, rfl⟩
  have br1 : 0 ≤ r1 ∧ r1 ≤ 4294967295 := by omega
  have be1 : 0 ≤ e1 ∧ e1 ≤ 4294967295 := by omega
  obtain ⟨r2, hr2⟩ : ∃ r, bits .and .u64 (c2 + p11 + e1) 4294967295 = r := ⟨_, rfl⟩
  have sr2 : r2 = (c2 + p11 + e1) % 4294967296 := by rw [← hr2, low32]
  obtain ⟨e2, he2⟩ : ∃ c, (c2 + p11 + e1) / 4294967296 = c := ⟨_, rfl⟩
  have br2 : 0 ≤ r2 ∧ r2 ≤ 4294967295 := by omega
  have be2 : 0 ≤ e2 ∧ e2 ≤ 4294967295 := by omega
  have le2 : bits .and .u64 e2 4294967295 = e2 := by rw [low32]; omega
  have ze2 : e2 / 4294967296 = 0 := by omega
  have HD : Hid (Dg o0 ∧ Dg r1 ∧ Dg r2 ∧ Dg e2 ∧ Dg 0) := by unfold Hid Dg; omega
  have HV : Hid (o0 + 4294967296 * r1 + 18446744073709551616 * r2 + 79228162514264337593543950336 * e2 + 340282366920938463463374607431768211456 * 0 = na * nb) := by unfold Hid; omega
  obtain ⟨mm, hmm⟩ : ∃ k, (!(m == m')) = k := ⟨_, rfl⟩
  have HM : Hid ((m != m') = mm) := by unfold Hid; rw [← hmm]; rfl
  clear so0 so1 sr1 sr2 hna hnb hla hlb hpr
  go_enter Try.func16, Try.ntmps16
  go_wp2
  refine wp_loop_rounds 3 ?_
  rw [rounds_succ]
  go_wp2
  refine wp_loop_rounds 4 ?_
  rw [rounds_succ]
  go_wp2
  go_quiet (fail)
  go_wp2
  rw [rounds_succ]
  go_wp2
  go_quiet (fail)
  go_wp2
  rw [rounds_succ]
  go_wp2
  go_quiet (fail)
  go_wp2
  rw [rounds_succ]
  go_wp2
  rw [rounds_succ]
  go_wp2
  refine wp_loop_rounds 4 ?_
  rw [rounds_succ]
  go_wp2
  go_quiet (fail)
  go_wp2
  rw [rounds_succ]
  go_wp2
  go_quiet (fail)
  go_wp2
  rw [rounds_succ]
  go_wp2
  go_quiet (fail)
  go_wp2
  rw [rounds_succ]
  go_wp2
  rw [rounds_succ]
  refine wp_world (R := fun W => MulOut (w.heap.size + 1 + 1 + 1) (w.heap.size + 1 + 1) mm o0 r1 r2 e2 W ∧ Keeps w W) ⟨⟨?_, ?_, ?_, ?_, ?_, ?_, ?_, ?_, ?_, ?_, ?_, ?_, ?_⟩, ?_⟩ ?_
  · simp [go_sem]
  · simp [go_sem]
  · simp [go_sem]
    refine World.cell?_setCell_same _ _ _ (u := .int .u64 o1) ?_
    simp [go_sem]
  · simp [go_sem]
    refine World.cell?_setCell_same _ _ _ (u := .int .u64 c2) ?_
    simp [go_sem]
  iterate 9 (· simp [go_sem])
  · exact by repeat (first | with_reducible exact Keeps.refl _ | (with_reducible refine Keeps.setCell ?_ ?hz _; case hz => simp; omega) | with_reducible refine Keeps.drewN ?_ _ | with_reducible refine Keeps.alloc ?_ _ _)
  clear hp00 hp01 hp10 hp11 ho0 hc1 ho1 hc2 lc2 zc2 hr1 he1 hr2 he2 le2 ze2 hmm q00 q01 q10 q11 bo0 bc1 bo1 bc2 br1 be1 br2 be2 ha0 ha1 ha2 ha3 ha4 hb0 hb1 hb2 hb3 hb4
  rintro W ⟨⟨m0, e0, e1, e2', e3, e4, f0, f1, f2, f3, f4, f5, hfr⟩, hk⟩
  have HK := Lib.hid hk
  clear hk
  go_wp2
  refine bodyPost_ret (v := .agg #[.bool mm, .int .u64 o0, .int .u64 r1, .int .u64 r2, .int .u64 e2, .int .u64 0]) (by simp [results, Try.results16, go_sem, f0, f1, f2, f3, f4, f5]) rfl ⟨_, ⟨o0, r1, r2, e2, 0, HD.out, HV.out, by rw [HM.out]⟩, rfl, ?_⟩
  exact by repeat (first | with_reducible exact HK.out | (with_reducible refine Keeps.setCell ?_ ?hz _; case hz => simp; omega))

end Go.Proofs.Ytkdedagilaaldaa.Us
