/-
  The walk of the law UsecSums, by the contracts of package usec and of the document's whole numbers.
-/
import Derived.Test.YtkdedagilaaldaaUsecRulesWalk
import Derived.Test.YtkdedagilaaldaaBigZ
import Derived.Deep.RegionHeld3
namespace Go.Proofs.Ytkdedagilaaldaa.Us
open Go.RowKit

/-- The contracts from a world that keeps what a first one had. -/
theorem add_k (W u : World) (y z : Int) (x x' : Value) (hk : Keeps W u) (hx : IsZ y x) (hx' : IsZ z x') (hy : y.natAbs ≤ 340282366920938463463374607431768211456) (hz : z.natAbs ≤ 340282366920938463463374607431768211456) :
    Calls Try.prog 14 #[x, x'] u (GivesZ (y + z) W) :=
  (add_z y z x x' u hx hx' hy hz).mono fun _ _ ⟨v, hv, he, h⟩ => ⟨v, hv, he, hk.trans h⟩
theorem mul_k (W u : World) (y z : Int) (x x' : Value) (hk : Keeps W u) (hx : IsZ y x) (hx' : IsZ z x') (hy : y.natAbs ≤ 18446744073709551615) (hz : z.natAbs ≤ 18446744073709551615) :
    Calls Try.prog 16 #[x, x'] u (GivesZ (y * z) W) :=
  (mul_z y z x x' u hx hx' hy hz).mono fun _ _ ⟨v, hv, he, h⟩ => ⟨v, hv, he, hk.trans h⟩
theorem neg_k (W u : World) (z : Int) (x : Value) (hk : Keeps W u) (hx : IsZ z x) :
    Calls Try.prog 15 #[x] u (GivesZ (-z) W) :=
  (neg_z z x u hx).mono fun _ _ ⟨v, hv, he, h⟩ => ⟨v, hv, he, hk.trans h⟩
theorem is_k (W u : World) (z z' : Int) (x : Value) (hk : Keeps W u) (hx : IsZ z x) (hz : z = z') :
    Calls Try.prog 13 #[.int .i64 (fit z'), .bool (fits z'), x] u fun e w' => e = .returned (.bool true) ∧ Keeps W w' := by
  subst hz
  exact (is_any z x u hx).mono fun _ _ ⟨he, h⟩ => ⟨he, hk.trans h⟩
theorem works_k (W u : World) (hk : Keeps W u) :
    Calls Try.prog 17 #[] u fun e w' => e = .returned (.bool true) ∧ Keeps W w' :=
  (works_yes u).mono fun _ _ ⟨he, n, hn⟩ => ⟨he, by rw [hn]; exact hk.drewN n⟩

/-- Two blocks hold two whole numbers. -/
def Two (b c : Nat) (m : Bool) (a0 a1 a2 a3 a4 : Int) (m' : Bool) (b0 b1 b2 b3 b4 : Int) (W : World) : Prop :=
  (W.cell? ⟨b, 0, none⟩ = some (.bool m) ∧ W.cell? ⟨b, 1, none⟩ = some (.int .u64 a0) ∧ W.cell? ⟨b, 2, none⟩ = some (.int .u64 a1) ∧ W.cell? ⟨b, 3, none⟩ = some (.int .u64 a2) ∧ W.cell? ⟨b, 4, none⟩ = some (.int .u64 a3) ∧ W.cell? ⟨b, 5, none⟩ = some (.int .u64 a4)) ∧
  W.cell? ⟨c, 0, none⟩ = some (.bool m') ∧ W.cell? ⟨c, 1, none⟩ = some (.int .u64 b0) ∧ W.cell? ⟨c, 2, none⟩ = some (.int .u64 b1) ∧ W.cell? ⟨c, 3, none⟩ = some (.int .u64 b2) ∧ W.cell? ⟨c, 4, none⟩ = some (.int .u64 b3) ∧ W.cell? ⟨c, 5, none⟩ = some (.int .u64 b4)
theorem Two.keeps {b c : Nat} {m m' : Bool} {a0 a1 a2 a3 a4 b0 b1 b2 b3 b4 : Int} {W u : World} (h : Two b c m a0 a1 a2 a3 a4 m' b0 b1 b2 b3 b4 W) (hk : Keeps W u) :
    Two b c m a0 a1 a2 a3 a4 m' b0 b1 b2 b3 b4 u := by
  have hb := World.block_lt_of_cell? W _ h.1.1
  have hc := World.block_lt_of_cell? W _ h.2.1
  unfold Two at h ⊢
  simp only [hk.cell b _ hb, hk.cell c _ hc]
  exact h
/-- The same, written out, and the worlds between. -/
theorem Two.out {b c : Nat} {m m' : Bool} {a0 a1 a2 a3 a4 b0 b1 b2 b3 b4 : Int} {W u : World} (h : Two b c m a0 a1 a2 a3 a4 m' b0 b1 b2 b3 b4 W) (hk : Keeps W u) :
    u.cell? ⟨b, 0, none⟩ = some (.bool m) ∧ u.cell? ⟨b, 1, none⟩ = some (.int .u64 a0) ∧ u.cell? ⟨b, 2, none⟩ = some (.int .u64 a1) ∧ u.cell? ⟨b, 3, none⟩ = some (.int .u64 a2) ∧ u.cell? ⟨b, 4, none⟩ = some (.int .u64 a3) ∧ u.cell? ⟨b, 5, none⟩ = some (.int .u64 a4) ∧
    u.cell? ⟨c, 0, none⟩ = some (.bool m') ∧ u.cell? ⟨c, 1, none⟩ = some (.int .u64 b0) ∧ u.cell? ⟨c, 2, none⟩ = some (.int .u64 b1) ∧ u.cell? ⟨c, 3, none⟩ = some (.int .u64 b2) ∧ u.cell? ⟨c, 4, none⟩ = some (.int .u64 b3) ∧ u.cell? ⟨c, 5, none⟩ = some (.int .u64 b4) ∧ Keeps W u := by
  obtain ⟨⟨h0, h1, h2, h3, h4, h5⟩, k0, k1, k2, k3, k4, k5⟩ := h.keeps hk
  exact ⟨h0, h1, h2, h3, h4, h5, k0, k1, k2, k3, k4, k5, hk⟩

set_option maxRecDepth 100000 in
set_option maxHeartbeats 2000000 in
theorem sums_any (a b : Int) (w : World) (ha : -9223372036854775808 ≤ a ∧ a ≤ 9223372036854775807) (hb : -9223372036854775808 ≤ b ∧ b ≤ 9223372036854775807) :
    Calls Try.prog 3 #[.int .i64 a, .int .i64 b] w fun e w' => e = .returned (.bool true) ∧ Keeps w w' := by
  go_enter Try.func3, Try.ntmps3
  go_wp2_with fail
  refine (of_z a _ ha).mono ?_; rintro e w1 ⟨v1, hv1, rfl, hk1⟩
  have H1 := Lib.hid hv1
  obtain ⟨m, n1, ⟨a0, a1, a2, a3, a4, hd1, hn1, rfl⟩, hs1⟩ := hv1
  have K1 := Lib.hid hk1; clear hk1 hd1 hn1 hs1
  go_wp2_with fail
  refine (of_z b _ hb).mono ?_; rintro e w2 ⟨v2, hv2, rfl, hk2⟩
  have H2 := Lib.hid hv2
  obtain ⟨m', n2, ⟨b0, b1, b2, b3, b4, hd2, hn2, rfl⟩, hs2⟩ := hv2
  have K2 := Lib.hid (K1.out.trans hk2); clear hk2 hd2 hn2 hs2
  go_wp2_with fail
  refine (add_any a b _ ha hb).mono ?_; rintro e w' ⟨rfl, rfl⟩
  go_wp2_with fail
  refine (sub_any a b _ ha hb).mono ?_; rintro e w' ⟨rfl, rfl⟩
  go_wp2_with fail
  refine (mul_any a b _ ha hb).mono ?_; rintro e w' ⟨rfl, rfl⟩
  go_wp2_with fail
  refine wp_world (R := fun W => Two w2.heap.size (w2.heap.size + 1) m a0 a1 a2 a3 a4 m' b0 b1 b2 b3 b4 W ∧ Keeps w W) ⟨?_, ?_⟩ ?_
  · unfold Two; simp [go_sem]
  · exact (K2.out.alloc _ _).alloc _ _
  rintro W ⟨h2, hk⟩
  have HT := Lib.hid h2; have HK := Lib.hid hk
  have x1 := H1.out; have x2 := H2.out
  clear h2 hk H1 H2 K1 K2
  go_region_held3 (fun u => u.cell? ⟨w2.heap.size, 0, none⟩ = some (.bool m) ∧ u.cell? ⟨w2.heap.size, 1, none⟩ = some (.int .u64 a0) ∧ u.cell? ⟨w2.heap.size, 2, none⟩ = some (.int .u64 a1) ∧ u.cell? ⟨w2.heap.size, 3, none⟩ = some (.int .u64 a2) ∧ u.cell? ⟨w2.heap.size, 4, none⟩ = some (.int .u64 a3) ∧ u.cell? ⟨w2.heap.size, 5, none⟩ = some (.int .u64 a4) ∧ u.cell? ⟨w2.heap.size + 1, 0, none⟩ = some (.bool m') ∧ u.cell? ⟨w2.heap.size + 1, 1, none⟩ = some (.int .u64 b0) ∧ u.cell? ⟨w2.heap.size + 1, 2, none⟩ = some (.int .u64 b1) ∧ u.cell? ⟨w2.heap.size + 1, 3, none⟩ = some (.int .u64 b2) ∧ u.cell? ⟨w2.heap.size + 1, 4, none⟩ = some (.int .u64 b3) ∧ u.cell? ⟨w2.heap.size + 1, 5, none⟩ = some (.int .u64 b4) ∧ Keeps W u)
    (first | exact Two.out HT.out (by assumption) | exact Two.out HT.out ((Keeps.refl _).drew))
    (first
      | (go_at_call 14; (with_reducible refine (add_k W _ _ _ _ _ (by first | assumption | exact (Keeps.refl _).drew) (by assumption) (by assumption) (by omega) (by omega)).mono ?_); rintro e w' ⟨v, hv, rfl, hk⟩)
      | (go_at_call 15; (with_reducible refine (neg_k W _ _ _ (by first | assumption | exact (Keeps.refl _).drew) (by assumption)).mono ?_); rintro e w' ⟨v, hv, rfl, hk⟩)
      | (go_at_call 16; (with_reducible refine (mul_k W _ _ _ _ _ (by first | assumption | exact (Keeps.refl _).drew) (by assumption) (by assumption) (by omega) (by omega)).mono ?_); rintro e w' ⟨v, hv, rfl, hk⟩)
      | (go_at_call 13; (with_reducible refine (is_k W _ _ _ _ (by first | assumption | exact (Keeps.refl _).drew) (by assumption) (by omega)).mono ?_); rintro e w' ⟨rfl, hk⟩)
      | (go_at_call 17; (with_reducible refine (works_k W _ (by assumption)).mono ?_); rintro e w' ⟨rfl, hk⟩))
  go_wp2
  go_ret
  exact ⟨rfl, HK.out.trans (by assumption)⟩

theorem sums_walk (a b : Int) (wa : (Lit.int .i64 a).wf = true) (wb : (Lit.int .i64 b).wf = true) (w : World) :
    Calls Try.prog 3 #[.int .i64 a, .int .i64 b] w fun e w' => e = .returned (.bool true) ∧ Grown w w' :=
  (sums_any a b w (of_wf wa) (of_wf wb)).mono fun _ _ ⟨he, hk⟩ => ⟨he, hk.grown⟩

end Go.Proofs.Ytkdedagilaaldaa.Us
