/-
  The walk of the law UsecKnown, by the walks of the other laws of the layer.
-/
import Derived.Test.YtkdedagilaaldaaUsecSumsWalk
import Derived.Test.YtkdedagilaaldaaUsecClampWalk
import Derived.Test.YtkdedagilaaldaaUsecDivWalk
namespace Go.Proofs.Ytkdedagilaaldaa.Us
open Go.RowKit

theorem grown_trans {a b c : World} (h : Grown a b) (k : Grown b c) : Grown a c :=
  ⟨World.keptBut_trans h.1 k.1, fun x => (k.2.1 x).trans (h.2.1 x), Nat.le_trans h.2.2 k.2.2⟩
theorem grown_cell {W u : World} (h : Grown W u) {b o : Nat} {v : Value} (hv : W.cell? ⟨b, o, none⟩ = some v) : u.cell? ⟨b, o, none⟩ = some v := by
  rw [h.1.cell (World.block_lt_of_cell? W _ hv) (fun f => f)]; exact hv
theorem wf_of {n : Int} (h : -9223372036854775808 ≤ n ∧ n ≤ 9223372036854775807) : (Lit.int .i64 n).wf = true := WalkArith.wf_i64 h

theorem sums_g (W u : World) (a b : Int) (hg : Grown W u) (ha : -9223372036854775808 ≤ a ∧ a ≤ 9223372036854775807) (hb : -9223372036854775808 ≤ b ∧ b ≤ 9223372036854775807) :
    Calls Try.prog 3 #[.int .i64 a, .int .i64 b] u fun e w' => e = .returned (.bool true) ∧ Grown W w' :=
  (sums_walk a b (wf_of ha) (wf_of hb) u).mono fun _ _ ⟨he, h⟩ => ⟨he, grown_trans hg h⟩
theorem div_g (W u : World) (a b : Int) (hg : Grown W u) (ha : -9223372036854775808 ≤ a ∧ a ≤ 9223372036854775807) (hb : -9223372036854775808 ≤ b ∧ b ≤ 9223372036854775807) :
    Calls Try.prog 4 #[.int .i64 a, .int .i64 b] u fun e w' => e = .returned (.bool true) ∧ Grown W w' :=
  (div_walk a b (wf_of ha) (wf_of hb) u).mono fun _ _ ⟨he, h⟩ => ⟨he, grown_trans hg h⟩
theorem clamp_g (W u : World) (a b c d : Int) (hg : Grown W u) (ha : -9223372036854775808 ≤ a ∧ a ≤ 9223372036854775807) (hb : -9223372036854775808 ≤ b ∧ b ≤ 9223372036854775807)
    (hc : -9223372036854775808 ≤ c ∧ c ≤ 9223372036854775807) (hd : -9223372036854775808 ≤ d ∧ d ≤ 9223372036854775807) :
    Calls Try.prog 5 #[.int .i64 a, .int .i64 b, .int .i64 c, .int .i64 d] u fun e w' => e = .returned (.bool true) ∧ Grown W w' :=
  (clamp_walk a b c d (wf_of ha) (wf_of hb) (wf_of hc) (wf_of hd) u).mono fun _ _ ⟨he, h⟩ => ⟨he, grown_trans hg h⟩
theorem rules_g (W u : World) (a b c : Int) (hg : Grown W u) (ha : -9223372036854775808 ≤ a ∧ a ≤ 9223372036854775807) (hb : -9223372036854775808 ≤ b ∧ b ≤ 9223372036854775807)
    (hc : -9223372036854775808 ≤ c ∧ c ≤ 9223372036854775807) :
    Calls Try.prog 6 #[.int .i64 a, .int .i64 b, .int .i64 c] u fun e w' => e = .returned (.bool true) ∧ Grown W w' :=
  (rules_walk a b c (wf_of ha) (wf_of hb) (wf_of hc) u).mono fun _ _ ⟨he, h⟩ => ⟨he, grown_trans hg h⟩

/-- The twenty numbers. -/
def known20 : List Int := [0, 1, -1, 2, -2, 7, -7, 1000000, 2147483648, 4294967296, -4294967296, 3037000499, 3037000500, -3037000500, 4611686018427387904, -4611686018427387904, 9223372036854775807, 9223372036854775806, -9223372036854775808, -9223372036854775807]
def kn (j : Nat) : Int := known20.getD j 0
theorem kn_range (j : Nat) : -9223372036854775808 ≤ kn j ∧ kn j ≤ 9223372036854775807 := by
  unfold kn
  rw [List.getD_eq_getElem?_getD]
  cases h : known20[j]? with
  | none => simp
  | some x =>
    have := List.mem_of_getElem? h
    simp [known20] at this
    simp
    omega
/-- A block holds them. -/
def Holds20 (b : Nat) (W : World) : Prop := ∀ j, j < 20 → W.cell? ⟨b, j, none⟩ = some (.int .i64 (kn j))

set_option maxRecDepth 100000 in
set_option maxHeartbeats 2000000 in
theorem known_walk (w : World) :
    Calls Try.prog 7 #[] w fun e w' => e = .returned (.bool true) ∧ Grown w w' := by
  go_enter Try.func7, Try.ntmps7
  go_wp2_with fail
  refine wp_world (R := fun W => Holds20 w.heap.size W ∧ Grown w W) ⟨?_, (Grown.refl w).alloc _ _⟩ ?_
  · intro j hj
    have hj' : j = 0 ∨ j = 1 ∨ j = 2 ∨ j = 3 ∨ j = 4 ∨ j = 5 ∨ j = 6 ∨ j = 7 ∨ j = 8 ∨ j = 9 ∨ j = 10 ∨ j = 11 ∨ j = 12 ∨ j = 13 ∨ j = 14 ∨ j = 15 ∨ j = 16 ∨ j = 17 ∨ j = 18 ∨ j = 19 := by omega
    rcases hj' with rfl | rfl | rfl | rfl | rfl | rfl | rfl | rfl | rfl | rfl | rfl | rfl | rfl | rfl | rfl | rfl | rfl | rfl | rfl | rfl <;> simp [go_sem, kn, known20]
  rintro W ⟨hh, hw⟩
  have HH := Lib.hid hh; have HW := Lib.hid hw
  clear hh hw
  obtain ⟨b, hb⟩ : ∃ b, w.heap.size = b := ⟨_, rfl⟩
  rw [hb] at HH
  simp only [hb]
  clear hb
  go_loopw [2] (fun i u => ∃ k : Nat, k ≤ 20 ∧ i = .int .i64 k ∧ Grown W u) (fun i _ => 20 - (intOf i).toNat)
  case atStart => exact ⟨0, by omega, rfl, Grown.refl _⟩
  case round =>
    obtain ⟨k, hk, rfl, hg⟩ := hrel
    by_cases hlt : k < 20
    · have hk1 : (k : Int) < 20 := by omega
      have hk0 : (0 : Int) ≤ k := by omega
      go_wp2_with fail
      obtain ⟨wo, rfl⟩ : ∃ wo : World, wo = wr := ⟨_, rfl⟩
      go_loopw [3] (fun i u => ∃ q : Nat, q ≤ 20 ∧ i = .int .i64 q ∧ Grown W u) (fun i _ => 20 - (intOf i).toNat)
      case atStart => exact ⟨0, by omega, rfl, hg⟩
      case round =>
        obtain ⟨q, hq, rfl, hg2⟩ := hrel
        by_cases hlt2 : q < 20
        · have hx := grown_cell hg2 (HH.out ((k + q) % 20) (by omega))
          have hi := grown_cell hg2 (HH.out k hlt)
          have hj := grown_cell hg2 (HH.out q hlt2)
          have hq1 : (q : Int) < 20 := by omega
          have hq0 : (0 : Int) ≤ q := by omega
          go_wp2_with fail
          have K1 := kn_range k; have K2 := kn_range q; have K3 := kn_range ((k + q) % 20)
          simp only [List.append_eq, List.cons_append, List.nil_append]
          go_region_held3 (fun u => u.cell? ⟨b, k, none⟩ = some (.int .i64 (kn k)) ∧ u.cell? ⟨b, q, none⟩ = some (.int .i64 (kn q)) ∧ Grown W u)
            (first | exact ⟨hi, hj, hg2.drew⟩ | exact ⟨grown_cell (by assumption) (HH.out k hlt), grown_cell (by assumption) (HH.out q hlt2), (by assumption)⟩)
            (first
              | (go_at_call 3; (with_reducible refine (sums_g W _ _ _ (by first | assumption | exact hg2.drew) (by assumption) (by assumption)).mono ?_); rintro e w' ⟨rfl, hk⟩)
              | (go_at_call 4; (with_reducible refine (div_g W _ _ _ (by first | assumption | exact hg2.drew) (by assumption) (by assumption)).mono ?_); rintro e w' ⟨rfl, hk⟩)
              | (go_at_call 5; (with_reducible refine (clamp_g W _ _ _ _ _ (by first | assumption | exact hg2.drew) (by assumption) (by assumption) (by assumption) (by assumption)).mono ?_); rintro e w' ⟨rfl, hk⟩)
              | (go_at_call 6; (with_reducible refine (rules_g W _ _ _ _ (by first | assumption | exact hg2.drew) (by assumption) (by assumption) (by assumption)).mono ?_); rintro e w' ⟨rfl, hk⟩))
          go_wp2_with fail
          go_roundw
          case rel => exact ⟨q + 1, by omega, by go_num, by assumption⟩
          case measure => simp [intOf]; omega
        · go_wp2_with fail
          exact ⟨⟨k + 1, by omega, by go_num, hg2⟩, by simp [intOf]; omega⟩
    · go_wp2_with fail
      refine (works_yes _).mono ?_; rintro e w' ⟨rfl, n, rfl⟩
      go_wp2_with fail
      go_ret
      exact ⟨rfl, grown_trans HW.out (grown_drewN hg _)⟩

end Go.Proofs.Ytkdedagilaaldaa.Us
