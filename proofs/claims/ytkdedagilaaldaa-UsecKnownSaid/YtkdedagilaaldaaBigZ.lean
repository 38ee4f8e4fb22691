/-
  Whole numbers with their signs: what Of, Neg, Add, Mul and Fits answer; and the law's own 'is'.
-/
import Derived.Test.YtkdedagilaaldaaBigAdd
import Derived.Test.YtkdedagilaaldaaBigMul
namespace Go.Proofs.Ytkdedagilaaldaa.Us
open Go.RowKit

/-- The value is the whole number z. -/
def IsZ (z : Int) (v : Value) : Prop := ∃ m n, IsBig m n v ∧ sgd m n = z
/-- A call that answers the whole number z. -/
def GivesZ (z : Int) (w : World) (e : Ending) (w' : World) : Prop := ∃ v, IsZ z v ∧ e = .returned v ∧ Keeps w w'
theorem GivesBig.z {m : Bool} {n z : Int} {w : World} {e : Ending} {w' : World} (h : GivesBig m n w e w') (k : sgd m n = z) : GivesZ z w e w' := by
  obtain ⟨v, hv, he, hk⟩ := h
  exact ⟨v, ⟨m, n, hv, k⟩, he, hk⟩
theorem IsBig.nonneg {m : Bool} {n : Int} {v : Value} (h : IsBig m n v) : 0 ≤ n := by
  obtain ⟨d0, d1, d2, d3, d4, ⟨h0, h1, h2, h3, h4⟩, hn, _⟩ := h
  unfold Dg at h0 h1 h2 h3 h4
  omega
theorem sgd_abs {m : Bool} {n z : Int} (h0 : 0 ≤ n) (h : sgd m n = z) : n = z.natAbs := by
  unfold sgd at h
  cases m <;> simp at h <;> omega

theorem of_z (n : Int) (w : World) (h : -9223372036854775808 ≤ n ∧ n ≤ 9223372036854775807) :
    Calls Try.prog 9 #[.int .i64 n] w (GivesZ n w) :=
  (of_big n w h).mono fun _ _ g => g.z (by unfold sgd; by_cases hn : n < 0 <;> simp [hn] <;> omega)
theorem neg_z (z : Int) (x : Value) (w : World) (hx : IsZ z x) :
    Calls Try.prog 15 #[x] w (GivesZ (-z) w) := by
  obtain ⟨m, n, hb, hs⟩ := hx
  exact (neg_big m n x w hb).mono fun _ _ g => g.z (by unfold sgd at hs ⊢; cases m <;> simp at hs ⊢ <;> omega)
theorem fits_z (z : Int) (x : Value) (w : World) (hx : IsZ z x) :
    Calls Try.prog 19 #[x] w fun e w' => e = .returned (.tuple #[.int .i64 (fit z), .bool (fits z)]) ∧ Keeps w w' := by
  obtain ⟨m, n, hb, hs⟩ := hx
  have := fits_big m n x w hb
  rw [hs] at this
  exact this
theorem mul_z (y z : Int) (x x' : Value) (w : World) (hx : IsZ y x) (hx' : IsZ z x') (hy : y.natAbs ≤ 18446744073709551615) (hz : z.natAbs ≤ 18446744073709551615) :
    Calls Try.prog 16 #[x, x'] w (GivesZ (y * z) w) := by
  obtain ⟨m, n, hb, hs⟩ := hx
  obtain ⟨m', n', hb', hs'⟩ := hx'
  have e := sgd_abs hb.nonneg hs
  have e' := sgd_abs hb'.nonneg hs'
  refine (mul_big m m' n n' x x' w hb hb' (by omega) (by omega)).mono fun _ _ g => g.z ?_
  rw [← hs, ← hs']
  unfold sgd
  cases m <;> cases m' <;> simp <;> grind
theorem add_z (y z : Int) (x x' : Value) (w : World) (hx : IsZ y x) (hx' : IsZ z x') (hy : y.natAbs ≤ 340282366920938463463374607431768211456) (hz : z.natAbs ≤ 340282366920938463463374607431768211456) :
    Calls Try.prog 14 #[x, x'] w (GivesZ (y + z) w) := by
  obtain ⟨m, n, hb, hs⟩ := hx
  obtain ⟨m', n', hb', hs'⟩ := hx'
  have e := sgd_abs hb.nonneg hs
  have e' := sgd_abs hb'.nonneg hs'
  cases hm : (m == m')
  · by_cases hl : n < n'
    · refine (add_lt m m' n n' x x' w hb hb' hm hl).mono fun _ _ g => g.z ?_
      unfold sgd at hs hs' ⊢
      cases m <;> cases m' <;> simp at hm hs hs' ⊢ <;> omega
    · refine (add_geq m m' n n' x x' w hb hb' hm (by omega)).mono fun _ _ g => g.z ?_
      unfold sgd at hs hs' ⊢
      cases m <;> cases m' <;> simp at hm hs hs' ⊢ <;> omega
  · refine (add_same m m' n n' x x' w hb hb' hm (by omega)).mono fun _ _ g => g.z ?_
    unfold sgd at hs hs' ⊢
    cases m <;> cases m' <;> simp at hm hs hs' ⊢ <;> omega

set_option maxHeartbeats 400000 in
theorem is_one (z : Int) (x : Value) (w : World) (hx : IsZ z x) (hf : fits z = true) :
    Calls Try.prog 13 #[.int .i64 (fit z), .bool true, x] w fun e w' => e = .returned (.bool true) ∧ Keeps w w' := by
  have hx0 := hx
  obtain ⟨m, n, ⟨d0, d1, d2, d3, d4, hd, hn, rfl⟩, hs⟩ := hx
  have HX := Lib.hid hx0
  clear hx0 hd hn hs
  go_enter Try.func13, Try.ntmps13
  go_wp2_with fail
  refine (fits_z z _ _ HX.out).mono ?_
  rintro e w' ⟨rfl, hk⟩
  have HK := Lib.hid (show Keeps w w' from Keeps.trans ((Keeps.refl w).alloc _ _) hk)
  clear hk
  go_wp2_with fail
  go_ret
  exact ⟨rfl, HK.out⟩
set_option maxHeartbeats 400000 in
theorem is_none (z : Int) (x : Value) (w : World) (hx : IsZ z x) (hf : fits z = false) :
    Calls Try.prog 13 #[.int .i64 0, .bool false, x] w fun e w' => e = .returned (.bool true) ∧ Keeps w w' := by
  have hx0 := hx
  obtain ⟨m, n, ⟨d0, d1, d2, d3, d4, hd, hn, rfl⟩, hs⟩ := hx
  have HX := Lib.hid hx0
  clear hx0 hd hn hs
  go_enter Try.func13, Try.ntmps13
  go_wp2_with fail
  refine (fits_z z _ _ HX.out).mono ?_
  rintro e w' ⟨rfl, hk⟩
  have HK := Lib.hid (show Keeps w w' from Keeps.trans ((Keeps.refl w).alloc _ _) hk)
  clear hk
  go_wp2_with fail
  go_ret
  exact ⟨rfl, HK.out⟩
theorem is_any (z : Int) (x : Value) (w : World) (hx : IsZ z x) :
    Calls Try.prog 13 #[.int .i64 (fit z), .bool (fits z), x] w fun e w' => e = .returned (.bool true) ∧ Keeps w w' := by
  cases hf : fits z
  · rw [fit_no hf]; exact is_none z x w hx hf
  · exact is_one z x w hx hf

end Go.Proofs.Ytkdedagilaaldaa.Us
