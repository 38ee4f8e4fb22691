/-
  What each call of package usec answers, for all arguments that are int64s: the contracts.
-/
import Derived.Test.YtkdedagilaaldaaRows
import Derived.Test.YtkdedagilaaldaaUsecPlain
import Derived.WalkKit
import Derived.WalkSpells
import Derived.WalkLawsBesides
import Derived.Deep.QuietTactic
import Derived.BigQuiet
import Derived.Lib.Hide
import Derived.Laws.MathBits
namespace Go.Proofs.Ytkdedagilaaldaa.Us
open Go.RowKit

theorem ret_int {k : IntKind} {a b : Int} (h : a = b) : Ending.returned (.int k a) = .returned (.int k b) := by rw [h]

theorem ret_two {k l : IntKind} {a b c d : Int} (h : a = b) (h' : c = d) : Ending.returned (.tuple #[.int k a, .int l c]) = .returned (.tuple #[.int k b, .int l d]) := by rw [h, h']
theorem ret_num_bool {k : IntKind} {a b : Int} {c : Bool} (h : a = b) : Ending.returned (.tuple #[.int k a, .bool c]) = .returned (.tuple #[.int k b, .bool c]) := by rw [h]

set_option maxHeartbeats 400000 in
theorem sign_any (n : Int) (w : World) (h : -9223372036854775808 ≤ n ∧ n ≤ 9223372036854775807) :
    Calls Try.prog 22 #[.int .i64 n] w fun e w' => e = .returned (.int .u64 (sg n)) ∧ w = w' := by
  have H := Lib.hid (sg_shift n h)
  go_enter Try.func22, Try.ntmps22
  go_wp2
  go_ret
  exact ⟨by rw [← H.out]; rfl, rfl⟩


set_option maxHeartbeats 400000 in
theorem size_any (n : Int) (w : World) (h : -9223372036854775808 ≤ n ∧ n ≤ 9223372036854775807) :
    Calls Try.prog 24 #[.int .i64 n] w fun e w' => e = .returned (.int .u64 (n.natAbs : Int)) ∧ w = w' := by
  by_cases hn : n < 0
  · have hs : (sg n == 1) = true := by rw [sg_yes hn]; rfl
    have e : IntKind.u64.wrap (-(IntKind.u64.wrap n)) = (n.natAbs : Int) := by
      simp only [IntKind.wrap, IntKind.bits, IntKind.signed]; simp; omega
    have H := Lib.hid e; clear e
    go_enter Try.func24, Try.ntmps24
    go_wp2_with (go_at_call 22; refine (sign_any _ _ h).mono ?_; rintro e w' ⟨rfl, rfl⟩)
    go_ret
    exact ⟨ret_int H.out, rfl⟩
  · have hs : (sg n == 1) = false := by rw [sg_no hn]; rfl
    go_enter Try.func24, Try.ntmps24
    go_wp2_with (go_at_call 22; refine (sign_any _ _ h).mono ?_; rintro e w' ⟨rfl, rfl⟩)
    go_ret
    exact ⟨ret_int (by omega), rfl⟩

set_option maxHeartbeats 400000 in
theorem add_yes (a b : Int) (w : World) (ha : -9223372036854775808 ≤ a ∧ a ≤ 9223372036854775807) (hb : -9223372036854775808 ≤ b ∧ b ≤ 9223372036854775807) (hf : fits (a + b) = true) :
    Calls Try.prog 10 #[.int .i64 a, .int .i64 b] w fun e w' => e = .returned (.tuple #[.int .i64 (a + b), .bool true]) ∧ w = w' := by
  have hr := of_fits hf
  have e := add_sg a b ha hb
  rw [hf, IntWalk.wrap64_in _ hr] at e
  have hs : (sg (bits .and .i64 (bits .xor .i64 a (a + b)) (bits .xor .i64 b (a + b))) == 1) = false := by rw [e]; rfl
  clear e hf
  go_enter Try.func10, Try.ntmps10
  go_wp2_with (go_at_call 22; refine (sign_any _ _ (bits_range _ _ _)).mono ?_; rintro e w' ⟨rfl, rfl⟩)
  go_ret2
  exact ⟨rfl, rfl⟩

set_option maxHeartbeats 400000 in
theorem add_no (a b : Int) (w : World) (ha : -9223372036854775808 ≤ a ∧ a ≤ 9223372036854775807) (hb : -9223372036854775808 ≤ b ∧ b ≤ 9223372036854775807) (hf : fits (a + b) = false) :
    Calls Try.prog 10 #[.int .i64 a, .int .i64 b] w fun e w' => e = .returned (.tuple #[.int .i64 0, .bool false]) ∧ w = w' := by
  have e := add_sg a b ha hb
  have hs : (sg (bits .and .i64 (bits .xor .i64 a (wrap64 (a + b))) (bits .xor .i64 b (wrap64 (a + b)))) == 1) = true := by rw [e, hf]; rfl
  clear e hf
  go_enter Try.func10, Try.ntmps10
  go_wp2_with (go_at_call 22; refine (sign_any _ _ (bits_range _ _ _)).mono ?_; rintro e w' ⟨rfl, rfl⟩)
  go_ret2
  exact ⟨rfl, rfl⟩

theorem add_any (a b : Int) (w : World) (ha : -9223372036854775808 ≤ a ∧ a ≤ 9223372036854775807) (hb : -9223372036854775808 ≤ b ∧ b ≤ 9223372036854775807) :
    Calls Try.prog 10 #[.int .i64 a, .int .i64 b] w fun e w' => e = .returned (.tuple #[.int .i64 (fit (a + b)), .bool (fits (a + b))]) ∧ w = w' := by
  cases hf : fits (a + b)
  · rw [show fit (a + b) = 0 by unfold fit; rw [hf]; rfl]; exact add_no a b w ha hb hf
  · rw [show fit (a + b) = a + b by unfold fit; rw [hf]; rfl]; exact add_yes a b w ha hb hf

set_option maxHeartbeats 400000 in
theorem sub_yes (a b : Int) (w : World) (ha : -9223372036854775808 ≤ a ∧ a ≤ 9223372036854775807) (hb : -9223372036854775808 ≤ b ∧ b ≤ 9223372036854775807) (hf : fits (a - b) = true) :
    Calls Try.prog 11 #[.int .i64 a, .int .i64 b] w fun e w' => e = .returned (.tuple #[.int .i64 (a - b), .bool true]) ∧ w = w' := by
  have hr := of_fits hf
  have e := sub_sg a b ha hb
  rw [hf, IntWalk.wrap64_in _ hr] at e
  have hs : (sg (bits .and .i64 (bits .xor .i64 a b) (bits .xor .i64 a (a - b))) == 1) = false := by rw [e]; rfl
  clear e hf
  go_enter Try.func11, Try.ntmps11
  go_wp2_with (go_at_call 22; refine (sign_any _ _ (bits_range _ _ _)).mono ?_; rintro e w' ⟨rfl, rfl⟩)
  go_ret2
  exact ⟨rfl, rfl⟩

set_option maxHeartbeats 400000 in
theorem sub_no (a b : Int) (w : World) (ha : -9223372036854775808 ≤ a ∧ a ≤ 9223372036854775807) (hb : -9223372036854775808 ≤ b ∧ b ≤ 9223372036854775807) (hf : fits (a - b) = false) :
    Calls Try.prog 11 #[.int .i64 a, .int .i64 b] w fun e w' => e = .returned (.tuple #[.int .i64 0, .bool false]) ∧ w = w' := by
  have e := sub_sg a b ha hb
  have hs : (sg (bits .and .i64 (bits .xor .i64 a b) (bits .xor .i64 a (wrap64 (a - b)))) == 1) = true := by rw [e, hf]; rfl
  clear e hf
  go_enter Try.func11, Try.ntmps11
  go_wp2_with (go_at_call 22; refine (sign_any _ _ (bits_range _ _ _)).mono ?_; rintro e w' ⟨rfl, rfl⟩)
  go_ret2
  exact ⟨rfl, rfl⟩

theorem sub_any (a b : Int) (w : World) (ha : -9223372036854775808 ≤ a ∧ a ≤ 9223372036854775807) (hb : -9223372036854775808 ≤ b ∧ b ≤ 9223372036854775807) :
    Calls Try.prog 11 #[.int .i64 a, .int .i64 b] w fun e w' => e = .returned (.tuple #[.int .i64 (fit (a - b)), .bool (fits (a - b))]) ∧ w = w' := by
  cases hf : fits (a - b)
  · rw [show fit (a - b) = 0 by unfold fit; rw [hf]; rfl]; exact sub_no a b w ha hb hf
  · rw [show fit (a - b) = a - b by unfold fit; rw [hf]; rfl]; exact sub_yes a b w ha hb hf

set_option maxHeartbeats 400000 in
theorem clamp_low (a l h : Int) (w : World) (hl : a < l) :
    Calls Try.prog 20 #[.int .i64 a, .int .i64 l, .int .i64 h] w fun e w' => e = .returned (.int .i64 l) ∧ w = w' := by
  go_enter Try.func20, Try.ntmps20
  go_wp2
  go_ret
  exact ⟨rfl, rfl⟩

set_option maxHeartbeats 400000 in
theorem clamp_high (a l h : Int) (w : World) (hl : ¬ a < l) (hh : h < a) :
    Calls Try.prog 20 #[.int .i64 a, .int .i64 l, .int .i64 h] w fun e w' => e = .returned (.int .i64 h) ∧ w = w' := by
  go_enter Try.func20, Try.ntmps20
  go_wp2
  go_ret
  exact ⟨rfl, rfl⟩

set_option maxHeartbeats 400000 in
theorem clamp_mid (a l h : Int) (w : World) (hl : ¬ a < l) (hh : ¬ h < a) :
    Calls Try.prog 20 #[.int .i64 a, .int .i64 l, .int .i64 h] w fun e w' => e = .returned (.int .i64 a) ∧ w = w' := by
  go_enter Try.func20, Try.ntmps20
  go_wp2
  go_ret
  exact ⟨rfl, rfl⟩

/-- What Clamp is. -/
def clampV (a l h : Int) : Int := if a < l then l else if h < a then h else a
theorem clamp_any (a l h : Int) (w : World) :
    Calls Try.prog 20 #[.int .i64 a, .int .i64 l, .int .i64 h] w fun e w' => e = .returned (.int .i64 (clampV a l h)) ∧ w = w' := by
  unfold clampV
  split
  · exact clamp_low a l h w ‹_›
  · split
    · exact clamp_high a l h w ‹_› ‹_›
    · exact clamp_mid a l h w ‹_› ‹_›


theorem sign_yes (n : Int) (w : World) (h : -9223372036854775808 ≤ n ∧ n ≤ 9223372036854775807) (hn : n < 0) :
    Calls Try.prog 22 #[.int .i64 n] w fun e w' => e = .returned (.int .u64 1) ∧ w = w' := by
  have := sign_any n w h; rw [sg_yes hn] at this; exact this
theorem sign_no (n : Int) (w : World) (h : -9223372036854775808 ≤ n ∧ n ≤ 9223372036854775807) (hn : ¬ n < 0) :
    Calls Try.prog 22 #[.int .i64 n] w fun e w' => e = .returned (.int .u64 0) ∧ w = w' := by
  have := sign_any n w h; rw [sg_no hn] at this; exact this

/-- The low half of a word. -/
theorem low32 (x : Int) : bits .and .u64 x 4294967295 = x % 4294967296 := by
  have e1 : (BitVec.ofInt 64 x).toNat = (x % 18446744073709551616).toNat := by rw [BitVec.toNat_ofInt]; rfl
  have e2 : (BitVec.ofInt 64 (4294967295 : Int)).toNat = 2 ^ 32 - 1 := by decide
  show IntKind.u64.wrap ((BitVec.ofInt 64 x &&& BitVec.ofInt 64 (4294967295 : Int)).toNat : Int) = _
  rw [BitVec.toNat_and, e1, e2, Nat.and_two_pow_sub_one_eq_mod, IntKind.wrap_u64]
  omega

set_option maxHeartbeats 1000000 in
theorem mul64_any (x y : Int) (w : World) (hx0 : 0 ≤ x) (hx : x < 18446744073709551616) (hy0 : 0 ≤ y) (hy : y < 18446744073709551616) :
    Calls Try.prog 23 #[.int .u64 x, .int .u64 y] w fun e w' => e = .returned (.tuple #[.int .u64 (x * y / 18446744073709551616), .int .u64 (x * y % 18446744073709551616)]) ∧ w = w' := by
  have H := Lib.hid (mul64_arith x y hx0 hx hy0 hy)
  clear hx0 hx hy0 hy
  go_enter Try.func23, Try.ntmps23
  go_wp2
  simp only [low32, IntKind.wrap_u64]
  go_ret2
  exact ⟨ret_two H.out rfl, rfl⟩

theorem mul64_small (x y p : Nat) (w : World) (hp : x * y = p) (h : p < 18446744073709551616) (hx : x < 18446744073709551616) (hy : y < 18446744073709551616) :
    Calls Try.prog 23 #[.int .u64 x, .int .u64 y] w fun e w' => e = .returned (.tuple #[.int .u64 0, .int .u64 p]) ∧ w = w' := by
  have c := mul64_any x y w (by omega) (by omega) (by omega) (by omega)
  have e : (x : Int) * (y : Int) = (p : Int) := by rw [← hp]; exact (Int.natCast_mul x y).symm
  rw [e, show (p : Int) / 18446744073709551616 = 0 by omega, show (p : Int) % 18446744073709551616 = p by omega] at c
  exact c

theorem mul64_great (x y p : Nat) (w : World) (hp : x * y = p) (hx : x < 18446744073709551616) (hy : y < 18446744073709551616) :
    Calls Try.prog 23 #[.int .u64 x, .int .u64 y] w fun e w' => e = .returned (.tuple #[.int .u64 ((p : Int) / 18446744073709551616), .int .u64 ((p : Int) % 18446744073709551616)]) ∧ w = w' := by
  have c := mul64_any x y w (by omega) (by omega) (by omega) (by omega)
  have e : (x : Int) * (y : Int) = (p : Int) := by rw [← hp]; exact (Int.natCast_mul x y).symm
  rw [e] at c
  exact c

/-- A product's size, and its sign. -/
theorem mul_sign (a b : Int) : ((a.natAbs * b.natAbs : Nat) : Int) = if (a < 0 ↔ b < 0) then a * b else - (a * b) := by
  rw [← Int.natAbs_mul]
  by_cases h1 : a < 0 <;> by_cases h2 : b < 0 <;> simp only [h1, h2, if_true, if_false, iff_true, true_iff, iff_self]
  · have := Int.mul_nonneg_of_nonpos_of_nonpos (Int.le_of_lt h1) (Int.le_of_lt h2); omega
  · have := Int.mul_nonpos_of_nonpos_of_nonneg (Int.le_of_lt h1) (Int.not_lt.1 h2); omega
  · have := Int.mul_nonpos_of_nonneg_of_nonpos (Int.not_lt.1 h1) (Int.le_of_lt h2); omega
  · have := Int.mul_nonneg (Int.not_lt.1 h1) (Int.not_lt.1 h2); omega

set_option maxHeartbeats 400000 in
theorem mul_yes_minus (a b : Int) (w : World) (ha : -9223372036854775808 ≤ a ∧ a ≤ 9223372036854775807) (hb : -9223372036854775808 ≤ b ∧ b ≤ 9223372036854775807)
    (hs : ¬ (a < 0 ↔ b < 0)) (hf : fits (a * b) = true) :
    Calls Try.prog 12 #[.int .i64 a, .int .i64 b] w fun e w' => e = .returned (.tuple #[.int .i64 (a * b), .bool true]) ∧ w = w' := by
  have hr := of_fits hf
  have e := mul_sign a b
  rw [if_neg hs] at e
  have hx := (xor_neg a b ha hb).2 hs
  obtain ⟨p, hp⟩ : ∃ p, a.natAbs * b.natAbs = p := ⟨_, rfl⟩
  rw [hp] at e
  have hp1 : p ≤ 9223372036854775808 := by omega
  have k1 : wrap64 (IntKind.u64.wrap (-(p : Int))) = a * b := by
    rw [IntKind.wrap_u64]; unfold wrap64; omega
  have HP := Lib.hid hp; have HK := Lib.hid k1; have HX := Lib.hid hx
  clear hp k1 e hr hs hf hx
  go_enter Try.func12, Try.ntmps12
  go_wp2_with fail
  refine (sign_yes _ _ (bits_range _ _ _) HX.out).mono ?_; rintro e w' ⟨rfl, rfl⟩
  go_wp2_with fail
  refine (size_any _ _ ha).mono ?_; rintro e w' ⟨rfl, rfl⟩
  go_wp2_with fail
  refine (size_any _ _ hb).mono ?_; rintro e w' ⟨rfl, rfl⟩
  go_wp2_with fail
  refine (mul64_small _ _ p _ HP.out (by omega) (by omega) (by omega)).mono ?_; rintro e w' ⟨rfl, rfl⟩
  go_wp2_with fail
  go_ret2
  exact ⟨ret_num_bool HK.out, rfl⟩


set_option maxHeartbeats 400000 in
theorem mul_yes_plus (a b : Int) (w : World) (ha : -9223372036854775808 ≤ a ∧ a ≤ 9223372036854775807) (hb : -9223372036854775808 ≤ b ∧ b ≤ 9223372036854775807)
    (hs : (a < 0 ↔ b < 0)) (hf : fits (a * b) = true) :
    Calls Try.prog 12 #[.int .i64 a, .int .i64 b] w fun e w' => e = .returned (.tuple #[.int .i64 (a * b), .bool true]) ∧ w = w' := by
  have hr := of_fits hf
  have e := mul_sign a b
  rw [if_pos hs] at e
  have hx := fun h : bits .xor .i64 a b < 0 => (xor_neg a b ha hb).1 h hs
  obtain ⟨p, hp⟩ : ∃ p, a.natAbs * b.natAbs = p := ⟨_, rfl⟩
  rw [hp] at e
  have hp1 : p ≤ 9223372036854775807 := by omega
  have k1 : (p : Int) = a * b := by omega
  have HP := Lib.hid hp; have HK := Lib.hid k1; have HX := Lib.hid hx
  clear hp k1 e hr hs hf hx
  go_enter Try.func12, Try.ntmps12
  go_wp2_with fail
  refine (sign_no _ _ (bits_range _ _ _) HX.out).mono ?_; rintro e w' ⟨rfl, rfl⟩
  go_wp2_with fail
  refine (size_any _ _ ha).mono ?_; rintro e w' ⟨rfl, rfl⟩
  go_wp2_with fail
  refine (size_any _ _ hb).mono ?_; rintro e w' ⟨rfl, rfl⟩
  go_wp2_with fail
  refine (mul64_small _ _ p _ HP.out (by omega) (by omega) (by omega)).mono ?_; rintro e w' ⟨rfl, rfl⟩
  go_wp2_with fail
  go_ret2
  exact ⟨ret_num_bool HK.out, rfl⟩

set_option maxHeartbeats 400000 in
theorem mul_no_minus_low (a b : Int) (w : World) (ha : -9223372036854775808 ≤ a ∧ a ≤ 9223372036854775807) (hb : -9223372036854775808 ≤ b ∧ b ≤ 9223372036854775807)
    (hs : ¬ (a < 0 ↔ b < 0)) (hf : fits (a * b) = false) (hg : a.natAbs * b.natAbs < 18446744073709551616) :
    Calls Try.prog 12 #[.int .i64 a, .int .i64 b] w fun e w' => e = .returned (.tuple #[.int .i64 0, .bool false]) ∧ w = w' := by
  have hr := of_not_fits hf
  have e := mul_sign a b
  rw [if_neg hs] at e
  have hx := (xor_neg a b ha hb).2 hs
  obtain ⟨p, hp⟩ : ∃ p, a.natAbs * b.natAbs = p := ⟨_, rfl⟩
  rw [hp] at e
  rw [hp] at hg
  have hp1 : 9223372036854775809 ≤ p := by omega
  have HP := Lib.hid hp; have HX := Lib.hid hx
  clear hp e hr hs hf hx
  go_enter Try.func12, Try.ntmps12
  go_wp2_with fail
  refine (sign_yes _ _ (bits_range _ _ _) HX.out).mono ?_; rintro e w' ⟨rfl, rfl⟩
  go_wp2_with fail
  refine (size_any _ _ ha).mono ?_; rintro e w' ⟨rfl, rfl⟩
  go_wp2_with fail
  refine (size_any _ _ hb).mono ?_; rintro e w' ⟨rfl, rfl⟩
  go_wp2_with fail
  refine (mul64_small _ _ p _ HP.out (by omega) (by omega) (by omega)).mono ?_; rintro e w' ⟨rfl, rfl⟩
  go_wp2_with fail
  go_ret2
  exact ⟨rfl, rfl⟩

set_option maxHeartbeats 400000 in
theorem mul_no_minus_high (a b : Int) (w : World) (ha : -9223372036854775808 ≤ a ∧ a ≤ 9223372036854775807) (hb : -9223372036854775808 ≤ b ∧ b ≤ 9223372036854775807)
    (hs : ¬ (a < 0 ↔ b < 0)) (hf : fits (a * b) = false) (hg : ¬ a.natAbs * b.natAbs < 18446744073709551616) :
    Calls Try.prog 12 #[.int .i64 a, .int .i64 b] w fun e w' => e = .returned (.tuple #[.int .i64 0, .bool false]) ∧ w = w' := by
  have hr := of_not_fits hf
  have e := mul_sign a b
  rw [if_neg hs] at e
  have hx := (xor_neg a b ha hb).2 hs
  obtain ⟨p, hp⟩ : ∃ p, a.natAbs * b.natAbs = p := ⟨_, rfl⟩
  rw [hp] at e
  rw [hp] at hg
  have hq : ((p : Int) / 18446744073709551616 != 0) = true := by rw [bne_iff_ne]; omega
  have HP := Lib.hid hp; have HX := Lib.hid hx
  clear hp e hr hs hf hx hg
  go_enter Try.func12, Try.ntmps12
  go_wp2_with fail
  refine (sign_yes _ _ (bits_range _ _ _) HX.out).mono ?_; rintro e w' ⟨rfl, rfl⟩
  go_wp2_with fail
  refine (size_any _ _ ha).mono ?_; rintro e w' ⟨rfl, rfl⟩
  go_wp2_with fail
  refine (size_any _ _ hb).mono ?_; rintro e w' ⟨rfl, rfl⟩
  go_wp2_with fail
  refine (mul64_great _ _ p _ HP.out (by omega) (by omega)).mono ?_; rintro e w' ⟨rfl, rfl⟩
  go_wp2_with fail
  go_ret2
  exact ⟨rfl, rfl⟩

set_option maxHeartbeats 400000 in
theorem mul_no_plus_low (a b : Int) (w : World) (ha : -9223372036854775808 ≤ a ∧ a ≤ 9223372036854775807) (hb : -9223372036854775808 ≤ b ∧ b ≤ 9223372036854775807)
    (hs : (a < 0 ↔ b < 0)) (hf : fits (a * b) = false) (hg : a.natAbs * b.natAbs < 18446744073709551616) :
    Calls Try.prog 12 #[.int .i64 a, .int .i64 b] w fun e w' => e = .returned (.tuple #[.int .i64 0, .bool false]) ∧ w = w' := by
  have hr := of_not_fits hf
  have e := mul_sign a b
  rw [if_pos hs] at e
  have hx := fun h : bits .xor .i64 a b < 0 => (xor_neg a b ha hb).1 h hs
  obtain ⟨p, hp⟩ : ∃ p, a.natAbs * b.natAbs = p := ⟨_, rfl⟩
  rw [hp] at e
  rw [hp] at hg
  have hp1 : 9223372036854775808 ≤ p := by omega
  have HP := Lib.hid hp; have HX := Lib.hid hx
  clear hp e hr hs hf hx
  go_enter Try.func12, Try.ntmps12
  go_wp2_with fail
  refine (sign_no _ _ (bits_range _ _ _) HX.out).mono ?_; rintro e w' ⟨rfl, rfl⟩
  go_wp2_with fail
  refine (size_any _ _ ha).mono ?_; rintro e w' ⟨rfl, rfl⟩
  go_wp2_with fail
  refine (size_any _ _ hb).mono ?_; rintro e w' ⟨rfl, rfl⟩
  go_wp2_with fail
  refine (mul64_small _ _ p _ HP.out (by omega) (by omega) (by omega)).mono ?_; rintro e w' ⟨rfl, rfl⟩
  go_wp2_with fail
  go_ret2
  exact ⟨rfl, rfl⟩

set_option maxHeartbeats 400000 in
theorem mul_no_plus_high (a b : Int) (w : World) (ha : -9223372036854775808 ≤ a ∧ a ≤ 9223372036854775807) (hb : -9223372036854775808 ≤ b ∧ b ≤ 9223372036854775807)
    (hs : (a < 0 ↔ b < 0)) (hf : fits (a * b) = false) (hg : ¬ a.natAbs * b.natAbs < 18446744073709551616) :
    Calls Try.prog 12 #[.int .i64 a, .int .i64 b] w fun e w' => e = .returned (.tuple #[.int .i64 0, .bool false]) ∧ w = w' := by
  have hr := of_not_fits hf
  have e := mul_sign a b
  rw [if_pos hs] at e
  have hx := fun h : bits .xor .i64 a b < 0 => (xor_neg a b ha hb).1 h hs
  obtain ⟨p, hp⟩ : ∃ p, a.natAbs * b.natAbs = p := ⟨_, rfl⟩
  rw [hp] at e
  rw [hp] at hg
  have hq : ((p : Int) / 18446744073709551616 != 0) = true := by rw [bne_iff_ne]; omega
  have HP := Lib.hid hp; have HX := Lib.hid hx
  clear hp e hr hs hf hx hg
  go_enter Try.func12, Try.ntmps12
  go_wp2_with fail
  refine (sign_no _ _ (bits_range _ _ _) HX.out).mono ?_; rintro e w' ⟨rfl, rfl⟩
  go_wp2_with fail
  refine (size_any _ _ ha).mono ?_; rintro e w' ⟨rfl, rfl⟩
  go_wp2_with fail
  refine (size_any _ _ hb).mono ?_; rintro e w' ⟨rfl, rfl⟩
  go_wp2_with fail
  refine (mul64_great _ _ p _ HP.out (by omega) (by omega)).mono ?_; rintro e w' ⟨rfl, rfl⟩
  go_wp2_with fail
  go_ret2
  exact ⟨rfl, rfl⟩

theorem mul_any (a b : Int) (w : World) (ha : -9223372036854775808 ≤ a ∧ a ≤ 9223372036854775807) (hb : -9223372036854775808 ≤ b ∧ b ≤ 9223372036854775807) :
    Calls Try.prog 12 #[.int .i64 a, .int .i64 b] w fun e w' => e = .returned (.tuple #[.int .i64 (fit (a * b)), .bool (fits (a * b))]) ∧ w = w' := by
  cases hf : fits (a * b)
  · rw [show fit (a * b) = 0 by unfold fit; rw [hf]; rfl]
    by_cases hs : (a < 0 ↔ b < 0) <;> by_cases hg : a.natAbs * b.natAbs < 18446744073709551616
    · exact mul_no_plus_low a b w ha hb hs hf hg
    · exact mul_no_plus_high a b w ha hb hs hf hg
    · exact mul_no_minus_low a b w ha hb hs hf hg
    · exact mul_no_minus_high a b w ha hb hs hf hg
  · rw [show fit (a * b) = a * b by unfold fit; rw [hf]; rfl]
    by_cases hs : (a < 0 ↔ b < 0)
    · exact mul_yes_plus a b w ha hb hs hf
    · exact mul_yes_minus a b w ha hb hs hf

end Go.Proofs.Ytkdedagilaaldaa.Us
