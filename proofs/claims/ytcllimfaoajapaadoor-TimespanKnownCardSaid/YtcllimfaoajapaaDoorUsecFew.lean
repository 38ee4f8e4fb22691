/-
  What the calls of package usec that this program reaches answer, for all arguments that are int64s. (Made by tools/gen_few.py out of stage 1.)
-/
import Derived.Test.YtcllimfaoajapaaDoorRows
import Derived.Test.YtcllimfaoajapaaDoorUsecPlain
import Derived.WalkKit
import Derived.WalkSpells
import Derived.WalkLawsBesides
import Derived.Deep.QuietTactic
import Derived.BigQuiet
import Derived.Lib.Hide
import Derived.Laws.MathBits
namespace Go.Proofs.YtcllimfaoajapaaDoor.Us
open Go.RowKit



theorem ret_int {k : IntKind} {a b : Int} (h : a = b) : Ending.returned (.int k a) = .returned (.int k b) := by rw [h]

theorem ret_two {k l : IntKind} {a b c d : Int} (h : a = b) (h' : c = d) : Ending.returned (.tuple #[.int k a, .int l c]) = .returned (.tuple #[.int k b, .int l d]) := by rw [h, h']

theorem ret_num_bool {k : IntKind} {a b : Int} {c : Bool} (h : a = b) : Ending.returned (.tuple #[.int k a, .bool c]) = .returned (.tuple #[.int k b, .bool c]) := by rw [h]

set_option maxHeartbeats 400000 in
theorem sign_any (n : Int) (w : World) (h : -9223372036854775808 ≤ n ∧ n ≤ 9223372036854775807) :
    Calls Tryd.prog 64 #[.int .i64 n] w fun e w' => e = .returned (.int .u64 (sg n)) ∧ w = w' := by
  have H := Lib.hid (sg_shift n h)
  go_enter Tryd.func64, Tryd.ntmps64
  go_wp2
  go_ret
  exact ⟨by rw [← H.out]; rfl, rfl⟩

set_option maxHeartbeats 400000 in
theorem size_any (n : Int) (w : World) (h : -9223372036854775808 ≤ n ∧ n ≤ 9223372036854775807) :
    Calls Tryd.prog 81 #[.int .i64 n] w fun e w' => e = .returned (.int .u64 (n.natAbs : Int)) ∧ w = w' := by
  by_cases hn : n < 0
  · have hs : (sg n == 1) = true := by rw [sg_yes hn]; rfl
    have e : IntKind.u64.wrap (-(IntKind.u64.wrap n)) = (n.natAbs : Int) := by
      simp only [IntKind.wrap, IntKind.bits, IntKind.signed]; simp; omega
    have H := Lib.hid e; clear e
    go_enter Tryd.func81, Tryd.ntmps81
    go_wp2_with (go_at_call 64; refine (sign_any _ _ h).mono ?_; rintro e w' ⟨rfl, rfl⟩)
    go_ret
    exact ⟨ret_int H.out, rfl⟩
  · have hs : (sg n == 1) = false := by rw [sg_no hn]; rfl
    go_enter Tryd.func81, Tryd.ntmps81
    go_wp2_with (go_at_call 64; refine (sign_any _ _ h).mono ?_; rintro e w' ⟨rfl, rfl⟩)
    go_ret
    exact ⟨ret_int (by omega), rfl⟩

set_option maxHeartbeats 400000 in
theorem add_yes (a b : Int) (w : World) (ha : -9223372036854775808 ≤ a ∧ a ≤ 9223372036854775807) (hb : -9223372036854775808 ≤ b ∧ b ≤ 9223372036854775807) (hf : fits (a + b) = true) :
    Calls Tryd.prog 50 #[.int .i64 a, .int .i64 b] w fun e w' => e = .returned (.tuple #[.int .i64 (a + b), .bool true]) ∧ w = w' := by
  have hr := of_fits hf
  have e := add_sg a b ha hb
  rw [hf, IntWalk.wrap64_in _ hr] at e
  have hs : (sg (bits .and .i64 (bits .xor .i64 a (a + b)) (bits .xor .i64 b (a + b))) == 1) = false := by rw [e]; rfl
  clear e hf
  go_enter Tryd.func50, Tryd.ntmps50
  go_wp2_with (go_at_call 64; refine (sign_any _ _ (bits_range _ _ _)).mono ?_; rintro e w' ⟨rfl, rfl⟩)
  go_ret2
  exact ⟨rfl, rfl⟩

set_option maxHeartbeats 400000 in
theorem add_no (a b : Int) (w : World) (ha : -9223372036854775808 ≤ a ∧ a ≤ 9223372036854775807) (hb : -9223372036854775808 ≤ b ∧ b ≤ 9223372036854775807) (hf : fits (a + b) = false) :
    Calls Tryd.prog 50 #[.int .i64 a, .int .i64 b] w fun e w' => e = .returned (.tuple #[.int .i64 0, .bool false]) ∧ w = w' := by
  have e := add_sg a b ha hb
  have hs : (sg (bits .and .i64 (bits .xor .i64 a (wrap64 (a + b))) (bits .xor .i64 b (wrap64 (a + b)))) == 1) = true := by rw [e, hf]; rfl
  clear e hf
  go_enter Tryd.func50, Tryd.ntmps50
  go_wp2_with (go_at_call 64; refine (sign_any _ _ (bits_range _ _ _)).mono ?_; rintro e w' ⟨rfl, rfl⟩)
  go_ret2
  exact ⟨rfl, rfl⟩

theorem add_any (a b : Int) (w : World) (ha : -9223372036854775808 ≤ a ∧ a ≤ 9223372036854775807) (hb : -9223372036854775808 ≤ b ∧ b ≤ 9223372036854775807) :
    Calls Tryd.prog 50 #[.int .i64 a, .int .i64 b] w fun e w' => e = .returned (.tuple #[.int .i64 (fit (a + b)), .bool (fits (a + b))]) ∧ w = w' := by
  cases hf : fits (a + b)
  · rw [show fit (a + b) = 0 by unfold fit; rw [hf]; rfl]; exact add_no a b w ha hb hf
  · rw [show fit (a + b) = a + b by unfold fit; rw [hf]; rfl]; exact add_yes a b w ha hb hf

/-- What Clamp is. -/
def clampV (a l h : Int) : Int := if a < l then l else if h < a then h else a

theorem sign_yes (n : Int) (w : World) (h : -9223372036854775808 ≤ n ∧ n ≤ 9223372036854775807) (hn : n < 0) :
    Calls Tryd.prog 64 #[.int .i64 n] w fun e w' => e = .returned (.int .u64 1) ∧ w = w' := by
  have := sign_any n w h; rw [sg_yes hn] at this; exact this

theorem sign_no (n : Int) (w : World) (h : -9223372036854775808 ≤ n ∧ n ≤ 9223372036854775807) (hn : ¬ n < 0) :
    Calls Tryd.prog 64 #[.int .i64 n] w fun e w' => e = .returned (.int .u64 0) ∧ w = w' := by
  have := sign_any n w h; rw [sg_no hn] at this; exact this

/-- The low half of a word. -/
theorem low32 (x : Int) : bits .and .u64 x 4294967295 = x % 4294967296 := by
  have e1 : (BitVec.ofInt 64 x).toNat = (x % 18446744073709551616).toNat := by rw [BitVec.toNat_ofInt]; rfl
  have e2 : (BitVec.ofInt 64 (4294967295 : Int)).toNat = 2 ^ 32 - 1 := by decide
  show IntKind.u64.wrap ((BitVec.ofInt 64 x &&& BitVec.ofInt 64 (4294967295 : Int)).toNat : Int) = _
  rw [BitVec.toNat_and, e1, e2, Nat.and_two_pow_sub_one_eq_mod, IntKind.wrap_u64]
  omega

set_option maxHeartbeats 1000000 in
theorem mul64_any (x y : Int) (w : World) (hx0 : 0 ≤ x) (hx : x < 18446744073709551616) (hy0 : 0 ≤ y) (hy : y < 18446744073709551616) :
    Calls Tryd.prog 80 #[.int .u64 x, .int .u64 y] w fun e w' => e = .returned (.tuple #[.int .u64 (x * y / 18446744073709551616), .int .u64 (x * y % 18446744073709551616)]) ∧ w = w' := by
  have H := Lib.hid (mul64_arith x y hx0 hx hy0 hy)
  clear hx0 hx hy0 hy
  go_enter Tryd.func80, Tryd.ntmps80
  go_wp2
  simp only [low32, IntKind.wrap_u64]
  go_ret2
  exact ⟨ret_two H.out rfl, rfl⟩

theorem mul64_small (x y p : Nat) (w : World) (hp : x * y = p) (h : p < 18446744073709551616) (hx : x < 18446744073709551616) (hy : y < 18446744073709551616) :
    Calls Tryd.prog 80 #[.int .u64 x, .int .u64 y] w fun e w' => e = .returned (.tuple #[.int .u64 0, .int .u64 p]) ∧ w = w' := by
  have c := mul64_any x y w (by omega) (by omega) (by omega) (by omega)
  have e : (x : Int) * (y : Int) = (p : Int) := by rw [← hp]; exact (Int.natCast_mul x y).symm
  rw [e, show (p : Int) / 18446744073709551616 = 0 by omega, show (p : Int) % 18446744073709551616 = p by omega] at c
  exact c

theorem mul64_great (x y p : Nat) (w : World) (hp : x * y = p) (hx : x < 18446744073709551616) (hy : y < 18446744073709551616) :
    Calls Tryd.prog 80 #[.int .u64 x, .int .u64 y] w fun e w' => e = .returned (.tuple #[.int .u64 ((p : Int) / 18446744073709551616), .int .u64 ((p : Int) % 18446744073709551616)]) ∧ w = w' := by
  have c := mul64_any x y w (by omega) (by omega) (by omega) (by omega)
  have e : (x : Int) * (y : Int) = (p : Int) := by rw [← hp]; exact (Int.natCast_mul x y).symm
  rw [e] at c
  exact c

/-- A product's size, and its sign. -/
theorem mul_sign (a b : Int) : ((a.natAbs * b.natAbs : Nat) : Int) = if (a < 0 ↔ b < 0) then a * b else - (a * b) := by
  rw [← Int.natAbs_mul]
  by_cases h1 : a < 0 <;> by_cases h2 : b < 0 <;> simp only [h1, h2, if_true, if_false, iff_true, true_iff, iff_self]
  · have := Int.mul_nonneg_of_nonpos_of_nonpos (Int.le_of_lt h1) (Int.le_of_lt h2); omega
  · have := Int.mul_nonpos_of_nonpos_of_nonneg (Int.le_of_lt h1) (Int.not_lt.1 h2); omega
  · have := Int.mul_nonpos_of_nonneg_of_nonpos (Int.not_lt.1 h1) (Int.le_of_lt h2); omega
  · have := Int.mul_nonneg (Int.not_lt.1 h1) (Int.not_lt.1 h2); omega

set_option maxHeartbeats 400000 in
theorem mul_yes_minus (a b : Int) (w : World) (ha : -9223372036854775808 ≤ a ∧ a ≤ 9223372036854775807) (hb : -9223372036854775808 ≤ b ∧ b ≤ 9223372036854775807)
    (hs : ¬ (a < 0 ↔ b < 0)) (hf : fits (a * b) = true) :
    Calls Tryd.prog 63 #[.int .i64 a, .int .i64 b] w fun e w' => e = .returned (.tuple #[.int .i64 (a * b), .bool true]) ∧ w = w' := by
  have hr := of_fits hf
  have e := mul_sign a b
  rw [if_neg hs] at e
  have hx := (xor_neg a b ha hb).2 hs
  obtain ⟨p, hp⟩ : ∃ p, a.natAbs * b.natAbs = p := ⟨_, rfl⟩
  rw [hp] at e
  have hp1 : p ≤ 9223372036854775808 := by omega
  have k1 : wrap64 (IntKind.u64.wrap (-(p : Int))) = a * b := by
    rw [IntKind.wrap_u64]; unfold wrap64; omega
  have HP := Lib.hid hp; have HK := Lib.hid k1; have HX := Lib.hid hx
  clear hp k1 e hr hs hf hx
  go_enter Tryd.func63, Tryd.ntmps63
  go_wp2_with fail
  refine (sign_yes _ _ (bits_range _ _ _) HX.out).mono ?_; rintro e w' ⟨rfl, rfl⟩
  go_wp2_with fail
  refine (size_any _ _ ha).mono ?_; rintro e w' ⟨rfl, rfl⟩
  go_wp2_with fail
  refine (size_any _ _ hb).mono ?_; rintro e w' ⟨rfl, rfl⟩
  go_wp2_with fail
  refine (mul64_small _ _ p _ HP.out (by omega) (by omega) (by omega)).mono ?_; rintro e w' ⟨rfl, rfl⟩
  go_wp2_with fail
  go_ret2
  exact ⟨ret_num_bool HK.out, rfl⟩

set_option maxHeartbeats 400000 in
theorem mul_yes_plus (a b : Int) (w : World) (ha : -9223372036854775808 ≤ a ∧ a ≤ 9223372036854775807) (hb : -9223372036854775808 ≤ b ∧ b ≤ 9223372036854775807)
    (hs : (a < 0 ↔ b < 0)) (hf : fits (a * b) = true) :
    Calls Tryd.prog 63 #[.int .i64 a, .int .i64 b] w fun e w' => e = .returned (.tuple #[.int .i64 (a * b), .bool true]) ∧ w = w' := by
  have hr := of_fits hf
  have e := mul_sign a b
  rw [if_pos hs] at e
  have hx := fun h : bits .xor .i64 a b < 0 => (xor_neg a b ha hb).1 h hs
  obtain ⟨p, hp⟩ : ∃ p, a.natAbs * b.natAbs = p := ⟨_, rfl⟩
  rw [hp] at e
  have hp1 : p ≤ 9223372036854775807 := by omega
  have k1 : (p : Int) = a * b := by omega
  have HP := Lib.hid hp; have HK := Lib.hid k1; have HX := Lib.hid hx
  clear hp k1 e hr hs hf hx
  go_enter Tryd.func63, Tryd.ntmps63
  go_wp2_with fail
  refine (sign_no _ _ (bits_range _ _ _) HX.out).mono ?_; rintro e w' ⟨rfl, rfl⟩
  go_wp2_with fail
  refine (size_any _ _ ha).mono ?_; rintro e w' ⟨rfl, rfl⟩
  go_wp2_with fail
  refine (size_any _ _ hb).mono ?_; rintro e w' ⟨rfl, rfl⟩
  go_wp2_with fail
  refine (mul64_small _ _ p _ HP.out (by omega) (by omega) (by omega)).mono ?_; rintro e w' ⟨rfl, rfl⟩
  go_wp2_with fail
  go_ret2
  exact ⟨ret_num_bool HK.out, rfl⟩

set_option maxHeartbeats 400000 in
theorem mul_no_minus_low (a b : Int) (w : World) (ha : -9223372036854775808 ≤ a ∧ a ≤ 9223372036854775807) (hb : -9223372036854775808 ≤ b ∧ b ≤ 9223372036854775807)
    (hs : ¬ (a < 0 ↔ b < 0)) (hf : fits (a * b) = false) (hg : a.natAbs * b.natAbs < 18446744073709551616) :
    Calls Tryd.prog 63 #[.int .i64 a, .int .i64 b] w fun e w' => e = .returned (.tuple #[.int .i64 0, .bool false]) ∧ w = w' := by
  have hr := of_not_fits hf
  have e := mul_sign a b
  rw [if_neg hs] at e
  have hx := (xor_neg a b ha hb).2 hs
  obtain ⟨p, hp⟩ : ∃ p, a.natAbs * b.natAbs = p := ⟨_, rfl⟩
  rw [hp] at e
  rw [hp] at hg
  have hp1 : 9223372036854775809 ≤ p := by omega
  have HP := Lib.hid hp; have HX := Lib.hid hx
  clear hp e hr hs hf hx
  go_enter Tryd.func63, Tryd.ntmps63
  go_wp2_with fail
  refine (sign_yes _ _ (bits_range _ _ _) HX.out).mono ?_; rintro e w' ⟨rfl, rfl⟩
  go_wp2_with fail
  refine (size_any _ _ ha).mono ?_; rintro e w' ⟨rfl, rfl⟩
  go_wp2_with fail
  refine (size_any _ _ hb).mono ?_; rintro e w' ⟨rfl, rfl⟩
  go_wp2_with fail
  refine (mul64_small _ _ p _ HP.out (by omega) (by omega) (by omega)).mono ?_; rintro e w' ⟨rfl, rfl⟩
  go_wp2_with fail
  go_ret2
  exact ⟨rfl, rfl⟩

set_option maxHeartbeats 400000 in
theorem mul_no_minus_high (a b : Int) (w : World) (ha : -9223372036854775808 ≤ a ∧ a ≤ 9223372036854775807) (hb : -9223372036854775808 ≤ b ∧ b ≤ 9223372036854775807)
    (hs : ¬ (a < 0 ↔ b < 0)) (hf : fits (a * b) = false) (hg : ¬ a.natAbs * b.natAbs < 18446744073709551616) :
    Calls Tryd.prog 63 #[.int .i64 a, .int .i64 b] w fun e w' => e = .returned (.tuple #[.int .i64 0, .bool false]) ∧ w = w' := by
  have hr := of_not_fits hf
  have e := mul_sign a b
  rw [if_neg hs] at e
  have hx := (xor_neg a b ha hb).2 hs
  obtain ⟨p, hp⟩ : ∃ p, a.natAbs * b.natAbs = p := ⟨_, rfl⟩
  rw [hp] at e
  rw [hp] at hg
  have hq : ((p : Int) / 18446744073709551616 != 0) = true := by rw [bne_iff_ne]; omega
  have HP := Lib.hid hp; have HX := Lib.hid hx
  clear hp e hr hs hf hx hg
  go_enter Tryd.func63, Tryd.ntmps63
  go_wp2_with fail
  refine (sign_yes _ _ (bits_range _ _ _) HX.out).mono ?_; rintro e w' ⟨rfl, rfl⟩
  go_wp2_with fail
  refine (size_any _ _ ha).mono ?_; rintro e w' ⟨rfl, rfl⟩
  go_wp2_with fail
  refine (size_any _ _ hb).mono ?_; rintro e w' ⟨rfl, rfl⟩
  go_wp2_with fail
  refine (mul64_great _ _ p _ HP.out (by omega) (by omega)).mono ?_; rintro e w' ⟨rfl, rfl⟩
  go_wp2_with fail
  go_ret2
  exact ⟨rfl, rfl⟩

set_option maxHeartbeats 400000 in
theorem mul_no_plus_low (a b : Int) (w : World) (ha : -9223372036854775808 ≤ a ∧ a ≤ 9223372036854775807) (hb : -9223372036854775808 ≤ b ∧ b ≤ 9223372036854775807)
    (hs : (a < 0 ↔ b < 0)) (hf : fits (a * b) = false) (hg : a.natAbs * b.natAbs < 18446744073709551616) :
    Calls Tryd.prog 63 #[.int .i64 a, .int .i64 b] w fun e w' => e = .returned (.tuple #[.int .i64 0, .bool false]) ∧ w = w' := by
  have hr := of_not_fits hf
  have e := mul_sign a b
  rw [if_pos hs] at e
  have hx := fun h : bits .xor .i64 a b < 0 => (xor_neg a b ha hb).1 h hs
  obtain ⟨p, hp⟩ : ∃ p, a.natAbs * b.natAbs = p := ⟨_, rfl⟩
  rw [hp] at e
  rw [hp] at hg
  have hp1 : 9223372036854775808 ≤ p := by omega
  have HP := Lib.hid hp; have HX := Lib.hid hx
  clear hp e hr hs hf hx
  go_enter Tryd.func63, Tryd.ntmps63
  go_wp2_with fail
  refine (sign_no _ _ (bits_range _ _ _) HX.out).mono ?_; rintro e w' ⟨rfl, rfl⟩
  go_wp2_with fail
  refine (size_any _ _ ha).mono ?_; rintro e w' ⟨rfl, rfl⟩
  go_wp2_with fail
  refine (size_any _ _ hb).mono ?_; rintro e w' ⟨rfl, rfl⟩
  go_wp2_with fail
  refine (mul64_small _ _ p _ HP.out (by omega) (by omega) (by omega)).mono ?_; rintro e w' ⟨rfl, rfl⟩
  go_wp2_with fail
  go_ret2
  exact ⟨rfl, rfl⟩

set_option maxHeartbeats 400000 in
theorem mul_no_plus_high (a b : Int) (w : World) (ha : -9223372036854775808 ≤ a ∧ a ≤ 9223372036854775807) (hb : -9223372036854775808 ≤ b ∧ b ≤ 9223372036854775807)
    (hs : (a < 0 ↔ b < 0)) (hf : fits (a * b) = false) (hg : ¬ a.natAbs * b.natAbs < 18446744073709551616) :
    Calls Tryd.prog 63 #[.int .i64 a, .int .i64 b] w fun e w' => e = .returned (.tuple #[.int .i64 0, .bool false]) ∧ w = w' := by
  have hr := of_not_fits hf
  have e := mul_sign a b
  rw [if_pos hs] at e
  have hx := fun h : bits .xor .i64 a b < 0 => (xor_neg a b ha hb).1 h hs
  obtain ⟨p, hp⟩ : ∃ p, a.natAbs * b.natAbs = p := ⟨_, rfl⟩
  rw [hp] at e
  rw [hp] at hg
  have hq : ((p : Int) / 18446744073709551616 != 0) = true := by rw [bne_iff_ne]; omega
  have HP := Lib.hid hp; have HX := Lib.hid hx
  clear hp e hr hs hf hx hg
  go_enter Tryd.func63, Tryd.ntmps63
  go_wp2_with fail
  refine (sign_no _ _ (bits_range _ _ _) HX.out).mono ?_; rintro e w' ⟨rfl, rfl⟩
  go_wp2_with fail
  refine (size_any _ _ ha).mono ?_; rintro e w' ⟨rfl, rfl⟩
  go_wp2_with fail
  refine (size_any _ _ hb).mono ?_; rintro e w' ⟨rfl, rfl⟩
  go_wp2_with fail
  refine (mul64_great _ _ p _ HP.out (by omega) (by omega)).mono ?_; rintro e w' ⟨rfl, rfl⟩
  go_wp2_with fail
  go_ret2
  exact ⟨rfl, rfl⟩

theorem mul_any (a b : Int) (w : World) (ha : -9223372036854775808 ≤ a ∧ a ≤ 9223372036854775807) (hb : -9223372036854775808 ≤ b ∧ b ≤ 9223372036854775807) :
    Calls Tryd.prog 63 #[.int .i64 a, .int .i64 b] w fun e w' => e = .returned (.tuple #[.int .i64 (fit (a * b)), .bool (fits (a * b))]) ∧ w = w' := by
  cases hf : fits (a * b)
  · rw [show fit (a * b) = 0 by unfold fit; rw [hf]; rfl]
    by_cases hs : (a < 0 ↔ b < 0) <;> by_cases hg : a.natAbs * b.natAbs < 18446744073709551616
    · exact mul_no_plus_low a b w ha hb hs hf hg
    · exact mul_no_plus_high a b w ha hb hs hf hg
    · exact mul_no_minus_low a b w ha hb hs hf hg
    · exact mul_no_minus_high a b w ha hb hs hf hg
  · rw [show fit (a * b) = a * b by unfold fit; rw [hf]; rfl]
    by_cases hs : (a < 0 ↔ b < 0)
    · exact mul_yes_plus a b w ha hb hs hf
    · exact mul_yes_minus a b w ha hb hs hf



theorem ret_three {k l : IntKind} {a b c d : Int} {x : Bool} (h : a = b) (h' : c = d) : Ending.returned (.tuple #[.int k a, .int l c, .bool x]) = .returned (.tuple #[.int k b, .int l d, .bool x]) := by rw [h, h']

/-- What Later is. -/
def laterV (t s : Int) : Int := if t = 9223372036854775807 ∨ s = 9223372036854775807 then 9223372036854775807 else if fits (t + max s 0) then t + max s 0 else 9223372036854775807

set_option maxHeartbeats 400000 in
theorem later_first (s : Int) (w : World) :
    Calls Tryd.prog 30 #[.int .i64 9223372036854775807, .int .i64 s] w fun e w' => e = .returned (.int .i64 9223372036854775807) ∧ w = w' := by
  go_enter Tryd.func30, Tryd.ntmps30
  go_wp2_with fail
  go_ret
  exact ⟨rfl, rfl⟩

set_option maxHeartbeats 400000 in
theorem later_second (t : Int) (w : World) (ht : (t == 9223372036854775807) = false) :
    Calls Tryd.prog 30 #[.int .i64 t, .int .i64 9223372036854775807] w fun e w' => e = .returned (.int .i64 9223372036854775807) ∧ w = w' := by
  go_enter Tryd.func30, Tryd.ntmps30
  go_wp2_with fail
  go_ret
  exact ⟨rfl, rfl⟩

set_option maxHeartbeats 400000 in
theorem later_sum (t s : Int) (w : World) (ht : -9223372036854775808 ≤ t ∧ t ≤ 9223372036854775807) (hs : -9223372036854775808 ≤ s ∧ s ≤ 9223372036854775807)
    (h1 : (t == 9223372036854775807) = false) (h2 : (s == 9223372036854775807) = false) (h3 : 0 ≤ s) (hf : fits (t + s) = true) :
    Calls Tryd.prog 30 #[.int .i64 t, .int .i64 s] w fun e w' => e = .returned (.int .i64 (t + s)) ∧ w = w' := by
  have HF := Lib.hid hf; clear hf
  go_enter Tryd.func30, Tryd.ntmps30
  go_wp2_with fail
  refine (add_yes _ _ _ ht hs HF.out).mono ?_; rintro e w' ⟨rfl, rfl⟩
  go_wp2_with fail
  go_ret
  exact ⟨rfl, rfl⟩

set_option maxHeartbeats 400000 in
theorem later_none (t s : Int) (w : World) (ht : -9223372036854775808 ≤ t ∧ t ≤ 9223372036854775807) (hs : -9223372036854775808 ≤ s ∧ s ≤ 9223372036854775807)
    (h1 : (t == 9223372036854775807) = false) (h2 : (s == 9223372036854775807) = false) (h3 : 0 ≤ s) (hf : fits (t + s) = false) :
    Calls Tryd.prog 30 #[.int .i64 t, .int .i64 s] w fun e w' => e = .returned (.int .i64 9223372036854775807) ∧ w = w' := by
  have HF := Lib.hid hf; clear hf
  go_enter Tryd.func30, Tryd.ntmps30
  go_wp2_with fail
  refine (add_no _ _ _ ht hs HF.out).mono ?_; rintro e w' ⟨rfl, rfl⟩
  go_wp2_with fail
  go_ret
  exact ⟨rfl, rfl⟩

set_option maxHeartbeats 400000 in
theorem later_below (t s : Int) (w : World) (ht : -9223372036854775808 ≤ t ∧ t ≤ 9223372036854775807) (_hs : -9223372036854775808 ≤ s ∧ s ≤ 9223372036854775807)
    (h1 : (t == 9223372036854775807) = false) (h2 : (s == 9223372036854775807) = false) (h3 : s < 0) :
    Calls Tryd.prog 30 #[.int .i64 t, .int .i64 s] w fun e w' => e = .returned (.int .i64 t) ∧ w = w' := by
  go_enter Tryd.func30, Tryd.ntmps30
  go_wp2_with fail
  refine (add_yes _ _ _ ht (by omega) (fits_yes (by omega))).mono ?_; rintro e w' ⟨rfl, rfl⟩
  go_wp2_with fail
  go_ret
  exact ⟨ret_int (by omega), rfl⟩

theorem later_any (t s : Int) (w : World) (ht : -9223372036854775808 ≤ t ∧ t ≤ 9223372036854775807) (hs : -9223372036854775808 ≤ s ∧ s ≤ 9223372036854775807) :
    Calls Tryd.prog 30 #[.int .i64 t, .int .i64 s] w fun e w' => e = .returned (.int .i64 (laterV t s)) ∧ w = w' := by
  unfold laterV
  by_cases h1 : t = 9223372036854775807
  · subst h1; rw [if_pos (.inl rfl)]; exact later_first s w
  have h1' : (t == 9223372036854775807) = false := beq_eq_false_iff_ne.2 h1
  by_cases h2 : s = 9223372036854775807
  · subst h2; rw [if_pos (.inr rfl)]; exact later_second t w h1'
  have h2' : (s == 9223372036854775807) = false := beq_eq_false_iff_ne.2 h2
  rw [if_neg (by rintro (h | h) <;> contradiction)]
  by_cases h3 : 0 ≤ s
  · rw [show max s 0 = s by omega]
    cases hf : fits (t + s)
    · exact later_none t s w ht hs h1' h2' h3 hf
    · exact later_sum t s w ht hs h1' h2' h3 hf
  · rw [show max s 0 = 0 by omega, fits_yes (by omega), show t + 0 = t by omega]
    exact later_below t s w ht hs h1' h2' (by omega)

theorem laterV_fits (t s : Int) : -9223372036854775808 ≤ laterV t s ∧ laterV t s ≤ 9223372036854775807 := by
  unfold laterV
  split
  · omega
  · split
    · exact of_fits ‹_›
    · omega

end Go.Proofs.YtcllimfaoajapaaDoor.Us
