/-
  What the calls of package usec that this program reaches answer, for all arguments that are int64s. (Made by tools/gen_few.py out of stage 1.)
-/
import Derived.Test.YtkfhipkcnocokaaDoorRows
import Derived.Test.YtkfhipkcnocokaaDoorUsecPlain
import Derived.WalkKit
import Derived.WalkSpells
import Derived.WalkLawsBesides
import Derived.Deep.QuietTactic
import Derived.BigQuiet
import Derived.Lib.Hide
import Derived.Laws.MathBits
namespace Go.Proofs.YtkfhipkcnocokaaDoor.Us
open Go.RowKit



theorem ret_int {k : IntKind} {a b : Int} (h : a = b) : Ending.returned (.int k a) = .returned (.int k b) := by rw [h]

theorem ret_two {k l : IntKind} {a b c d : Int} (h : a = b) (h' : c = d) : Ending.returned (.tuple #[.int k a, .int l c]) = .returned (.tuple #[.int k b, .int l d]) := by rw [h, h']

theorem ret_num_bool {k : IntKind} {a b : Int} {c : Bool} (h : a = b) : Ending.returned (.tuple #[.int k a, .bool c]) = .returned (.tuple #[.int k b, .bool c]) := by rw [h]

set_option maxHeartbeats 400000 in
theorem sign_any (n : Int) (w : World) (h : -9223372036854775808 ≤ n ∧ n ≤ 9223372036854775807) :
    Calls Tryd.prog 91 #[.int .i64 n] w fun e w' => e = .returned (.int .u64 (sg n)) ∧ w = w' := by
  have H := Lib.hid (sg_shift n h)
  go_enter Tryd.func91, Tryd.ntmps91
  go_wp2
  go_ret
  exact ⟨by rw [← H.out]; rfl, rfl⟩

/-- What Clamp is. -/
def clampV (a l h : Int) : Int := if a < l then l else if h < a then h else a

theorem sign_yes (n : Int) (w : World) (h : -9223372036854775808 ≤ n ∧ n ≤ 9223372036854775807) (hn : n < 0) :
    Calls Tryd.prog 91 #[.int .i64 n] w fun e w' => e = .returned (.int .u64 1) ∧ w = w' := by
  have := sign_any n w h; rw [sg_yes hn] at this; exact this

theorem sign_no (n : Int) (w : World) (h : -9223372036854775808 ≤ n ∧ n ≤ 9223372036854775807) (hn : ¬ n < 0) :
    Calls Tryd.prog 91 #[.int .i64 n] w fun e w' => e = .returned (.int .u64 0) ∧ w = w' := by
  have := sign_any n w h; rw [sg_no hn] at this; exact this

/-- The low half of a word. -/
theorem low32 (x : Int) : bits .and .u64 x 4294967295 = x % 4294967296 := by
  have e1 : (BitVec.ofInt 64 x).toNat = (x % 18446744073709551616).toNat := by rw [BitVec.toNat_ofInt]; rfl
  have e2 : (BitVec.ofInt 64 (4294967295 : Int)).toNat = 2 ^ 32 - 1 := by decide
  show IntKind.u64.wrap ((BitVec.ofInt 64 x &&& BitVec.ofInt 64 (4294967295 : Int)).toNat : Int) = _
  rw [BitVec.toNat_and, e1, e2, Nat.and_two_pow_sub_one_eq_mod, IntKind.wrap_u64]
  omega

/-- A product's size, and its sign. -/
theorem mul_sign (a b : Int) : ((a.natAbs * b.natAbs : Nat) : Int) = if (a < 0 ↔ b < 0) then a * b else - (a * b) := by
  rw [← Int.natAbs_mul]
  by_cases h1 : a < 0 <;> by_cases h2 : b < 0 <;> simp only [h1, h2, if_true, if_false, iff_true, true_iff, iff_self]
  · have := Int.mul_nonneg_of_nonpos_of_nonpos (Int.le_of_lt h1) (Int.le_of_lt h2); omega
  · have := Int.mul_nonpos_of_nonpos_of_nonneg (Int.le_of_lt h1) (Int.not_lt.1 h2); omega
  · have := Int.mul_nonpos_of_nonneg_of_nonpos (Int.not_lt.1 h1) (Int.le_of_lt h2); omega
  · have := Int.mul_nonneg (Int.not_lt.1 h1) (Int.not_lt.1 h2); omega



set_option maxHeartbeats 400000 in
theorem div_zero (a : Int) (w : World) :
    Calls Tryd.prog 79 #[.int .i64 a, .int .i64 0] w fun e w' => e = .returned (.tuple #[.int .i64 0, .int .i64 0, .bool false]) ∧ w = w' := by
  go_enter Tryd.func79, Tryd.ntmps79
  go_wp2_with fail
  go_ret3
  exact ⟨rfl, rfl⟩

set_option maxHeartbeats 400000 in
theorem div_least (w : World) :
    Calls Tryd.prog 79 #[.int .i64 (-9223372036854775808), .int .i64 (-1)] w fun e w' => e = .returned (.tuple #[.int .i64 0, .int .i64 0, .bool false]) ∧ w = w' := by
  go_enter Tryd.func79, Tryd.ntmps79
  go_wp2_with fail
  go_ret3
  exact ⟨rfl, rfl⟩

theorem ret_three {k l : IntKind} {a b c d : Int} {x : Bool} (h : a = b) (h' : c = d) : Ending.returned (.tuple #[.int k a, .int l c, .bool x]) = .returned (.tuple #[.int k b, .int l d, .bool x]) := by rw [h, h']

set_option maxHeartbeats 400000 in
theorem div_whole (a b : Int) (w : World) (ha : -9223372036854775808 ≤ a ∧ a ≤ 9223372036854775807) (hb : -9223372036854775808 ≤ b ∧ b ≤ 9223372036854775807)
    (hbn : ¬ b = 0) (hg : (a == -9223372036854775808) = false ∨ (a == -9223372036854775808) = true ∧ (b == -1) = false) (hm : a.tmod b = 0) :
    Calls Tryd.prog 79 #[.int .i64 a, .int .i64 b] w fun e w' => e = .returned (.tuple #[.int .i64 (dq a b), .int .i64 (dr a b), .bool true]) ∧ ∃ n, w' = w.drewN n := by
  have hb0 : (b == 0) = false := by rw [beq_eq_false_iff_ne]; exact hbn
  have hq := tdiv_range a b ha hbn (by rintro ⟨rfl, rfl⟩; rcases hg with h | ⟨_, h⟩ <;> simp at h)
  have ht : turns a b = false := by unfold turns; rw [hm]; simp
  have e1 : a.tdiv b = dq a b := by unfold dq; rw [ht]; rfl
  have e2 : a.tmod b = dr a b := by unfold dr; rw [ht]; rfl
  have hm' : (a.tmod b != 0) = false := by rw [hm]; rfl
  have E1 := Lib.hid e1; have E2 := Lib.hid e2
  clear e1 e2 hm ht
  rcases hg with hg | ⟨hg, hg'⟩
  all_goals
    go_enter Tryd.func79, Tryd.ntmps79
    go_wp2_with fail
    go_quiet (fail)
    go_wp2_with fail
    go_ret3
    exact ⟨ret_three E1.out E2.out, _, rfl⟩

set_option maxHeartbeats 400000 in
theorem div_turns (a b : Int) (w : World) (ha : -9223372036854775808 ≤ a ∧ a ≤ 9223372036854775807) (hb : -9223372036854775808 ≤ b ∧ b ≤ 9223372036854775807)
    (hbn : ¬ b = 0) (hg : (a == -9223372036854775808) = false ∨ (a == -9223372036854775808) = true ∧ (b == -1) = false) (hm : a.tmod b ≠ 0) (hs : ¬ (a.tmod b < 0 ↔ b < 0)) :
    Calls Tryd.prog 79 #[.int .i64 a, .int .i64 b] w fun e w' => e = .returned (.tuple #[.int .i64 (dq a b), .int .i64 (dr a b), .bool true]) ∧ ∃ n, w' = w.drewN n := by
  have hb0 : (b == 0) = false := by rw [beq_eq_false_iff_ne]; exact hbn
  have hq := tdiv_range a b ha hbn (by rintro ⟨rfl, rfl⟩; rcases hg with h | ⟨_, h⟩ <;> simp at h)
  have hr := tmod_range a b hbn
  have hr' : -9223372036854775808 ≤ a.tmod b ∧ a.tmod b ≤ 9223372036854775807 := by omega
  have ht : turns a b = true := by unfold turns; exact decide_eq_true ⟨hm, hs⟩
  have e1 : a.tdiv b - 1 = dq a b := by unfold dq; rw [ht]; rfl
  have e2 : a.tmod b + b = dr a b := by unfold dr; rw [ht]; rfl
  have hm' : (a.tmod b != 0) = true := by rw [bne_iff_ne]; exact hm
  have hq2 := turns_range a b ha hbn ht
  have hr2 : -9223372036854775808 ≤ a.tmod b + b ∧ a.tmod b + b ≤ 9223372036854775807 := by omega
  have hx := (xor_neg (a.tmod b) b hr' hb).2 hs
  have E1 := Lib.hid e1; have E2 := Lib.hid e2; have HX := Lib.hid hx
  clear e1 e2 hm ht hx hr
  rcases hg with hg | ⟨hg, hg'⟩
  all_goals
    go_enter Tryd.func79, Tryd.ntmps79
    go_wp2_with fail
    go_quiet (fail)
    go_wp2_with fail
    refine (sign_yes _ _ (bits_range _ _ _) HX.out).mono ?_; rintro e w' ⟨rfl, rfl⟩
    go_wp2_with fail
    go_ret3
    exact ⟨ret_three E1.out E2.out, _, rfl⟩

set_option maxHeartbeats 400000 in
theorem div_keeps (a b : Int) (w : World) (ha : -9223372036854775808 ≤ a ∧ a ≤ 9223372036854775807) (hb : -9223372036854775808 ≤ b ∧ b ≤ 9223372036854775807)
    (hbn : ¬ b = 0) (hg : (a == -9223372036854775808) = false ∨ (a == -9223372036854775808) = true ∧ (b == -1) = false) (hm : a.tmod b ≠ 0) (hs : (a.tmod b < 0 ↔ b < 0)) :
    Calls Tryd.prog 79 #[.int .i64 a, .int .i64 b] w fun e w' => e = .returned (.tuple #[.int .i64 (dq a b), .int .i64 (dr a b), .bool true]) ∧ ∃ n, w' = w.drewN n := by
  have hb0 : (b == 0) = false := by rw [beq_eq_false_iff_ne]; exact hbn
  have hq := tdiv_range a b ha hbn (by rintro ⟨rfl, rfl⟩; rcases hg with h | ⟨_, h⟩ <;> simp at h)
  have hr := tmod_range a b hbn
  have hr' : -9223372036854775808 ≤ a.tmod b ∧ a.tmod b ≤ 9223372036854775807 := by omega
  have ht : turns a b = false := by unfold turns; exact decide_eq_false (fun h => h.2 hs)
  have e1 : a.tdiv b = dq a b := by unfold dq; rw [ht]; rfl
  have e2 : a.tmod b = dr a b := by unfold dr; rw [ht]; rfl
  have hm' : (a.tmod b != 0) = true := by rw [bne_iff_ne]; exact hm
  have hx := fun h : bits .xor .i64 (a.tmod b) b < 0 => (xor_neg (a.tmod b) b hr' hb).1 h hs
  have E1 := Lib.hid e1; have E2 := Lib.hid e2; have HX := Lib.hid hx
  clear e1 e2 hm ht hx hr
  rcases hg with hg | ⟨hg, hg'⟩
  all_goals
    go_enter Tryd.func79, Tryd.ntmps79
    go_wp2_with fail
    go_quiet (fail)
    go_wp2_with fail
    refine (sign_no _ _ (bits_range _ _ _) HX.out).mono ?_; rintro e w' ⟨rfl, rfl⟩
    go_wp2_with fail
    go_ret3
    exact ⟨ret_three E1.out E2.out, _, rfl⟩

theorem div_yes (a b : Int) (w : World) (ha : -9223372036854775808 ≤ a ∧ a ≤ 9223372036854775807) (hb : -9223372036854775808 ≤ b ∧ b ≤ 9223372036854775807)
    (hbn : ¬ b = 0) (hg : ¬ (a = -9223372036854775808 ∧ b = -1)) :
    Calls Tryd.prog 79 #[.int .i64 a, .int .i64 b] w fun e w' => e = .returned (.tuple #[.int .i64 (dq a b), .int .i64 (dr a b), .bool true]) ∧ ∃ n, w' = w.drewN n := by
  have hg' : (a == -9223372036854775808) = false ∨ (a == -9223372036854775808) = true ∧ (b == -1) = false := by
    by_cases h : a = -9223372036854775808
    · exact .inr ⟨beq_iff_eq.2 h, beq_eq_false_iff_ne.2 fun h' => hg ⟨h, h'⟩⟩
    · exact .inl (beq_eq_false_iff_ne.2 h)
  by_cases hm : a.tmod b = 0
  · exact div_whole a b w ha hb hbn hg' hm
  · by_cases hs : (a.tmod b < 0 ↔ b < 0)
    · exact div_keeps a b w ha hb hbn hg' hm hs
    · exact div_turns a b w ha hb hbn hg' hm hs

/-- What Later is. -/
def laterV (t s : Int) : Int := if t = 9223372036854775807 ∨ s = 9223372036854775807 then 9223372036854775807 else if fits (t + max s 0) then t + max s 0 else 9223372036854775807

theorem laterV_fits (t s : Int) : -9223372036854775808 ≤ laterV t s ∧ laterV t s ≤ 9223372036854775807 := by
  unfold laterV
  split
  · omega
  · split
    · exact of_fits ‹_›
    · omega

end Go.Proofs.YtkfhipkcnocokaaDoor.Us
