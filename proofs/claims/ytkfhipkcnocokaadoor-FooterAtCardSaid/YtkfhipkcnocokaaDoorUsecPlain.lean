/-
  Plain facts on whole numbers of 64 bits, with no program in them: the sign of a ^ b and a & b, of u >> 63, of sums that go round.
-/
import Derived.WalkKit
import Derived.Laws.Bits64b
namespace Go.Proofs.YtkfhipkcnocokaaDoor.Us
open Go.RowKit

/-- A number fits an int64. -/
def fits (n : Int) : Bool := decide (-9223372036854775808 ≤ n ∧ n ≤ 9223372036854775807)
theorem fits_yes {n : Int} (h : -9223372036854775808 ≤ n ∧ n ≤ 9223372036854775807) : fits n = true := by unfold fits; exact decide_eq_true h
theorem fits_no {n : Int} (h : ¬ (-9223372036854775808 ≤ n ∧ n ≤ 9223372036854775807)) : fits n = false := by unfold fits; exact decide_eq_false h
theorem of_fits {n : Int} (h : fits n = true) : -9223372036854775808 ≤ n ∧ n ≤ 9223372036854775807 := by unfold fits at h; exact of_decide_eq_true h
theorem of_not_fits {n : Int} (h : fits n = false) : ¬ (-9223372036854775808 ≤ n ∧ n ≤ 9223372036854775807) := by unfold fits at h; exact of_decide_eq_false h
theorem of_wf {n : Int} (h : (Lit.int .i64 n).wf = true) : -9223372036854775808 ≤ n ∧ n ≤ 9223372036854775807 := by
  simp [Lit.wf, IntKind.min, IntKind.max, IntKind.bits, IntKind.signed] at h
  omega

/-- The number, if it fits, else 0. -/
def fit (n : Int) : Int := if fits n then n else 0

theorem fit_range (n : Int) : -9223372036854775808 ≤ fit n ∧ fit n ≤ 9223372036854775807 := by
  unfold fit
  split
  · exact of_fits ‹_›
  · omega
theorem fit_yes {n : Int} (h : fits n = true) : fit n = n := by unfold fit; rw [h]; rfl
theorem fit_no {n : Int} (h : fits n = false) : fit n = 0 := by unfold fit; rw [h]; rfl

/-- 1 below 0, else 0. -/
def sg (n : Int) : Int := if n < 0 then 1 else 0

theorem wrapI (r : BitVec 64) : IntKind.i64.wrap (r.toNat : Int) = r.toInt := by
  rw [IntKind.wrap_i64, BitVec.toInt_eq_toNat_cond]
  have := r.isLt
  split <;> omega
theorem neg_iff (r : BitVec 64) : IntKind.i64.wrap (r.toNat : Int) < 0 ↔ r.msb = true := by
  rw [wrapI, BitVec.toInt_neg_iff, BitVec.msb_eq_decide]
  simp
  omega
theorem msb_of (a : Int) (h : -9223372036854775808 ≤ a ∧ a ≤ 9223372036854775807) : (BitVec.ofInt 64 a).msb = decide (a < 0) := by
  have e : IntKind.i64.wrap ((BitVec.ofInt 64 a).toNat : Int) = a := by
    rw [wrapI, BitVec.toInt_ofInt]
    simp [Int.bmod]
    split <;> omega
  have := neg_iff (BitVec.ofInt 64 a)
  rw [e] at this
  rw [Bool.eq_iff_iff]
  simp [this]
theorem bits_range (op : BinOp) (a b : Int) : -9223372036854775808 ≤ bits op .i64 a b ∧ bits op .i64 a b ≤ 9223372036854775807 := by
  unfold bits
  simp only
  rw [IntKind.wrap_i64]
  omega
theorem xor_neg (a b : Int) (ha : -9223372036854775808 ≤ a ∧ a ≤ 9223372036854775807) (hb : -9223372036854775808 ≤ b ∧ b ≤ 9223372036854775807) :
    bits .xor .i64 a b < 0 ↔ ¬ (a < 0 ↔ b < 0) := by
  show IntKind.i64.wrap ((BitVec.ofInt 64 a ^^^ BitVec.ofInt 64 b).toNat : Int) < 0 ↔ _
  rw [neg_iff, BitVec.msb_xor, msb_of a ha, msb_of b hb]
  by_cases h1 : a < 0 <;> by_cases h2 : b < 0 <;> simp [h1, h2]
theorem and_neg (a b : Int) (ha : -9223372036854775808 ≤ a ∧ a ≤ 9223372036854775807) (hb : -9223372036854775808 ≤ b ∧ b ≤ 9223372036854775807) :
    bits .and .i64 a b < 0 ↔ (a < 0 ∧ b < 0) := by
  show IntKind.i64.wrap ((BitVec.ofInt 64 a &&& BitVec.ofInt 64 b).toNat : Int) < 0 ↔ _
  rw [neg_iff, BitVec.msb_and, msb_of a ha, msb_of b hb]
  by_cases h1 : a < 0 <;> by_cases h2 : b < 0 <;> simp [h1, h2]

theorem sg_yes {n : Int} (h : n < 0) : sg n = 1 := by unfold sg; rw [if_pos h]
theorem sg_no {n : Int} (h : ¬ n < 0) : sg n = 0 := by unfold sg; rw [if_neg h]
theorem sg_shift (n : Int) (h : -9223372036854775808 ≤ n ∧ n ≤ 9223372036854775807) : IntKind.u64.wrap n / 9223372036854775808 = sg n := by
  unfold sg
  simp only [IntKind.wrap, IntKind.bits, IntKind.signed]
  simp
  split <;> omega

theorem wrap64_range (n : Int) : -9223372036854775808 ≤ wrap64 n ∧ wrap64 n ≤ 9223372036854775807 := by unfold wrap64; omega

/-- The sign of (a ^ s) & (b ^ s), s the sum gone round. -/
theorem add_sg (a b : Int) (ha : -9223372036854775808 ≤ a ∧ a ≤ 9223372036854775807) (hb : -9223372036854775808 ≤ b ∧ b ≤ 9223372036854775807) :
    sg (bits .and .i64 (bits .xor .i64 a (wrap64 (a + b))) (bits .xor .i64 b (wrap64 (a + b)))) = if fits (a + b) then 0 else 1 := by
  have hs := wrap64_range (a + b)
  have e : bits .and .i64 (bits .xor .i64 a (wrap64 (a + b))) (bits .xor .i64 b (wrap64 (a + b))) < 0 ↔ fits (a + b) = false := by
    rw [and_neg _ _ (bits_range _ _ _) (bits_range _ _ _), xor_neg a _ ha hs, xor_neg b _ hb hs]
    unfold fits
    rw [decide_eq_false_iff_not]
    unfold wrap64
    omega
  by_cases h : fits (a + b) = true
  · rw [h, sg_no (by rw [e, h]; simp)]; rfl
  · rw [sg_yes (by rw [e]; simpa using h)]; simp [h]
theorem sub_sg (a b : Int) (ha : -9223372036854775808 ≤ a ∧ a ≤ 9223372036854775807) (hb : -9223372036854775808 ≤ b ∧ b ≤ 9223372036854775807) :
    sg (bits .and .i64 (bits .xor .i64 a b) (bits .xor .i64 a (wrap64 (a - b)))) = if fits (a - b) then 0 else 1 := by
  have hs := wrap64_range (a - b)
  have e : bits .and .i64 (bits .xor .i64 a b) (bits .xor .i64 a (wrap64 (a - b))) < 0 ↔ fits (a - b) = false := by
    rw [and_neg _ _ (bits_range _ _ _) (bits_range _ _ _), xor_neg a _ ha hs, xor_neg a b ha hb]
    unfold fits
    rw [decide_eq_false_iff_not]
    unfold wrap64
    omega
  by_cases h : fits (a - b) = true
  · rw [h, sg_no (by rw [e, h]; simp)]; rfl
  · rw [sg_yes (by rw [e]; simpa using h)]; simp [h]

/-- The quotient rounded down, and what is left, out of those that are rounded towards 0. -/
def turns (a b : Int) : Bool := decide (a.tmod b ≠ 0 ∧ ¬ (a.tmod b < 0 ↔ b < 0))
def dq (a b : Int) : Int := if turns a b then a.tdiv b - 1 else a.tdiv b
def dr (a b : Int) : Int := if turns a b then a.tmod b + b else a.tmod b
theorem tmod_range (a b : Int) (hb : b ≠ 0) : a.tmod b < (b.natAbs : Int) ∧ -(b.natAbs : Int) < a.tmod b := by
  by_cases h : 0 < b
  · have h1 := Int.tmod_lt_of_pos a h
    have h2 := Int.lt_tmod_of_pos a h
    omega
  · have h1 := Int.tmod_lt_of_pos a (show 0 < -b by omega)
    have h2 := Int.lt_tmod_of_pos a (show 0 < -b by omega)
    rw [Int.tmod_neg] at h1 h2
    omega
theorem dq_dr (a b : Int) : dq a b * b + dr a b = a := by
  have h := Int.mul_tdiv_add_tmod a b
  rw [Int.mul_comm] at h
  unfold dq dr
  split
  · rw [Int.sub_mul]; omega
  · exact h
theorem dr_range (a b : Int) (hb : b ≠ 0) : (0 < b → 0 ≤ dr a b ∧ dr a b < b) ∧ (b < 0 → b < dr a b ∧ dr a b ≤ 0) := by
  have h := tmod_range a b hb
  unfold dr turns
  split
  · rename_i h1; have h1 := of_decide_eq_true h1; omega
  · rename_i h1; have h1 := of_decide_eq_false (Bool.eq_false_iff.2 h1); omega
theorem tdiv_range (a b : Int) (ha : -9223372036854775808 ≤ a ∧ a ≤ 9223372036854775807) (h0 : b ≠ 0) (h1 : ¬ (a = -9223372036854775808 ∧ b = -1)) :
    -9223372036854775808 ≤ a.tdiv b ∧ a.tdiv b ≤ 9223372036854775807 := by
  have e : (a.tdiv b).natAbs = a.natAbs / b.natAbs := Int.natAbs_tdiv a b
  by_cases h2 : 2 ≤ b.natAbs
  · have : a.natAbs / b.natAbs ≤ a.natAbs / 2 := Nat.div_le_div_left h2 (by omega)
    omega
  · have : b = 1 ∨ b = -1 := by omega
    rcases this with rfl | rfl
    · simp; omega
    · rw [Int.tdiv_neg]; simp; omega
theorem turns_range (a b : Int) (ha : -9223372036854775808 ≤ a ∧ a ≤ 9223372036854775807) (h0 : b ≠ 0) (h : turns a b = true) :
    -9223372036854775808 ≤ a.tdiv b - 1 ∧ a.tdiv b - 1 ≤ 9223372036854775807 := by
  have h := of_decide_eq_true h
  have e : (a.tdiv b).natAbs = a.natAbs / b.natAbs := Int.natAbs_tdiv a b
  have hr := tmod_range a b h0
  have : a.natAbs / b.natAbs ≤ a.natAbs / 2 := Nat.div_le_div_left (by omega) (by omega)
  omega
theorem dq_fits (a b : Int) (ha : -9223372036854775808 ≤ a ∧ a ≤ 9223372036854775807) (h0 : b ≠ 0) (h1 : ¬ (a = -9223372036854775808 ∧ b = -1)) :
    -9223372036854775808 ≤ dq a b ∧ dq a b ≤ 9223372036854775807 := by
  unfold dq
  split
  · exact turns_range a b ha h0 ‹_›
  · exact tdiv_range a b ha h0 h1
theorem dr_fits (a b : Int) (hb : -9223372036854775808 ≤ b ∧ b ≤ 9223372036854775807) (h0 : b ≠ 0) :
    -9223372036854775808 ≤ dr a b ∧ dr a b ≤ 9223372036854775807 := by
  have := dr_range a b h0
  omega
/-- By a number above 0 the greater one has no less. -/
theorem dq_mono (a b c : Int) (h : a ≤ b) (hc : 0 < c) : dq a c ≤ dq b c := by
  have h1 := dq_dr a c
  have h2 := dq_dr b c
  have r1 := (dr_range a c (by omega)).1 hc
  have r2 := (dr_range b c (by omega)).1 hc
  refine Int.not_lt.1 fun h3 => ?_
  have h4 : (dq b c + 1) * c ≤ dq a c * c := Int.mul_le_mul_of_nonneg_right (by omega) (by omega)
  rw [Int.add_mul] at h4
  omega

end Go.Proofs.YtkfhipkcnocokaaDoor.Us
