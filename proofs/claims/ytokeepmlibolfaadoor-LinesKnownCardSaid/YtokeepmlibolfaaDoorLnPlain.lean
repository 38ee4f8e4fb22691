/-
  Layer 11 (lines): what the program does, over lists of bytes. Nothing of the program stands here.
-/
import Derived.ProofKit
import Derived.Lib.SlTrimSet
import Derived.Lib.Split
import Derived.Lib.IndexAny
namespace Go.Proofs.YtokeepmlibolfaaDoor.Ln

/-- Bytes as a string. -/
abbrev bs (l : List UInt8) : ByteArray := ⟨l.toArray⟩
theorem bs_list (l : List UInt8) : (bs l).data.toList = l := by simp
theorem bs_of (s : ByteArray) : bs s.data.toList = s := by unfold bs; rw [Array.toArray_toList]
theorem bs_size (l : List UInt8) : (bs l).size = l.length := rfl
theorem bs_empty (l : List UInt8) : (bs l).toList.isEmpty = l.isEmpty := by rw [Lib.toList_data, bs_list]
/-- Without blanks at the ends. -/
def trimL (l : List UInt8) : List UInt8 := Lib.trimS l [9, 32]
def blankB (l : List UInt8) : Bool := (trimL l).isEmpty
def remB (l : List UInt8) : Bool := Lib.hasPrefix (trimL l) [35] || Lib.hasPrefix (trimL l) [59]
/-- Letters, digits; a key. -/
def ltr (r : Nat) : Bool := decide (97 ≤ r ∧ r ≤ 122) || decide (65 ≤ r ∧ r ≤ 90)
def dgt (r : Nat) : Bool := decide (48 ≤ r ∧ r ≤ 57)
def goes (i : Nat) (b : UInt8) : Bool := ltr b.toNat || (decide (i ≠ 0) && dgt b.toNat)
def keyB (l : List UInt8) : Bool := (List.range l.length).all (fun i => goes i (l.getD i 0)) && !l.isEmpty
/-- A line's key and value. -/
def asgK (l : List UInt8) : List UInt8 := trimL (Lib.cut l [61]).1
def asgV (l : List UInt8) : List UInt8 := trimL (Lib.cut l [61]).2.1
def asgB (l : List UInt8) : Bool := (Lib.cut l [61]).2.2 && keyB (asgK l)
/-- The name of a section's line. -/
def nameL (l : List UInt8) : List UInt8 := if Lib.hasSuffix (l.drop 1) [93] && !Lib.containsAny (Lib.trimSuffix (l.drop 1) [93]) [91, 93] then Lib.trimSuffix (l.drop 1) [93] else []
theorem trim_len (l : List UInt8) : (trimL l).length ≤ l.length := by
  unfold trimL Lib.trimS Lib.trimLeftS Lib.trimRightS
  have h1 := List.IsSuffix.length_le (List.dropWhile_suffix (l := (List.dropWhile (([9, 32] : List UInt8).contains ·) l.reverse).reverse) (([9, 32] : List UInt8).contains ·))
  have h2 := List.IsSuffix.length_le (List.dropWhile_suffix (l := l.reverse) (([9, 32] : List UInt8).contains ·))
  rw [List.length_reverse] at h1 h2
  omega
/-- A first place where it does not hold. -/
theorem first_of (f : Nat → Bool) : ∀ n, (∃ j, j < n ∧ f j = false) → ∃ m, m < n ∧ (∀ k, k < m → f k = true) ∧ f m = false
  | 0, h => by obtain ⟨j, hj, _⟩ := h; omega
  | n + 1, h => by
    by_cases h' : ∃ j, j < n ∧ f j = false
    · obtain ⟨m, hm, a, b⟩ := first_of f n h'
      exact ⟨m, by omega, a, b⟩
    · obtain ⟨j, hj, hf⟩ := h
      have : j = n := by
        rcases Nat.lt_or_ge j n with hlt | hge
        · exact absurd ⟨j, hlt, hf⟩ h'
        · omega
      subst this
      refine ⟨j, by omega, fun k hk => ?_, hf⟩
      cases hfk : f k with
      | true => rfl
      | false => exact absurd ⟨k, hk, hfk⟩ h'
theorem range_all (f : Nat → Bool) (n : Nat) : ((List.range n).all f = true ∧ ∀ k, k < n → f k = true) ∨ ((List.range n).all f = false ∧ ∃ m, m < n ∧ (∀ k, k < m → f k = true) ∧ f m = false) := by
  cases h : (List.range n).all f with
  | true => exact .inl ⟨rfl, fun k hk => List.all_eq_true.mp h k (List.mem_range.mpr hk)⟩
  | false =>
    refine .inr ⟨rfl, first_of f n ?_⟩
    have h2 : ¬ (List.range n).all f = true := by rw [h]; decide
    rw [List.all_eq_true] at h2
    refine Classical.byContradiction fun hn => h2 fun k hk => ?_
    cases hfk : f k with
    | true => rfl
    | false => exact absurd ⟨k, List.mem_range.mp hk, hfk⟩ hn
end Go.Proofs.YtokeepmlibolfaaDoor.Ln
