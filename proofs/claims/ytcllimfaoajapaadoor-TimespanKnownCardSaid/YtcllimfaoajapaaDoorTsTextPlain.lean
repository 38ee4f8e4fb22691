/-
  The text of a span: what it is, over lists of bytes. Nothing of the program stands here.
-/
import Derived.Test.YtcllimfaoajapaaDoorTsPlain
namespace Go.Proofs.YtcllimfaoajapaaDoor.Ts

/-- The units that a text tells, the greatest first. -/
def uSize : Nat → Nat
  | 0 => 86400000000
  | 1 => 3600000000
  | 2 => 60000000
  | 3 => 1000000
  | 4 => 1000
  | _ => 1
def uName : Nat → List UInt8
  | 0 => [100]
  | 1 => [104]
  | 2 => [109, 105, 110]
  | 3 => [115]
  | 4 => [109, 115]
  | _ => [117, 115]
theorem uSize_pos (i : Nat) : 0 < uSize i := by unfold uSize; split <;> omega
theorem uSize_le (i : Nat) : uSize i ≤ 86400000000 := by unfold uSize; split <;> omega
theorem uName_le (i : Nat) : (uName i).length ≤ 3 := by unfold uName; split <;> simp
/-- What is left behind so many units, and the parts that they make. -/
def tRem (n : Nat) : Nat → Nat
  | 0 => n
  | i + 1 => tRem n i % uSize i
def tPart (n i : Nat) : List UInt8 := Lib.decDigits (tRem n i / uSize i) ++ uName i
def tParts (n : Nat) : Nat → List (List UInt8)
  | 0 => []
  | i + 1 => if 0 < tRem n i / uSize i then tParts n i ++ [tPart n i] else tParts n i
theorem tParts_yes {n i : Nat} (h : 0 < tRem n i / uSize i) : tParts n (i + 1) = tParts n i ++ [tPart n i] := by rw [tParts, if_pos h]
theorem tParts_no {n i : Nat} (h : ¬ 0 < tRem n i / uSize i) : tParts n (i + 1) = tParts n i := by rw [tParts, if_neg h]
theorem tRem_le (n : Nat) : ∀ i, tRem n i ≤ n
  | 0 => Nat.le_refl _
  | i + 1 => Nat.le_trans (Nat.mod_le _ _) (tRem_le n i)
theorem tParts_len (n : Nat) : ∀ i, (tParts n i).length ≤ i
  | 0 => Nat.le_refl _
  | i + 1 => by
    have := tParts_len n i
    rw [tParts]; split
    · simp; omega
    · omega
theorem dec_len : ∀ (k u : Nat), u < 10 ^ (k + 1) → (Lib.decDigits u).length ≤ k + 1
  | 0, u, h => by rw [Lib.decDigits, dif_pos (by omega)]; simp
  | k + 1, u, h => by
    rw [Lib.decDigits]
    split
    · simp
    · have := dec_len k (u / 10) (by rw [Nat.pow_succ] at h; omega)
      simp; omega
theorem tPart_len (n i : Nat) (hn : n ≤ 9223372036854775807) : (tPart n i).length ≤ 22 := by
  have h1 := dec_len 18 (tRem n i / uSize i) (by
    have := tRem_le n i
    have : tRem n i / uSize i ≤ tRem n i := Nat.div_le_self _ _
    omega)
  have h2 := uName_le i
  unfold tPart
  rw [List.length_append]; omega
theorem tParts_each (n : Nat) (hn : n ≤ 9223372036854775807) : ∀ i, ∀ x ∈ tParts n i, x.length ≤ 22
  | 0, x, hx => by cases hx
  | i + 1, x, hx => by
    rw [tParts] at hx
    split at hx
    · rw [List.mem_append] at hx
      rcases hx with hx | hx
      · exact tParts_each n hn i x hx
      · rw [List.mem_singleton.mp hx]; exact tPart_len n i hn
    · exact tParts_each n hn i x hx
theorem join_len (sep : List UInt8) (m : Nat) : ∀ xs : List (List UInt8), (∀ x ∈ xs, x.length ≤ m) → (Lib.join xs sep).length ≤ xs.length * (m + sep.length)
  | [], _ => by simp [Lib.join_nil]
  | [x], h => by rw [Lib.join_one]; have := h x (by simp); simp; omega
  | x :: y :: r, h => by
    have ih := join_len sep m (y :: r) (fun z hz => h z (List.mem_cons_of_mem _ hz))
    have hx := h x (by simp)
    have e : Lib.join (x :: y :: r) sep = x ++ sep ++ Lib.join (y :: r) sep := by simp [Lib.join, List.intercalate]
    rw [e, List.length_append, List.length_append]
    simp only [List.length_cons, Nat.succ_mul] at ih ⊢
    omega
theorem tParts_nil (n : Nat) : ∀ k, tParts n k = [] → tRem n k = n
  | 0, _ => rfl
  | k + 1, h => by
    by_cases hq : 0 < tRem n k / uSize k
    · rw [tParts_yes hq] at h; simp at h
    · rw [tParts_no hq] at h
      have ih := tParts_nil n k h
      have hz : tRem n k / uSize k = 0 := Nat.eq_zero_of_not_pos hq
      have hlt : tRem n k < uSize k := by
        rcases Nat.lt_or_ge (tRem n k) (uSize k) with g | g
        · exact g
        · exact absurd (Nat.div_pos g (uSize_pos k)) hq
      show tRem n k % uSize k = n
      rw [Nat.mod_eq_of_lt hlt, ih]
theorem tParts_six (n : Nat) (h : 1 ≤ n) : tParts n 6 ≠ [] := by
  intro e
  have h6 := tParts_nil n 6 e
  have : tRem n 6 = tRem n 5 % 1 := rfl
  rw [Nat.mod_one] at this
  omega
/-- The text of a span from 1 on. -/
def textOf (n : Nat) : List UInt8 := Lib.join (tParts n 6) [32]
theorem textOf_len (n : Nat) (hn : n ≤ 9223372036854775807) : (textOf n).length ≤ 138 := by
  have h1 := join_len [32] 22 (tParts n 6) (tParts_each n hn 6)
  have h2 := tParts_len n 6
  unfold textOf
  simp only [List.length_cons, List.length_nil] at h1
  omega
end Go.Proofs.YtcllimfaoajapaaDoor.Ts
