/-
  What clepsydraref04.Of answers: the key that a text tells, or none.
-/
import Derived.Test.YtgdpgpmkokjdjaaDoorSpOf
namespace Go.Proofs.YtgdpgpmkokjdjaaDoor.Sp
open Go.RowKit

def blk (c : UInt8) : Bool := ([9, 10, 13, 32] : List UInt8).contains c
theorem blk_any {c : UInt8} (h : blk c = true) : c = 9 ∨ c = 10 ∨ c = 13 ∨ c = 32 := by unfold blk at h; simpa using h
theorem dropw_all {X : List UInt8} : ∀ {Z : List UInt8}, (∀ c ∈ Z, blk c = true) → (Z ++ X).dropWhile blk = X.dropWhile blk
  | [], _ => rfl
  | z :: Z, h => by
    have hz := h z (by simp)
    simp [hz, dropw_all (X := X) (fun c hc => h c (List.mem_cons_of_mem _ hc))]
theorem trimmed_eq (l : List UInt8) : trimmed l = (l.reverse.dropWhile blk).reverse := rfl
theorem trimmed_app {l z : List UInt8} (h : ∀ c ∈ z, blk c = true) : trimmed (l ++ z) = trimmed l := by
  rw [trimmed_eq, trimmed_eq, List.reverse_append, dropw_all (fun c hc => h c (List.mem_reverse.1 hc))]
theorem trimmed_last {l : List UInt8} {c : UInt8} (h : blk c = false) : trimmed (l ++ [c]) = l ++ [c] := by
  rw [trimmed_eq, List.reverse_append]
  simp [h]
theorem trimmed_len (l : List UInt8) : (trimmed l).length ≤ l.length := by
  rw [trimmed_eq, List.length_reverse]
  have := (List.dropWhile_sublist (p := blk) (l := l.reverse)).length_le
  rwa [List.length_reverse] at this
theorem split_last (l : List UInt8) (h : 0 < l.length) : l = l.take (l.length - 1) ++ [l.getD (l.length - 1) 0] := by
  have h1 : l.take (l.length - 1 + 1) = l := List.take_of_length_le (by omega)
  rw [List.take_succ_eq_append_getElem (by omega)] at h1
  simpa [List.getD, List.getElem?_eq_getElem (show l.length - 1 < l.length by omega)] using h1.symm
theorem blk_dig {c : UInt8} (h : blk c = true) : dig (c.toNat : Int) = -1 := by
  rcases blk_any h with rfl | rfl | rfl | rfl <;> decide
/-- When no more is taken off, it is a key just when the trimmed text is. -/
theorem key_end {l m z : List UInt8} (hl : l = m ++ z) (hz : ∀ c ∈ z, blk c = true) (h : m.length ≤ 32 ∨ blk (m.getD (m.length - 1) 0) = false) :
    (isKey (trimmed l) ↔ isKey m) ∧ (isKey m → trimmed l = m) := by
  have e : trimmed l = trimmed m := by rw [hl, trimmed_app hz]
  rw [e]
  have hfull : 0 < m.length → blk (m.getD (m.length - 1) 0) = false → trimmed m = m := fun h0 hb => by
    have h1 := split_last m h0
    have h2 := trimmed_last (l := m.take (m.length - 1)) hb
    rw [← h1] at h2; exact h2
  have hkey : isKey m → trimmed m = m := fun hk => hfull (by have := hk.1; omega) (by
    cases hb : blk (m.getD (m.length - 1) 0) with
    | false => rfl
    | true =>
      have h1 := hk.2 (m.length - 1) (by have := hk.1; omega)
      unfold dg at h1
      rw [blk_dig hb] at h1; omega)
  refine ⟨⟨fun hk => ?_, fun hk => by rw [hkey hk]; exact hk⟩, hkey⟩
  have h32 := hk.1
  have hlen := trimmed_len m
  have hm : m.length = 32 ∨ 32 < m.length := by omega
  rcases h with h | h
  · have hm32 : m.length = 32 := by omega
    cases hb : blk (m.getD (m.length - 1) 0) with
    | false => rw [hfull (by omega) hb] at hk; exact hk
    | true =>
      have h1 := split_last m (by omega)
      have h2 : trimmed m = trimmed (m.take (m.length - 1)) := by
        conv => lhs; rw [h1]
        exact trimmed_app (fun c hc => by rw [List.mem_singleton.1 hc]; exact hb)
      have h3 := trimmed_len (m.take (m.length - 1))
      rw [← h2, List.length_take] at h3
      omega
  · rw [hfull (by omega) h] at hk; exact hk

/-- What i digits have laid so far. -/
def halves (t : List UInt8) (i : Nat) : List Int := (List.range 16).map fun j => if 2 * j + 1 < i then dg t (2 * j) * 16 + dg t (2 * j + 1) else if 2 * j < i then dg t (2 * j) else 0
def half (t : List UInt8) (i : Nat) : Int := if i % 2 = 1 then dg t (i - 1) else 0
theorem halves_len (t : List UInt8) (i : Nat) : (halves t i).length = 16 := by simp [halves]
theorem halves_zero (t : List UInt8) : halves t 0 = zeros := by
  unfold halves
  simp only [Nat.not_lt_zero, if_false]
  rfl
theorem halves_all (t : List UInt8) : halves t 32 = pairs t 16 := by
  unfold halves pairs
  refine List.map_congr_left fun j hj => ?_
  rw [List.mem_range] at hj
  rw [if_pos (by omega)]
theorem halves_get (t : List UInt8) (i : Nat) (hi : i < 32) : (halves t i)[i / 2]? = some (half t i) := by
  unfold halves half
  rw [List.getElem?_map, List.getElem?_range (by omega)]
  simp only [Option.map_some, Option.some.injEq]
  by_cases h : i % 2 = 1
  · rw [if_neg (by omega), if_pos (by omega), if_pos h, show 2 * (i / 2) = i - 1 by omega]
  · rw [if_neg (by omega), if_neg (by omega), if_neg h]
theorem halves_set (t : List UInt8) (i : Nat) (hi : i < 32) : (halves t i).set (i / 2) (half t i * 16 + dg t i) = halves t (i + 1) := by
  refine List.ext_getElem? fun j => ?_
  rw [List.getElem?_set, halves_len]
  by_cases hj : i / 2 = j
  · subst hj
    rw [if_pos rfl, if_pos (by omega)]
    unfold halves half
    rw [List.getElem?_map, List.getElem?_range (by omega)]
    simp only [Option.map_some, Option.some.injEq]
    by_cases h : i % 2 = 1
    · rw [if_pos h, if_pos (by omega), show 2 * (i / 2) = i - 1 by omega, show i - 1 + 1 = i by omega]
    · rw [if_neg h, if_neg (by omega), if_pos (by omega), show 2 * (i / 2) = i by omega]; omega
  · rw [if_neg hj]
    unfold halves
    rw [List.getElem?_map, List.getElem?_map]
    rcases Nat.lt_or_ge j 16 with h | h
    · rw [List.getElem?_range h]
      simp only [Option.map_some, Option.some.injEq]
      by_cases a : 2 * j + 1 < i
      · rw [if_pos a, if_pos (by omega)]
      · by_cases b : 2 * j < i
        · omega
        · rw [if_neg a, if_neg b, if_neg (by omega), if_neg (by omega)]
    · rw [List.getElem?_eq_none (by simpa using h)]; rfl
theorem half_rng (t : List UInt8) (i : Nat) (h : ∀ j, j < i → 0 ≤ dg t j) : 0 ≤ half t i ∧ half t i ≤ 15 := by
  unfold half
  split
  · exact ⟨h _ (by omega), by unfold dg; exact (dig_rng _).2⟩
  · omega
end Go.Proofs.YtgdpgpmkokjdjaaDoor.Sp
