/-
  A span's text is parsed as it was: over lists of bytes. Nothing of the program stands here.
-/
import Derived.Test.YtcllimfaoajapaaDoorTsTrim
import Derived.Test.YtcllimfaoajapaaDoorTsText
namespace Go.Proofs.YtcllimfaoajapaaDoor.Ts

theorem dd_small {q : Nat} (h : q < 10) : Lib.decDigits q = [UInt8.ofNat (48 + q)] := by rw [Lib.decDigits, dif_pos h]
theorem dd_great {q : Nat} (h : ¬ q < 10) : Lib.decDigits q = Lib.decDigits (q / 10) ++ [UInt8.ofNat (48 + q % 10)] := by rw [Lib.decDigits, dif_neg h]
theorem byte_nat {k : Nat} (h : k < 10) : (UInt8.ofNat (48 + k)).toNat = 48 + k := by
  rw [UInt8.toNat_ofNat']; omega
theorem byte_dg {k : Nat} (h : k < 10) : dg (UInt8.ofNat (48 + k)) = true := by
  simp only [dg, Bool.and_eq_true, decide_eq_true_eq, byte_nat h]; omega
/-- The digits of a number. -/
theorem digits_all : ∀ (k q : Nat), q ≤ k → (∀ c ∈ Lib.decDigits q, dg c = true) ∧ dec (Lib.decDigits q) = q ∧ Lib.decDigits q ≠ []
  | k, q, hk => by
    by_cases h : q < 10
    · rw [dd_small h]
      refine ⟨fun c hc => by rw [List.mem_singleton.mp hc]; exact byte_dg h, ?_, by simp⟩
      show 0 * 10 + ((UInt8.ofNat (48 + q)).toNat - 48) = q
      rw [byte_nat h]; omega
    · cases k with
      | zero => omega
      | succ k =>
        obtain ⟨h1, h2, h3⟩ := digits_all k (q / 10) (by omega)
        have hm : q % 10 < 10 := Nat.mod_lt _ (by omega)
        rw [dd_great h]
        refine ⟨fun c hc => ?_, ?_, by simp⟩
        · rcases List.mem_append.mp hc with g | g
          · exact h1 c g
          · rw [List.mem_singleton.mp g]; exact byte_dg hm
        · rw [dec_snoc, h2, byte_nat hm]; omega
theorem tw_digits {l r : List UInt8} (h : ∀ c ∈ l, dg c = true) (hr : r.takeWhile dg = []) : (l ++ r).takeWhile dg = l ∧ (l ++ r).dropWhile dg = r := by
  induction l with
  | nil => exact ⟨hr, dw_of0 hr⟩
  | cons a l ih =>
    have ha := h a (by simp)
    obtain ⟨i1, i2⟩ := ih (fun c hc => h c (List.mem_cons_of_mem _ hc))
    simp [ha, i1, i2]
where dw_of0 {r : List UInt8} (hr : r.takeWhile dg = []) : r.dropWhile dg = r := by rw [← drop_tw, hr]; rfl

/-- The names that a text tells. -/
theorem uName_ok (i : Nat) : (uName i).takeWhile dg = [] ∧ fracOf (uName i) = some (0, uName i) ∧ (uName i).dropWhile bl = uName i ∧ (uName i).takeWhile lt = uName i ∧ (uName i).dropWhile lt = [] ∧ unitOf (uName i) = uSize i ∧ ∃ Y c, uName i = Y ++ [c] ∧ bl c = false := by
  unfold uName uSize
  split <;> refine ⟨by decide, by decide, by decide, by decide, by decide, by decide, ?_⟩
  · exact ⟨[], 100, rfl, by decide⟩
  · exact ⟨[], 104, rfl, by decide⟩
  · exact ⟨[109, 105], 110, rfl, by decide⟩
  · exact ⟨[], 115, rfl, by decide⟩
  · exact ⟨[109], 115, rfl, by decide⟩
  · exact ⟨[117], 115, rfl, by decide⟩
/-- One part of a text. -/
theorem part_one (q i : Nat) : partOf (Lib.decDigits q ++ uName i) = some (q * uSize i, []) := by
  obtain ⟨h1, h2, h3⟩ := digits_all q q (Nat.le_refl _)
  obtain ⟨n1, n2, n3, n4, n5, n6, _⟩ := uName_ok i
  obtain ⟨t1, t2⟩ := tw_digits h1 n1
  have hp := uSize_pos i
  unfold partOf
  rw [t1, t2, if_neg h3, n2]
  show (if unitOf (((uName i).dropWhile bl).takeWhile lt) = 0 then none else some (_, ((uName i).dropWhile bl).dropWhile lt)) = _
  rw [n3, n4, n5, n6, if_neg (by omega), h2]
  simp [share]
theorem sum_one (q i : Nat) : sumOf (Lib.decDigits q ++ uName i) = some (q * uSize i) := by
  obtain ⟨_, _, h3⟩ := digits_all q q (Nat.le_refl _)
  rw [sumOf_some (by simp [h3]) (part_one q i)]
  simp [sumOf_nil]
theorem digit_head (q i : Nat) : ∃ d Y, Lib.decDigits q ++ uName i = d :: Y ∧ dg d = true := by
  obtain ⟨h1, _, h3⟩ := digits_all q q (Nat.le_refl _)
  cases hl : Lib.decDigits q with
  | nil => exact absurd hl h3
  | cons d Y => exact ⟨d, Y ++ uName i, rfl, h1 d (by rw [hl]; simp)⟩

/-- A text that begins with a digit, ends in no blank, and tells n. -/
structure Tells (l : List UInt8) (n : Nat) : Prop where
  head : ∃ d Y, l = d :: Y ∧ dg d = true
  last : ∃ Y c, l = Y ++ [c] ∧ bl c = false
  sum : sumOf l = some n
theorem tells_one (q i : Nat) : Tells (Lib.decDigits q ++ uName i) (q * uSize i) where
  head := digit_head q i
  last := by
    obtain ⟨_, _, _, _, _, _, Y, c, h, hc⟩ := uName_ok i
    exact ⟨Lib.decDigits q ++ Y, c, by rw [h, List.append_assoc], hc⟩
  sum := sum_one q i
theorem Tells.cat {a b : List UInt8} {m n : Nat} {c : UInt8} (hc : bl c = true) (ha : Tells a m) (hb : Tells b n) : Tells (a ++ c :: b) (m + n) where
  head := by obtain ⟨d, Y, h, hd⟩ := ha.head; exact ⟨d, Y ++ c :: b, by rw [h]; rfl, hd⟩
  last := by obtain ⟨Y, z, h, hz⟩ := hb.last; exact ⟨a ++ c :: Y, z, by rw [h]; simp, hz⟩
  sum := by
    obtain ⟨d, Y, h, hd⟩ := ha.head
    obtain ⟨d', Y', h', hd'⟩ := hb.head
    have hbd : b.dropWhile bl = b := by rw [h']; simp [(dg_lt hd').2]
    rw [sumOf_app hc ⟨d', Y', by rw [hbd, h'], hd'⟩ _ a (Nat.le_refl _) (by rw [h]; simp), ha.sum, hbd, hb.sum]; rfl
theorem join_snoc : ∀ (xs : List (List UInt8)) (x : List UInt8), xs ≠ [] → Lib.join (xs ++ [x]) [32] = Lib.join xs [32] ++ 32 :: x
  | [], x, h => absurd rfl h
  | [a], x, _ => by simp [Lib.join, List.intercalate]
  | a :: b :: r, x, _ => by
    have ih := join_snoc (b :: r) x (by simp)
    have e : Lib.join (a :: b :: r ++ [x]) [32] = a ++ [32] ++ Lib.join (b :: r ++ [x]) [32] := by simp [Lib.join, List.intercalate]
    have e2 : Lib.join (a :: b :: r) [32] = a ++ [32] ++ Lib.join (b :: r) [32] := by simp [Lib.join, List.intercalate]
    rw [e, e2, ih]; simp
theorem tells_parts (n : Nat) : ∀ k, (tParts n k = [] ∧ tRem n k = n) ∨ (tParts n k ≠ [] ∧ ∃ m, m + tRem n k = n ∧ Tells (Lib.join (tParts n k) [32]) m)
  | 0 => .inl ⟨rfl, rfl⟩
  | k + 1 => by
    have hr : tRem n (k + 1) = tRem n k % uSize k := rfl
    have hdm := Nat.div_add_mod (tRem n k) (uSize k)
    have hcm := Nat.mul_comm (uSize k) (tRem n k / uSize k)
    by_cases hq : 0 < tRem n k / uSize k
    · rw [tParts_yes hq, hr]
      refine .inr ⟨by simp, ?_⟩
      have h1 : Tells (tPart n k) (tRem n k / uSize k * uSize k) := tells_one (tRem n k / uSize k) k
      rcases tells_parts n k with ⟨e1, e2⟩ | ⟨e1, m, e2, e3⟩
      · refine ⟨tRem n k / uSize k * uSize k, by omega, ?_⟩
        rw [e1]; show Tells (Lib.join [tPart n k] [32]) _; rw [Lib.join_one]; exact h1
      · refine ⟨m + tRem n k / uSize k * uSize k, by omega, ?_⟩
        rw [join_snoc _ _ e1]
        exact e3.cat (by decide) h1
    · rw [tParts_no hq, hr]
      have hz : tRem n k / uSize k = 0 := Nat.eq_zero_of_not_pos hq
      rw [hz, Nat.mul_zero, Nat.zero_add] at hdm
      rw [hdm]
      exact tells_parts n k
theorem tells_text (n : Nat) (h : 1 ≤ n) : Tells (textOf n) n := by
  rcases tells_parts n 6 with ⟨e, _⟩ | ⟨_, m, e2, e3⟩
  · exact absurd e (tParts_six n h)
  · have h6 : tRem n 6 = tRem n 5 % 1 := rfl
    rw [Nat.mod_one] at h6
    rw [h6, Nat.add_zero] at e2
    subst e2; exact e3
/-- Blanks at the ends of a text are passed over. -/
theorem trim_pad {l : List UInt8} {Z1 Z2 : List UInt8} (h1 : ∀ c ∈ Z1, bl c = true) (h2 : ∀ c ∈ Z2, bl c = true) (hh : ∃ d Y, l = d :: Y ∧ bl d = false) (hl : ∃ Y c, l = Y ++ [c] ∧ bl c = false) : trim (Z1 ++ l ++ Z2) = l := by
  obtain ⟨Y, c, hY, hc⟩ := hl
  have e : trimR (Z1 ++ l ++ Z2) = Z1 ++ l := by
    unfold trimR
    have r1 : (Z1 ++ l ++ Z2).reverse = Z2.reverse ++ (Z1 ++ l).reverse := by simp
    rw [r1, dw_all (fun x hx => h2 x (List.mem_reverse.mp hx))]
    have r2 : (Z1 ++ l).reverse = c :: (Z1 ++ Y).reverse := by rw [hY]; simp
    rw [r2]
    have r3 : (c :: (Z1 ++ Y).reverse).dropWhile bl = c :: (Z1 ++ Y).reverse := by simp [hc]
    rw [r3, ← r2, List.reverse_reverse]
  obtain ⟨d, Y', hd, hdb⟩ := hh
  rw [trim_eq, e, dw_all h1, hd]
  simp [hdb]
theorem Tells.parsed {l : List UInt8} {n : Nat} (h : Tells l n) (hn : n < 9223372036854775807) {Z1 Z2 : List UInt8} (h1 : ∀ c ∈ Z1, bl c = true) (h2 : ∀ c ∈ Z2, bl c = true) : parsed (Z1 ++ l ++ Z2) = ((n : Int), 0) := by
  obtain ⟨d, Y, hd, hdg⟩ := h.head
  have ht : trim (Z1 ++ l ++ Z2) = l := trim_pad h1 h2 ⟨d, Y, hd, (dg_lt hdg).2⟩ h.last
  have hnv : l ≠ never := by
    rw [hd]; intro e; unfold never at e
    rw [(List.cons.inj e).1] at hdg; exact absurd hdg (by decide)
  unfold Ts.parsed
  rw [ht, if_neg hnv]
  unfold spanOf
  rw [if_neg (by rw [hd]; simp), show spanF l.length l = some n from h.sum]
  exact if_neg (by omega)
end Go.Proofs.YtcllimfaoajapaaDoor.Ts
