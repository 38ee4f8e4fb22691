/-
  Blanks at the ends of texts that stand one behind the other. Nothing of the program stands here.
-/
import Derived.Test.YtcllimfaoajapaaDoorTsCat
namespace Go.Proofs.YtcllimfaoajapaaDoor.Ts

theorem set_bl : (fun x : UInt8 => ([32, 9] : List UInt8).contains x) = bl := by
  funext c
  rw [Bool.eq_iff_iff]
  simp only [bl, Bool.or_eq_true, beq_iff_eq, List.contains_cons, List.contains_nil, Bool.or_false]
  constructor
  · rintro (rfl | rfl) <;> decide
  · rintro (h | h)
    · exact .inl (UInt8.toNat_inj.mp (by simpa using (show c.toNat = 32 by omega)))
    · exact .inr (UInt8.toNat_inj.mp (by simpa using (show c.toNat = 9 by omega)))
/-- A text without blanks behind. -/
def trimR (l : List UInt8) : List UInt8 := (l.reverse.dropWhile bl).reverse
theorem trim_eq (l : List UInt8) : trim l = (trimR l).dropWhile bl := by
  unfold trim trimR Lib.trimS Lib.trimLeftS Lib.trimRightS
  rw [set_bl]
theorem trimR_split (l : List UInt8) : ∃ Z : List UInt8, l = trimR l ++ Z ∧ ∀ c ∈ Z, bl c = true := by
  refine ⟨(l.reverse.takeWhile bl).reverse, ?_, fun c hc => tw_all bl _ c (List.mem_reverse.mp hc)⟩
  unfold trimR
  rw [← List.reverse_append, List.takeWhile_append_dropWhile, List.reverse_reverse]
theorem dw_all {X : List UInt8} : ∀ {Z : List UInt8}, (∀ c ∈ Z, bl c = true) → (Z ++ X).dropWhile bl = X.dropWhile bl
  | [], _ => rfl
  | z :: Z, h => by
    have hz := h z (by simp)
    simp [hz, dw_all (X := X) (fun c hc => h c (List.mem_cons_of_mem _ hc))]
theorem trimR_cat (a b : List UInt8) (c : UInt8) (hb : trimR b ≠ []) : trimR (a ++ c :: b) = a ++ c :: trimR b := by
  have e : (a ++ c :: b).reverse = b.reverse ++ c :: a.reverse := by simp
  have hb' : b.reverse.dropWhile bl ≠ [] := fun h => hb (by unfold trimR; rw [h]; rfl)
  unfold trimR
  rw [e, dw_app_full, if_neg hb', List.reverse_append]
  simp
/-- What two texts are together. -/
theorem trim_cat {a b : List UInt8} {c : UInt8} (hc : bl c = true) (ha : trim a ≠ []) (hb : trim b ≠ []) :
    ∃ c' X, bl c' = true ∧ X.dropWhile bl = trim b ∧ trim (a ++ c :: b) = trim a ++ c' :: X := by
  obtain ⟨Z, hZ, hall⟩ := trimR_split a
  have hb1 : trimR b ≠ [] := fun h => hb (by rw [trim_eq, h]; rfl)
  have ha1 : (trimR a).dropWhile bl ≠ [] := by rw [← trim_eq]; exact ha
  have e : trim (a ++ c :: b) = trim a ++ (Z ++ c :: trimR b) := by
    rw [trim_eq, trimR_cat a b c hb1, trim_eq a]
    have : a ++ c :: trimR b = trimR a ++ (Z ++ c :: trimR b) := by rw [← List.append_assoc, ← hZ]
    rw [this, dw_app_full, if_neg ha1]
  cases Z with
  | nil => exact ⟨c, trimR b, hc, (trim_eq b).symm, e⟩
  | cons z Z =>
    refine ⟨z, Z ++ c :: trimR b, hall z (by simp), ?_, e⟩
    rw [dw_all (fun x hx => hall x (List.mem_cons_of_mem _ hx)), trim_eq]
    simp [hc]

/-- A text that is fine, and is not infinity. -/
theorem parsed_fine {l : List UInt8} {m : Nat} (h : parsed l = ((m : Int), 0)) (hm : m < 9223372036854775807) : trim l ≠ [] ∧ sumOf (trim l) = some m := by
  unfold parsed at h
  by_cases hn : trim l = never
  · rw [if_pos hn] at h; simp only [Prod.mk.injEq] at h; omega
  · rw [if_neg hn] at h
    cases hs : spanOf (trim l) with
    | none => rw [hs] at h; simp at h
    | some k =>
      rw [hs] at h
      unfold spanOf at hs
      by_cases hl : trim l = []
      · rw [if_pos hl] at hs; cases hs
      · rw [if_neg hl] at hs
        refine ⟨hl, ?_⟩
        by_cases hk : 9223372036854775807 ≤ k
        · simp only [if_pos hk, Prod.mk.injEq] at h; omega
        · simp only [if_neg hk, Prod.mk.injEq] at h
          have : k = m := by omega
          subst this; exact hs
theorem digit_first {l : List UInt8} {m : Nat} (hl : l ≠ []) (h : sumOf l = some m) : ∃ d Y, l = d :: Y ∧ dg d = true := by
  cases hp : partOf l with
  | none => rw [sumOf_none hl hp] at h; cases h
  | some x =>
    cases l with
    | nil => exact absurd rfl hl
    | cons d Y =>
      refine ⟨d, Y, rfl, ?_⟩
      by_cases hd : dg d = true
      · exact hd
      · unfold partOf at hp
        rw [if_pos (by simp [hd])] at hp; cases hp
/-- Two texts, one behind the other with a blank between, are as long together as they are one by one. -/
theorem parsed_cat {a b : List UInt8} {c : UInt8} {m n : Nat} (hc : bl c = true) (ha : parsed a = ((m : Int), 0)) (hm : m < 9223372036854775807) (hb : parsed b = ((n : Int), 0)) (hn : n < 9223372036854775807) :
    parsed (a ++ c :: b) = if 9223372036854775807 ≤ m + n then (0, 6) else (((m + n : Nat) : Int), 0) := by
  obtain ⟨ha1, ha2⟩ := parsed_fine ha hm
  obtain ⟨hb1, hb2⟩ := parsed_fine hb hn
  obtain ⟨c', X, hc', hX, hT⟩ := trim_cat hc ha1 hb1
  obtain ⟨d, Y, hY, hd⟩ := digit_first hb1 hb2
  obtain ⟨d', Y', hY', hd'⟩ := digit_first ha1 ha2
  have hs : sumOf (trim (a ++ c :: b)) = some (m + n) := by
    rw [hT, sumOf_app hc' ⟨d, Y, by rw [hX, hY], hd⟩ _ _ (Nat.le_refl _) ha1, ha2, hX, hb2]; rfl
  have hne : trim (a ++ c :: b) ≠ [] := by rw [hT]; simp
  have hnv : trim (a ++ c :: b) ≠ never := by
    rw [hT, hY']; intro e
    unfold never at e
    simp only [List.cons_append, List.cons.injEq] at e
    rw [e.1] at hd'; exact absurd hd' (by decide)
  unfold parsed spanOf
  rw [if_neg hnv, if_neg hne, show spanF (trim (a ++ c :: b)).length (trim (a ++ c :: b)) = some (m + n) from hs]
end Go.Proofs.YtcllimfaoajapaaDoor.Ts
