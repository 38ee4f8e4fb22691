/-
  Two texts, one behind the other with a blank between: how long they are together. Nothing of the program stands here.
-/
import Derived.Test.YtcllimfaoajapaaDoorTsParse
namespace Go.Proofs.YtcllimfaoajapaaDoor.Ts

theorem tw_app_stop {p : UInt8 → Bool} {c : UInt8} (hc : p c = false) (X : List UInt8) : ∀ A : List UInt8, (A ++ c :: X).takeWhile p = A.takeWhile p
  | [] => by simp [hc]
  | a :: A => by
    by_cases ha : p a = true
    · simp [ha, tw_app_stop hc X A]
    · simp [ha]
theorem dw_app_stop {p : UInt8 → Bool} {c : UInt8} (hc : p c = false) (X : List UInt8) : ∀ A : List UInt8, (A ++ c :: X).dropWhile p = A.dropWhile p ++ c :: X
  | [] => by simp [hc]
  | a :: A => by
    by_cases ha : p a = true
    · simp [ha, dw_app_stop hc X A]
    · simp [ha]
theorem dw_app_full {p : UInt8 → Bool} (X : List UInt8) : ∀ A : List UInt8, (A ++ X).dropWhile p = if A.dropWhile p = [] then X.dropWhile p else A.dropWhile p ++ X
  | [] => by simp
  | a :: A => by
    by_cases ha : p a = true
    · simp [ha, dw_app_full X A]
    · simp [ha]
theorem bl_dg {c : UInt8} (h : bl c = true) : dg c = false ∧ lt c = false ∧ c ≠ 46 := by
  simp only [bl, Bool.or_eq_true, beq_iff_eq] at h
  have : c = 32 ∨ c = 9 := by
    rcases h with h | h
    · exact .inl (UInt8.toNat_inj.mp (by simpa using (show c.toNat = 32 by omega)))
    · exact .inr (UInt8.toNat_inj.mp (by simpa using (show c.toNat = 9 by omega)))
  rcases this with rfl | rfl <;> decide
theorem dg_lt {c : UInt8} (h : dg c = true) : lt c = false ∧ bl c = false := by
  have hb : 48 ≤ (c.toNat : Int) ∧ (c.toNat : Int) ≤ 57 := by simpa [dg] using h
  refine ⟨?_, ?_⟩
  · simp [lt]; omega
  · simp [bl]; omega

theorem fracOf_dot (r : List UInt8) : fracOf (46 :: r) = if r.takeWhile dg = [] ∨ 6 < (r.takeWhile dg).length then none
    else some (dec (r.takeWhile dg ++ List.replicate (6 - (r.takeWhile dg).length) 48), r.dropWhile dg) := if_pos rfl
theorem fracOf_else {a : UInt8} (h : a ≠ 46) (r : List UInt8) : fracOf (a :: r) = some (0, a :: r) := if_neg (by simpa using h)
theorem fracOf_nil : fracOf [] = some (0, []) := rfl
/-- A fraction, with a blank and more behind. -/
theorem fracOf_app {A : List UInt8} {c : UInt8} (hc : bl c = true) (X : List UInt8) :
    fracOf (A ++ c :: X) = (fracOf A).map fun x => (x.1, x.2 ++ c :: X) := by
  obtain ⟨h1, _, h3⟩ := bl_dg hc
  cases A with
  | nil => rw [List.nil_append, fracOf_else h3, fracOf_nil]; rfl
  | cons a A =>
    rw [List.cons_append]
    by_cases ha : a = 46
    · subst ha
      rw [fracOf_dot, fracOf_dot, tw_app_stop h1, dw_app_stop h1]
      by_cases hd : A.takeWhile dg = [] ∨ 6 < (A.takeWhile dg).length
      · rw [if_pos hd, if_pos hd]; rfl
      · rw [if_neg hd, if_neg hd]; rfl
    · rw [fracOf_else ha, fracOf_else ha]; rfl

/-- What stands behind: a text that begins with a digit behind its blanks. -/
def Digit1 (X : List UInt8) : Prop := ∃ d Y, X.dropWhile bl = d :: Y ∧ dg d = true

/-- A part, with a blank and more behind. -/
theorem partOf_app {A : List UInt8} {c : UInt8} (hc : bl c = true) {X : List UInt8} (hX : Digit1 X) :
    (partOf (A ++ c :: X)).map (fun x => (x.1, x.2.dropWhile bl)) = (partOf A).map fun x => (x.1, if x.2.dropWhile bl = [] then X.dropWhile bl else x.2.dropWhile bl ++ c :: X) := by
  obtain ⟨h1, h2, h3⟩ := bl_dg hc
  obtain ⟨d, Y, hY, hd⟩ := hX
  obtain ⟨hdl, hdb⟩ := dg_lt hd
  have hcX : (c :: X).dropWhile bl = X.dropWhile bl := by simp [hc]
  unfold partOf
  rw [tw_app_stop h1, dw_app_stop h1]
  by_cases hdg : A.takeWhile dg = []
  · rw [if_pos hdg, if_pos hdg]; rfl
  · rw [if_neg hdg, if_neg hdg, fracOf_app hc]
    cases hf : fracOf (A.dropWhile dg) with
    | none => rfl
    | some x =>
      obtain ⟨f, r⟩ := x
      simp only [Option.map_some]
      by_cases hr : r.dropWhile bl = []
      · have e : (r ++ c :: X).dropWhile bl = d :: Y := by rw [dw_app_full, if_pos hr, hcX, hY]
        rw [e, hr]
        have et : (d :: Y).takeWhile lt = [] := by simp [hdl]
        have ed : (d :: Y).dropWhile lt = d :: Y := by simp [hdl]
        rw [et, ed]
        by_cases hu : unitOf [] = 0
        · exact absurd hu (by decide)
        · rw [if_neg hu]
          show Option.map _ (some _) = Option.map _ (if unitOf (([] : List UInt8).takeWhile lt) = 0 then none else _)
          rw [show ([] : List UInt8).takeWhile lt = [] from rfl, if_neg hu]
          simp [hdb, hY]
      · have e : (r ++ c :: X).dropWhile bl = r.dropWhile bl ++ c :: X := by rw [dw_app_full, if_neg hr]
        rw [e, tw_app_stop h2, dw_app_stop h2]
        split
        · rfl
        · simp only [Option.map_some, Option.some.injEq, Prod.mk.injEq, true_and]
          rw [dw_app_full]
          split
          · rw [hcX]
          · rfl

/-- All parts, with a blank and more behind. -/
theorem sumOf_app {c : UInt8} (hc : bl c = true) {X : List UInt8} (hX : Digit1 X) : ∀ (k : Nat) (A : List UInt8), A.length ≤ k → A ≠ [] → sumOf (A ++ c :: X) = (sumOf A).bind fun m => (sumOf (X.dropWhile bl)).map (m + ·)
  | 0, A, h, hA => absurd (List.length_eq_zero_iff.mp (by omega)) hA
  | k + 1, A, h, hA => by
    have hA' : A ++ c :: X ≠ [] := by simp
    have hp := partOf_app (A := A) hc hX
    cases h1 : partOf A with
    | none =>
      rw [h1] at hp
      have h2 : partOf (A ++ c :: X) = none := by
        cases h2 : partOf (A ++ c :: X) with
        | none => rfl
        | some y => rw [h2] at hp; cases hp
      rw [sumOf_none hA' h2, sumOf_none hA h1]; rfl
    | some x =>
      obtain ⟨v, r⟩ := x
      rw [h1] at hp
      cases h2 : partOf (A ++ c :: X) with
      | none => rw [h2] at hp; cases hp
      | some y =>
        obtain ⟨v', r'⟩ := y
        rw [h2] at hp
        simp only [Option.map_some, Option.some.injEq, Prod.mk.injEq] at hp
        obtain ⟨rfl, hr'⟩ := hp
        have hl := partOf_len h1
        have hl2 := dw_le bl r
        rw [sumOf_some hA' h2, sumOf_some hA h1, hr']
        by_cases hz : r.dropWhile bl = []
        · rw [if_pos hz, hz, sumOf_nil]; rfl
        · rw [if_neg hz, sumOf_app hc hX k (r.dropWhile bl) (by omega) hz]
          cases sumOf (r.dropWhile bl) with
          | none => rfl
          | some m =>
            cases sumOf (X.dropWhile bl) with
            | none => rfl
            | some m' => simp [Nat.add_assoc]
end Go.Proofs.YtcllimfaoajapaaDoor.Ts
