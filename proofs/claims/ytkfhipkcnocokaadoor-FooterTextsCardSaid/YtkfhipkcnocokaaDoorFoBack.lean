/-
  Layer 7 (footer): a rule's text is read back. Nothing of the program stands here.
-/
import Derived.Test.YtkfhipkcnocokaaDoorFoText6
namespace Go.Proofs.YtkfhipkcnocokaaDoor.Fo
open Go.RowKit

/-- What follows does not go on with bytes of which p holds. -/
def Hd (p : Nat → Bool) (l : List UInt8) : Prop := ∀ b t, l = b :: t → p b.toNat = false
theorem Hd.nil (p : Nat → Bool) : Hd p [] := fun _ _ h => by cases h
theorem Hd.cons {p : Nat → Bool} {b : UInt8} (h : p b.toNat = false) (t : List UInt8) : Hd p (b :: t) := fun _ _ e => by cases e; exact h
theorem Hd.take {p : Nat → Bool} {l : List UInt8} (h : Hd p l) : l.takeWhile (fun b => p b.toNat) = [] ∧ l.dropWhile (fun b => p b.toNat) = l := by
  cases l with
  | nil => exact ⟨rfl, rfl⟩
  | cons b t => rw [List.takeWhile_cons, List.dropWhile_cons, h b t rfl]; exact ⟨rfl, rfl⟩
theorem run_app {p : Nat → Bool} {x rest : List UInt8} (w : Bool) (hx : x.all (fun b => p b.toNat) = true) (hr : Hd p rest) : runV p ⟨x ++ rest, w⟩ = x ∧ runS p ⟨x ++ rest, w⟩ = ⟨rest, w⟩ := by
  have hx' : ∀ b ∈ x, p b.toNat = true := fun b hb => List.all_eq_true.mp hx b hb
  unfold runV runS
  simp only
  rw [List.takeWhile_append_of_pos hx', List.dropWhile_append_of_pos hx', hr.take.1, hr.take.2, List.append_nil]
  exact ⟨rfl, rfl⟩
/-! ### Numbers -/
def dig (n : Nat) : UInt8 := UInt8.ofNat (48 + n)
def dec3 (n : Nat) : List UInt8 := if n < 10 then [dig n] else if n < 100 then [dig (n / 10), dig (n % 10)] else [dig (n / 100), dig (n / 10 % 10), dig (n % 10)]
theorem dec_one (n : Nat) (h : n < 10) : dec n = [dig n] := by
  unfold dec
  rw [Lib.decDigits, dif_pos h]
  rfl
theorem dec_more (n : Nat) (h : ¬ n < 10) : dec n = dec (n / 10) ++ [dig (n % 10)] := by
  unfold dec
  rw [Lib.decDigits, dif_neg h]
  rfl
theorem dec_is (n : Nat) (h : n < 1000) : dec n = dec3 n := by
  unfold dec3
  by_cases h1 : n < 10
  · rw [if_pos h1, dec_one n h1]
  · rw [if_neg h1, dec_more n h1]
    by_cases h2 : n < 100
    · rw [if_pos h2, dec_one _ (by omega)]; rfl
    · rw [if_neg h2, dec_more (n / 10) (by omega), dec_one (n / 10 / 10) (by omega), show n / 10 / 10 = n / 100 by omega]
      rfl
theorem dec3_all : ∀ n : Fin 1000, atoiV (dec3 n) = ((n : Nat) : Int) ∧ (dec3 n).all (fun b => dgt b.toNat) = true ∧ 1 ≤ (dec3 n).length ∧ (dec3 n).length ≤ 3 := by decide +kernel
theorem num_app (n : Nat) (hn : n < 1000) (few most : Int) (rest : List UInt8) (w : Bool) (hr : Hd dgt rest) (hf : few ≤ ((dec n).length : Int)) (hm : ((dec n).length : Int) ≤ most) :
    numV ⟨dec n ++ rest, w⟩ = (n : Int) ∧ numS few most ⟨dec n ++ rest, w⟩ = ⟨rest, w⟩ := by
  obtain ⟨h1, h2, h3, h4⟩ := dec3_all ⟨n, hn⟩
  simp only [← dec_is n hn] at h1 h2 h3 h4
  obtain ⟨r1, r2⟩ := run_app w h2 hr
  unfold numV numS
  rw [r1, r2]
  refine ⟨h1, ?_⟩
  unfold St.need inB
  simp [hf, hm]
theorem num_1 (n : Nat) (hn : n < 1000) (rest : List UInt8) (w : Bool) (hr : Hd dgt rest) : numV ⟨dec n ++ rest, w⟩ = (n : Int) ∧ numS 1 3 ⟨dec n ++ rest, w⟩ = ⟨rest, w⟩ := by
  obtain ⟨h1, h2, h3, h4⟩ := dec3_all ⟨n, hn⟩
  simp only [← dec_is n hn] at h1 h2 h3 h4
  exact num_app n hn 1 3 rest w hr (by omega) (by omega)
theorem num_w (n : Nat) (hn : n < 10) (rest : List UInt8) (w : Bool) (hr : Hd dgt rest) : numV ⟨dec n ++ rest, w⟩ = (n : Int) ∧ numS 1 1 ⟨dec n ++ rest, w⟩ = ⟨rest, w⟩ :=
  num_app n (by omega) 1 1 rest w hr (by rw [dec_one n hn]; simp) (by rw [dec_one n hn]; simp)
/-- Two digits. -/
theorem six_all : ∀ n : Fin 60, atoiV [dig (n / 10), dig (n % 10)] = ((n : Nat) : Int) ∧ [dig (n / 10), dig (n % 10)].all (fun b => dgt b.toNat) = true := by decide +kernel
theorem sixL_is (n : Nat) (h : n < 60) : sixL n = 58 :: [dig (n / 10), dig (n % 10)] := by
  unfold sixL
  rw [dec_one _ (by omega), dec_one _ (by omega)]
  rfl
theorem six_app (n : Nat) (h : n < 60) (rest : List UInt8) (w : Bool) (hr : Hd dgt rest) :
    nextB 58 ⟨sixL n ++ rest, w⟩ = true ∧ numV (nextS 58 ⟨sixL n ++ rest, w⟩) = (n : Int) ∧ sixS (nextS 58 ⟨sixL n ++ rest, w⟩) = ⟨rest, w⟩ := by
  obtain ⟨h1, h2⟩ := six_all ⟨n, h⟩
  simp only at h1 h2
  rw [sixL_is n h]
  have e : nextS 58 ⟨58 :: [dig (n / 10), dig (n % 10)] ++ rest, w⟩ = ⟨[dig (n / 10), dig (n % 10)] ++ rest, w⟩ := rfl
  rw [e]
  obtain ⟨r1, r2⟩ := run_app w h2 hr
  have v : numV ⟨[dig (n / 10), dig (n % 10)] ++ rest, w⟩ = (n : Int) := by unfold numV; rw [r1]; exact h1
  refine ⟨rfl, v, ?_⟩
  unfold sixS numS
  rw [v, r1, r2]
  unfold St.need inB
  have : ((n : Nat) : Int) ≤ 59 := by omega
  simp [this]
end Go.Proofs.YtkfhipkcnocokaaDoor.Fo
