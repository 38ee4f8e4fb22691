/-
  Layer 6 (tzif): letters at a place: one contract.
-/
import Derived.Test.YtljkcnoicdhchaaTzBj
namespace Go.Proofs.Ytljkcnoicdhchaa.Tz
open Go.RowKit

def till0 (l : List Nat) : List Nat := l.takeWhile fun b => decide (b ≠ 0)
theorem take_till0 : ∀ l : List Nat, l.take (till0 l).length = till0 l
  | [] => rfl
  | b :: l => by
    unfold till0
    by_cases h : b = 0
    · simp [h]
    · have := take_till0 l
      unfold till0 at this
      simp [h]
      simpa using this
theorem till0_len (l : List Nat) : (till0 l).length ≤ l.length := by
  unfold till0
  exact (List.takeWhile_sublist _).length_le
theorem zeroAt_nil : zeroAt [] = -1 := by unfold zeroAt natsI; rw [show Lib.bytesOf [0] = [0] from rfl, Lib.index_one]; rfl
theorem zeroAt_cons (b : Nat) (l : List Nat) (hb : b < 256) : zeroAt (b :: l) = if b = 0 then 0 else if zeroAt l = -1 then -1 else zeroAt l + 1 := by
  unfold zeroAt natsI
  rw [show Lib.bytesOf [0] = [0] from rfl, Lib.index_one, Lib.index_one]
  show (if (UInt8.ofNat b == 0) then (0 : Int) else if Lib.indexByte (Lib.bytesOf (List.map (fun n : Nat => (n : Int)) l)) 0 == -1 then -1 else Lib.indexByte (Lib.bytesOf (List.map (fun n : Nat => (n : Int)) l)) 0 + 1) = _
  have e : (UInt8.ofNat b == 0) = decide (b = 0) := by
    by_cases h : b = 0
    · subst h; rfl
    · have : UInt8.ofNat b ≠ 0 := by
        intro hx
        have := congrArg UInt8.toNat hx
        simp at this
        omega
      simp [h, this]
  rw [e]
  simp only [decide_eq_true_eq, beq_iff_eq]
theorem zeroAt_any : ∀ l : List Nat, (∀ b ∈ l, b < 256) → (0 ∉ l ∧ zeroAt l = -1) ∨ (0 ∈ l ∧ zeroAt l = ((till0 l).length : Int))
  | [], _ => .inl ⟨by simp, zeroAt_nil⟩
  | b :: l, h => by
    rw [zeroAt_cons b l (h b (by simp))]
    by_cases h0 : b = 0
    · right
      subst h0
      exact ⟨by simp, by unfold till0; simp⟩
    · rw [if_neg h0]
      rcases zeroAt_any l (fun x hx => h x (by simp [hx])) with ⟨h1, h2⟩ | ⟨h1, h2⟩
      · left
        exact ⟨by simp [h1, Ne.symm h0], by rw [if_pos h2]⟩
      · right
        refine ⟨by simp [h1], ?_⟩
        rw [h2, if_neg (by omega)]
        unfold till0
        simp [h0]
/-- Letters at a place, up to the next 0. -/
def lettersV (l : List Nat) (p : Nat) : Option (List Nat) := if 0 ∈ l.drop p then some (till0 (l.drop p)) else none
theorem lettersAt_any (p : Nat) (l : List Nat) (B n c : Nat) (A : Option Addr) (m : Int) (w : World) (h : SB w B A n c l) (hB : B ≤ w.heap.size) (hb : ∀ b ∈ l, b < 256) (hs : n < 4294967281) (h0 : 0 < w.heap.size) (hm : w.cell? ⟨0, 0, none⟩ = some (.int .i64 m)) :
    Calls Try.prog 61 #[.slice A n c, .int .i64 p] w fun e w' => (∃ S ok, e = .returned (.tuple #[.string S, .bool ok]) ∧ ok = (lettersV l p).isSome ∧ ∀ t, lettersV l p = some t → S = strOfNums (natsI t)) ∧ Below w.heap.size w w' := by
  by_cases hp : p < n
  · have h4 := h.2.2.2
    rcases h4 with ⟨rfl, hc⟩ | ⟨gb, off, rfl, _, _⟩
    · have := h.2.1; omega
    rcases zeroAt_any (l.drop p) (fun b hx => hb b (List.mem_of_mem_drop hx)) with ⟨h1, h2⟩ | ⟨h1, h2⟩
    · refine (letters_c p l B gb off n c m w h hp hB hb hs h0 hm h2).mono ?_
      rintro e w' ⟨he, hw⟩
      exact ⟨⟨_, _, he, by unfold lettersV; rw [if_neg h1]; rfl, by unfold lettersV; rw [if_neg h1]; intro t ht; cases ht⟩, hw⟩
    · refine (letters_b p l B gb off n c m w h hp hB hb hs h0 hm _ h2 (by have := till0_len (l.drop p); rw [List.length_drop] at this; have := h.1; omega)).mono ?_
      rintro e w' ⟨he, hw⟩
      rw [take_till0] at he
      exact ⟨⟨_, _, he, by unfold lettersV; rw [if_pos h1]; rfl, by unfold lettersV; rw [if_pos h1]; intro t ht; injection ht with ht; rw [ht]⟩, hw⟩
  · have h1 : 0 ∉ l.drop p := by
      rw [List.drop_eq_nil_of_le (by have := h.1; omega)]
      simp
    refine (letters_a p A n c w (by omega)).mono ?_
    rintro e w' ⟨he, rfl⟩
    exact ⟨⟨_, _, he, by unfold lettersV; rw [if_neg h1]; rfl, by unfold lettersV; rw [if_neg h1]; intro t ht; cases ht⟩, Below.refl _ _⟩
end Go.Proofs.Ytljkcnoicdhchaa.Tz
