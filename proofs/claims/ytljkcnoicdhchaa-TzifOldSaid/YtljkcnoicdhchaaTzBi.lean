/-
  Layer 6 (tzif): the footer, read: its first byte.
-/
import Derived.Test.YtljkcnoicdhchaaTzBh
namespace Go.Proofs.Ytljkcnoicdhchaa.Tz
open Go.RowKit

set_option maxRecDepth 100000 in
set_option maxHeartbeats 400000 in
theorem foot_b (p x : Nat) (l : List Nat) (B g : Nat) (w : World) (h : Rd w B g l) (hl : l.length = p + 1) (hp : 1 ≤ p) (hx : l[0]? = some x) (hne : x ≠ 10) :
    Calls Try.prog 48 #[.pointer (some ⟨g, 0, none⟩)] w fun e w' => e = .returned (.tuple #[.string ⟨#[]⟩, .bool false]) ∧ w = w' := by
  obtain ⟨⟨A, n, c, h1, h2, h3, h4, h5⟩, _⟩ := h
  have hn : n = p + 1 := by omega
  rcases h5 with ⟨_, e⟩ | ⟨gb, off, rfl, _, hc⟩
  · omega
  have k0 := hc 0 x hx
  rw [Nat.add_zero] at k0
  unfold by8 at k0
  have e6 : (n : Int) - 1 = (p : Int) := by omega
  have hj0 : (1 : Int) ≤ (p : Int) := by omega
  have hj2 : ¬ (p : Int) < 1 := by omega
  have hj3 : (0 : Int) < (n : Int) := by omega
  have hj4 : (n : Int) ≤ 9223372036854775807 := by omega
  have q0 : decide ((p : Int) < 1) = false := by simp; omega
  have q1 : decide ((x : Int) = 10) = false := by simp; omega
  have q2 : ((x : Int) == 10) = false := by simp; omega
  have q3 : ((x : Int) != 10) = true := by simp; omega
  clear hc hx hne h2 h3 h4 hl hp hn
  go_enter Try.func48, Try.ntmps48
  go_wp2_with fail
  go_ret2
  exact ⟨rfl, rfl⟩
set_option maxRecDepth 100000 in
set_option maxHeartbeats 400000 in
theorem foot_c (p : Nat) (l : List Nat) (B g : Nat) (w : World) (h : Rd w B g l) (hl : l.length = p + 1) (hp : 1 ≤ p) (hx : l[0]? = some 10) (y : Nat) (hy : l[p]? = some y) (hne : y ≠ 10) :
    Calls Try.prog 48 #[.pointer (some ⟨g, 0, none⟩)] w fun e w' => e = .returned (.tuple #[.string ⟨#[]⟩, .bool false]) ∧ w = w' := by
  obtain ⟨⟨A, n, c, h1, hs⟩, _⟩ := h
  obtain ⟨h2, h3, h4, h5⟩ := id hs
  have hn : n = p + 1 := by omega
  rcases h5 with ⟨_, e⟩ | ⟨gb, off, rfl, _, hc⟩
  · omega
  have k0 := hc 0 10 hx
  rw [Nat.add_zero] at k0
  have k1 := hc p y hy
  unfold by8 at k0 k1
  have e6 : (n : Int) - 1 = (p : Int) := by omega
  have hj0 : (1 : Int) ≤ (p : Int) := by omega
  have hj2 : ¬ (p : Int) < 1 := by omega
  have hj3 : (0 : Int) < (n : Int) := by omega
  have hj4 : (n : Int) ≤ 9223372036854775807 := by omega
  have hj5 : (p : Int) < (n : Int) := by omega
  have hj6 : (0 : Int) ≤ (p : Int) := by omega
  have q0 : decide ((p : Int) < 1) = false := by simp; omega
  have q1 : decide ((y : Int) = 10) = false := by simp; omega
  have q2 : ((y : Int) == 10) = false := by simp; omega
  have q3 : ((y : Int) != 10) = true := by simp; omega
  clear hne
  clear hc hx hy h2 h3 h4 hl hp hn hs
  go_enter Try.func48, Try.ntmps48
  go_wp2_with fail
  go_ret2
  exact ⟨rfl, rfl⟩
set_option maxRecDepth 100000 in
set_option maxHeartbeats 400000 in
theorem foot_d (p : Nat) (l : List Nat) (B g : Nat) (w : World) (h : Rd w B g l) (hl : l.length = p + 1) (hp : 1 ≤ p) (hx : l[0]? = some 10) (hy : l[p]? = some 10) :
    Calls Try.prog 48 #[.pointer (some ⟨g, 0, none⟩)] w fun e w' => e = .returned (.tuple #[.string (strOfNums (natsI ((l.drop 1).take (p - 1)))), .bool true]) ∧ w = w' := by
  obtain ⟨⟨A, n, c, h1, hs⟩, _⟩ := h
  obtain ⟨h2, h3, h4, h5⟩ := id hs
  have hn : n = p + 1 := by omega
  rcases h5 with ⟨_, e⟩ | ⟨gb, off, rfl, _, hc⟩
  · omega
  have k0 := hc 0 10 hx
  rw [Nat.add_zero] at k0
  have k1 := hc p 10 hy
  unfold by8 at k0 k1
  have e6 : (n : Int) - 1 = (p : Int) := by omega
  have hj0 : (1 : Int) ≤ (p : Int) := by omega
  have hj2 : ¬ (p : Int) < 1 := by omega
  have hj3 : (0 : Int) < (n : Int) := by omega
  have hj4 : (n : Int) ≤ 9223372036854775807 := by omega
  have hj5 : (p : Int) < (n : Int) := by omega
  have hj6 : (0 : Int) ≤ (p : Int) := by omega
  have q0 : decide ((p : Int) < 1) = false := by simp; omega
  have hpc : (p : Int) ≤ (c : Int) := by omega
  have hck : ¬ c - 1 = 0 := by omega
  have ht : (convert 33 9 (.slice (some ⟨gb, off + 1, none⟩) (p - 1) (c - 1))).run Try.prog w = .ok (.string (strOfNums (natsI ((l.drop 1).take (p - 1))))) w := ((hs.drop (k := 1) (by omega)).take (k := p - 1) (by omega)).texts
  obtain ⟨S, hS⟩ : ∃ S, strOfNums (natsI ((l.drop 1).take (p - 1))) = S := ⟨_, rfl⟩
  rw [hS] at ht ⊢
  clear hS
  clear hc hx hy h2 h3 h4 hl hp hn hs
  go_enter Try.func48, Try.ntmps48
  go_wp2_with fail
  go_ret2
  exact ⟨rfl, rfl⟩
/-- A footer's text: what stands between two line ends. -/
def footT (l : List Nat) : Option (List Nat) := if 2 ≤ l.length ∧ l[0]? = some 10 ∧ l[l.length - 1]? = some 10 then some ((l.drop 1).take (l.length - 2)) else none
def footV : Option (List Nat) → Value
  | none => .tuple #[.string ⟨#[]⟩, .bool false]
  | some t => .tuple #[.string (strOfNums (natsI t)), .bool true]
theorem footer_any (l : List Nat) (B g : Nat) (w : World) (h : Rd w B g l) :
    Calls Try.prog 48 #[.pointer (some ⟨g, 0, none⟩)] w fun e w' => e = .returned (footV (footT l)) ∧ w = w' := by
  by_cases h2 : l.length < 2
  · rw [show footT l = none by unfold footT; rw [if_neg]; omega]
    exact foot_a l B g w h h2
  · obtain ⟨p, hp⟩ : ∃ p, l.length = p + 1 := ⟨l.length - 1, by omega⟩
    obtain ⟨x, hx⟩ : ∃ x, l[0]? = some x := ⟨_, List.getElem?_eq_getElem (by omega)⟩
    obtain ⟨y, hy⟩ : ∃ y, l[p]? = some y := ⟨_, List.getElem?_eq_getElem (by omega)⟩
    have e1 : l.length - 1 = p := by omega
    have e2 : l.length - 2 = p - 1 := by omega
    by_cases h0 : x = 10
    · by_cases h1 : y = 10
      · subst h0; subst h1
        rw [show footT l = some ((l.drop 1).take (p - 1)) by unfold footT; rw [e1, e2, if_pos ⟨by omega, hx, hy⟩]]
        exact foot_d p l B g w h hp (by omega) hx hy
      · rw [show footT l = none by unfold footT; rw [e1, if_neg]; rintro ⟨_, _, h3⟩; rw [hy] at h3; injection h3 with h3; exact h1 h3]
        subst h0
        exact foot_c p l B g w h hp (by omega) hx y hy h1
    · rw [show footT l = none by unfold footT; rw [if_neg]; rintro ⟨_, h3, _⟩; rw [hx] at h3; injection h3 with h3; exact h0 h3]
      exact foot_b p x l B g w h hp (by omega) hx h0
end Go.Proofs.Ytljkcnoicdhchaa.Tz
