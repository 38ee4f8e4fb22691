/-
  Layer 7 (footer): the document's own bytes and names.
-/
import Derived.Test.YtkfhipkcnocokaaDoorFoWorks
namespace Go.Proofs.YtkfhipkcnocokaaDoor.Fo
open Go.RowKit
set_option maxRecDepth 100000

set_option maxHeartbeats 400000 in
theorem rdigit_lo (c : UInt8) (w : World) (h : decide (48 ≤ (c.toNat : Int)) = false) :
    Calls Tryd.prog 54 #[.int .u8 (c.toNat : Int)] w fun e w' => e = .returned (.bool false) ∧ w = w' := by
  go_enter Tryd.func54, Tryd.ntmps54
  go_wp2
  go_ret
  exact ⟨rfl, rfl⟩
set_option maxHeartbeats 400000 in
theorem rdigit_at (c : UInt8) (b : Bool) (w : World) (h : decide (48 ≤ (c.toNat : Int)) = true) (h2 : decide ((c.toNat : Int) ≤ 57) = b) :
    Calls Tryd.prog 54 #[.int .u8 (c.toNat : Int)] w fun e w' => e = .returned (.bool b) ∧ w = w' := by
  subst h2
  go_enter Tryd.func54, Tryd.ntmps54
  go_wp2
  go_ret
  exact ⟨rfl, rfl⟩
theorem rdigit (c : UInt8) (b : Bool) (w : World) (h : dgt c.toNat = b) :
    Calls Tryd.prog 54 #[.int .u8 (c.toNat : Int)] w fun e w' => e = .returned (.bool b) ∧ w = w' := by
  subst h
  unfold dgt
  by_cases h1 : 48 ≤ c.toNat
  · exact rdigit_at c _ w (decide_eq_true (by omega)) (by rw [Bool.eq_iff_iff, decide_eq_true_eq, decide_eq_true_eq]; omega)
  · rw [decide_eq_false (by omega)]; exact rdigit_lo c w (decide_eq_false (by omega))
set_option maxHeartbeats 400000 in
theorem rletter_a (c : UInt8) (w : World) (h0 : decide (65 ≤ (c.toNat : Int)) = true) (h1 : decide ((c.toNat : Int) ≤ 90) = true) :
    Calls Tryd.prog 53 #[.int .u8 (c.toNat : Int)] w fun e w' => e = .returned (.bool true) ∧ w = w' := by
  go_enter Tryd.func53, Tryd.ntmps53
  go_wp2
  go_ret
  exact ⟨rfl, rfl⟩
set_option maxHeartbeats 400000 in
theorem rletter_b (c : UInt8) (w : World) (h0 : decide (65 ≤ (c.toNat : Int)) = true) (h1 : decide ((c.toNat : Int) ≤ 90) = false) (h2 : decide (97 ≤ (c.toNat : Int)) = true) (b : Bool) (h3 : decide ((c.toNat : Int) ≤ 122) = b) :
    Calls Tryd.prog 53 #[.int .u8 (c.toNat : Int)] w fun e w' => e = .returned (.bool b) ∧ w = w' := by
  subst h3
  go_enter Tryd.func53, Tryd.ntmps53
  go_wp2
  go_ret
  exact ⟨rfl, rfl⟩
set_option maxHeartbeats 400000 in
theorem rletter_c (c : UInt8) (w : World) (h0 : decide (65 ≤ (c.toNat : Int)) = true) (h1 : decide ((c.toNat : Int) ≤ 90) = false) (h2 : decide (97 ≤ (c.toNat : Int)) = false) :
    Calls Tryd.prog 53 #[.int .u8 (c.toNat : Int)] w fun e w' => e = .returned (.bool false) ∧ w = w' := by
  go_enter Tryd.func53, Tryd.ntmps53
  go_wp2
  go_ret
  exact ⟨rfl, rfl⟩
set_option maxHeartbeats 400000 in
theorem rletter_d (c : UInt8) (w : World) (h0 : decide (65 ≤ (c.toNat : Int)) = false) (h2 : decide (97 ≤ (c.toNat : Int)) = false) :
    Calls Tryd.prog 53 #[.int .u8 (c.toNat : Int)] w fun e w' => e = .returned (.bool false) ∧ w = w' := by
  go_enter Tryd.func53, Tryd.ntmps53
  go_wp2
  go_ret
  exact ⟨rfl, rfl⟩
theorem rletter (c : UInt8) (b : Bool) (w : World) (h : ltr c.toNat = b) :
    Calls Tryd.prog 53 #[.int .u8 (c.toNat : Int)] w fun e w' => e = .returned (.bool b) ∧ w = w' := by
  subst h
  unfold ltr
  by_cases h1 : 65 ≤ c.toNat
  · by_cases h2 : c.toNat ≤ 90
    · rw [decide_eq_true (⟨h1, h2⟩ : 65 ≤ c.toNat ∧ c.toNat ≤ 90)]; exact rletter_a c w (decide_eq_true (by omega)) (decide_eq_true (by omega))
    · rw [decide_eq_false (by omega : ¬ (65 ≤ c.toNat ∧ c.toNat ≤ 90)), Bool.false_or]
      by_cases h3 : 97 ≤ c.toNat
      · exact rletter_b c w (decide_eq_true (by omega)) (decide_eq_false (by omega)) (decide_eq_true (by omega)) _ (by rw [Bool.eq_iff_iff, decide_eq_true_eq, decide_eq_true_eq]; omega)
      · rw [decide_eq_false (by omega)]; exact rletter_c c w (decide_eq_true (by omega)) (decide_eq_false (by omega)) (decide_eq_false (by omega))
  · rw [decide_eq_false (by omega : ¬ (65 ≤ c.toNat ∧ c.toNat ≤ 90)), decide_eq_false (by omega : ¬ (97 ≤ c.toNat ∧ c.toNat ≤ 122))]
    exact rletter_d c w (decide_eq_false (by omega)) (decide_eq_false (by omega))
/-- Bytes of a string: all of a kind, or a first one that is not. -/
theorem all_at {p : UInt8 → Bool} {s : ByteArray} (h : s.data.toList.all p = true) (k : Nat) (hk : k < s.size) : p s[k] = true := by
  refine List.all_eq_true.mp h _ ?_
  show s.data[k] ∈ s.data.toList
  exact Array.getElem_mem_toList _
theorem first_of (f : Nat → Bool) : ∀ n, (∃ j, j < n ∧ f j = false) → ∃ m, m < n ∧ (∀ k, k < m → f k = true) ∧ f m = false
  | 0, h => by obtain ⟨j, hj, _⟩ := h; omega
  | n + 1, h => by
    by_cases h' : ∃ j, j < n ∧ f j = false
    · obtain ⟨m, hm, a, b⟩ := first_of f n h'
      exact ⟨m, by omega, a, b⟩
    · obtain ⟨j, hj, hf⟩ := h
      have : j = n := by
        rcases Nat.lt_or_ge j n with hlt | hge
        · exact absurd ⟨j, hlt, hf⟩ h'
        · omega
      subst this
      refine ⟨j, by omega, fun k hk => ?_, hf⟩
      cases hfk : f k with
      | true => rfl
      | false => exact absurd ⟨k, hk, hfk⟩ h'
theorem first_bad {p : UInt8 → Bool} {s : ByteArray} (h : s.data.toList.all p = false) : ∃ m, ∃ hm : m < s.size, (∀ k (hk : k < s.size), k < m → p s[k] = true) ∧ p s[m] = false := by
  have hx : ∃ j, j < s.size ∧ (fun j => if hj : j < s.size then p s[j] else true) j = false := by
    have h2 : ¬ s.data.toList.all p = true := by rw [h]; decide
    rw [List.all_eq_true] at h2
    obtain ⟨b, hb, hpb⟩ : ∃ b, b ∈ s.data.toList ∧ ¬ p b = true := by
      refine Classical.byContradiction fun hn => h2 fun b hb => Classical.byContradiction fun hc => hn ⟨b, hb, hc⟩
    obtain ⟨j, hj, e⟩ := List.getElem_of_mem hb
    have hj' : j < s.size := by rw [Array.length_toList] at hj; exact hj
    refine ⟨j, hj', ?_⟩
    show (if hj : j < s.size then p s[j] else true) = false
    rw [dif_pos hj']
    have e2 : s[j] = b := by rw [← e]; rfl
    rw [e2]
    exact Bool.eq_false_iff.mpr hpb
  obtain ⟨m, hm, a, b⟩ := first_of _ s.size hx
  simp only [dif_pos hm] at b
  exact ⟨m, hm, fun k hk hkm => by have := a k hkm; simpa only [dif_pos hk] using this, b⟩
set_option maxHeartbeats 800000 in
theorem rplain_yes (s : ByteArray) (hs : s.size ≤ 1000) (w : World) (h : s.data.toList.all (fun b => ltr b.toNat) = true) :
    Calls Tryd.prog 55 #[.string s] w fun e w' => e = .returned (.bool true) ∧ w = w' := by
  have Y := Lib.hid (all_at h)
  clear h
  go_enter Tryd.func55, Tryd.ntmps55
  go_wp2
  go_loop [3] (fun i => ∃ k : Nat, k ≤ s.size ∧ i = .int .i64 k) (fun i => s.size - (intOf i).toNat)
  case atStart => exact ⟨0, Nat.zero_le _, rfl⟩
  case round =>
    obtain ⟨k, hk, rfl⟩ := hrel
    by_cases hks : k < s.size
    · have D := Lib.hid (Y.out k hks)
      go_wp2_with (go_at_call 53; refine (rletter _ _ _ D.out).mono ?_; rintro e w' ⟨rfl, rfl⟩)
      go_round
      case rel => exact ⟨k + 1, by omega, by go_num⟩
      case measure => simp [intOf]; omega
    · go_wp2
      go_ret
      exact ⟨rfl, rfl⟩
set_option maxHeartbeats 800000 in
theorem rplain_no (s : ByteArray) (hs : s.size ≤ 1000) (w : World) (h : s.data.toList.all (fun b => ltr b.toNat) = false) :
    Calls Tryd.prog 55 #[.string s] w fun e w' => e = .returned (.bool false) ∧ w = w' := by
  obtain ⟨m, hm, y, n⟩ := first_bad h
  have Y := Lib.hid y
  have N := Lib.hid n
  clear h y n
  go_enter Tryd.func55, Tryd.ntmps55
  go_wp2
  go_loop [3] (fun i => ∃ k : Nat, k ≤ m ∧ i = .int .i64 k) (fun i => s.size - (intOf i).toNat)
  case atStart => exact ⟨0, Nat.zero_le _, rfl⟩
  case round =>
    obtain ⟨k, hk, rfl⟩ := hrel
    have hks : k < s.size := by omega
    by_cases hkm : k < m
    · have D := Lib.hid (Y.out k hks hkm)
      go_wp2_with (go_at_call 53; refine (rletter _ _ _ D.out).mono ?_; rintro e w' ⟨rfl, rfl⟩)
      go_round
      case rel => exact ⟨k + 1, by omega, by go_num⟩
      case measure => simp [intOf]; omega
    · obtain rfl : k = m := by omega
      go_wp2_with (go_at_call 53; refine (rletter _ _ _ N.out).mono ?_; rintro e w' ⟨rfl, rfl⟩)
      go_ret
      exact ⟨rfl, rfl⟩
theorem rplain_any (s : ByteArray) (hs : s.size ≤ 1000) (w : World) :
    Calls Tryd.prog 55 #[.string s] w fun e w' => e = .returned (.bool (s.data.toList.all (fun b => ltr b.toNat))) ∧ w = w' := by
  cases h : s.data.toList.all (fun b => ltr b.toNat) with
  | true => exact rplain_yes s hs w h
  | false => exact rplain_no s hs w h
end Go.Proofs.YtkfhipkcnocokaaDoor.Fo
