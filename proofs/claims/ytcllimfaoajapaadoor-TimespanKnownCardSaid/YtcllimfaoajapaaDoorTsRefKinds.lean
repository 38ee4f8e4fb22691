/-
  The document's own bytes: which is a digit, a letter, a blank. Runs of a text from a place on. (Made by hand.)
-/
import Derived.Test.YtcllimfaoajapaaDoorTsParse
namespace Go.Proofs.YtcllimfaoajapaaDoor.Ts
open Go.RowKit

set_option maxHeartbeats 400000 in
theorem rdigit_lo (c : UInt8) (w : World) (h : decide (48 ≤ (c.toNat : Int)) = false) :
    Calls Tryd.prog 33 #[.int .u8 (c.toNat : Int)] w fun e w' => e = .returned (.bool false) ∧ w = w' := by
  go_enter Tryd.func33, Tryd.ntmps33
  go_wp2
  go_ret
  exact ⟨rfl, rfl⟩
set_option maxHeartbeats 400000 in
theorem rdigit_at (c : UInt8) (b : Bool) (w : World) (h : decide (48 ≤ (c.toNat : Int)) = true) (h2 : decide ((c.toNat : Int) ≤ 57) = b) :
    Calls Tryd.prog 33 #[.int .u8 (c.toNat : Int)] w fun e w' => e = .returned (.bool b) ∧ w = w' := by
  subst h2
  go_enter Tryd.func33, Tryd.ntmps33
  go_wp2
  go_ret
  exact ⟨rfl, rfl⟩
theorem rdigit (c : UInt8) (b : Bool) (w : World) (h : dg c = b) :
    Calls Tryd.prog 33 #[.int .u8 (c.toNat : Int)] w fun e w' => e = .returned (.bool b) ∧ w = w' := by
  subst h
  unfold dg
  cases h : decide (48 ≤ (c.toNat : Int))
  · exact rdigit_lo c w h
  · exact rdigit_at c _ w h rfl
set_option maxHeartbeats 400000 in
theorem rletter_a (c : UInt8) (w : World) (h0 : decide (97 ≤ (c.toNat : Int)) = true) (h1 : decide ((c.toNat : Int) ≤ 122) = true) :
    Calls Tryd.prog 34 #[.int .u8 (c.toNat : Int)] w fun e w' => e = .returned (.bool true) ∧ w = w' := by
  go_enter Tryd.func34, Tryd.ntmps34
  go_wp2
  go_ret
  exact ⟨rfl, rfl⟩
set_option maxHeartbeats 400000 in
theorem rletter_b (c : UInt8) (w : World) (h0 : decide (97 ≤ (c.toNat : Int)) = true) (h1 : decide ((c.toNat : Int) ≤ 122) = false) (h2 : decide (65 ≤ (c.toNat : Int)) = true) (h3 : decide ((c.toNat : Int) ≤ 90) = false) :
    Calls Tryd.prog 34 #[.int .u8 (c.toNat : Int)] w fun e w' => e = .returned (.bool false) ∧ w = w' := by
  go_enter Tryd.func34, Tryd.ntmps34
  go_wp2
  go_ret
  exact ⟨rfl, rfl⟩
set_option maxHeartbeats 400000 in
theorem rletter_c (c : UInt8) (w : World) (h0 : decide (97 ≤ (c.toNat : Int)) = false) (h1 : decide (65 ≤ (c.toNat : Int)) = true) (h2 : decide ((c.toNat : Int) ≤ 90) = true) :
    Calls Tryd.prog 34 #[.int .u8 (c.toNat : Int)] w fun e w' => e = .returned (.bool true) ∧ w = w' := by
  go_enter Tryd.func34, Tryd.ntmps34
  go_wp2
  go_ret
  exact ⟨rfl, rfl⟩
set_option maxHeartbeats 400000 in
theorem rletter_d (c : UInt8) (w : World) (h0 : decide (97 ≤ (c.toNat : Int)) = false) (h1 : decide (65 ≤ (c.toNat : Int)) = true) (h2 : decide ((c.toNat : Int) ≤ 90) = false) :
    Calls Tryd.prog 34 #[.int .u8 (c.toNat : Int)] w fun e w' => e = .returned (.bool false) ∧ w = w' := by
  go_enter Tryd.func34, Tryd.ntmps34
  go_wp2
  go_ret
  exact ⟨rfl, rfl⟩
set_option maxHeartbeats 400000 in
theorem rletter_e (c : UInt8) (w : World) (h0 : decide (97 ≤ (c.toNat : Int)) = false) (h1 : decide (65 ≤ (c.toNat : Int)) = false) :
    Calls Tryd.prog 34 #[.int .u8 (c.toNat : Int)] w fun e w' => e = .returned (.bool false) ∧ w = w' := by
  go_enter Tryd.func34, Tryd.ntmps34
  go_wp2
  go_ret
  exact ⟨rfl, rfl⟩
theorem rletter (c : UInt8) (b : Bool) (w : World) (h : lt c = b) :
    Calls Tryd.prog 34 #[.int .u8 (c.toNat : Int)] w fun e w' => e = .returned (.bool b) ∧ w = w' := by
  cases b
  · have h' : ¬ ((97 ≤ (c.toNat : Int) ∧ (c.toNat : Int) ≤ 122) ∨ (65 ≤ (c.toNat : Int) ∧ (c.toNat : Int) ≤ 90)) := by
      intro g; rw [show lt c = true by simp only [lt, Bool.or_eq_true, Bool.and_eq_true, decide_eq_true_eq]; exact g] at h; cases h
    by_cases h1 : 97 ≤ (c.toNat : Int)
    · exact rletter_b c w (decide_eq_true h1) (decide_eq_false (by omega)) (decide_eq_true (by omega)) (decide_eq_false (by omega))
    · by_cases h2 : 65 ≤ (c.toNat : Int)
      · exact rletter_d c w (decide_eq_false h1) (decide_eq_true h2) (decide_eq_false (by omega))
      · exact rletter_e c w (decide_eq_false h1) (decide_eq_false h2)
  · simp only [lt, Bool.or_eq_true, Bool.and_eq_true, decide_eq_true_eq] at h
    by_cases h1 : 97 ≤ (c.toNat : Int)
    · exact rletter_a c w (decide_eq_true h1) (decide_eq_true (by omega))
    · exact rletter_c c w (decide_eq_false h1) (decide_eq_true (by omega)) (decide_eq_true (by omega))
set_option maxHeartbeats 400000 in
theorem rblank_a (c : UInt8) (w : World) (h : ((c.toNat : Int) == 32) = true) :
    Calls Tryd.prog 17 #[.int .u8 (c.toNat : Int)] w fun e w' => e = .returned (.bool true) ∧ w = w' := by
  go_enter Tryd.func17, Tryd.ntmps17
  go_wp2
  go_ret
  exact ⟨rfl, rfl⟩
set_option maxHeartbeats 400000 in
theorem rblank_b (c : UInt8) (b : Bool) (w : World) (h : ((c.toNat : Int) == 32) = false) (h2 : ((c.toNat : Int) == 9) = b) :
    Calls Tryd.prog 17 #[.int .u8 (c.toNat : Int)] w fun e w' => e = .returned (.bool b) ∧ w = w' := by
  subst h2
  go_enter Tryd.func17, Tryd.ntmps17
  go_wp2
  go_ret
  exact ⟨rfl, rfl⟩
theorem rblank (c : UInt8) (b : Bool) (w : World) (h : bl c = b) :
    Calls Tryd.prog 17 #[.int .u8 (c.toNat : Int)] w fun e w' => e = .returned (.bool b) ∧ w = w' := by
  subst h
  unfold bl
  cases h : ((c.toNat : Int) == 32)
  · exact rblank_b c _ w h rfl
  · exact rblank_a c w h

/-! Runs of a text from a place on. -/
/-- How many bytes of a kind stand from a place on. -/
def run (p : UInt8 → Bool) (s : ByteArray) (i : Nat) : Nat := ((s.data.toList.drop i).takeWhile p).length
theorem run_le (p : UInt8 → Bool) (s : ByteArray) (i : Nat) (h : i ≤ s.size) : i + run p s i ≤ s.size := by
  have := tw_le p (s.data.toList.drop i)
  rw [List.length_drop, ← size_of] at this
  unfold run; omega
theorem byte_drop (s : ByteArray) (i k : Nat) (h : i + k < s.size) : s[i + k] = (s.data.toList.drop i)[k]'(by rw [List.length_drop, ← size_of]; omega) := by
  rw [at_byte s (i + k) h, List.getElem_drop]
theorem run_yes (p : UInt8 → Bool) (s : ByteArray) (i k : Nat) (h : i + k < s.size) (hk : k < run p s i) : p s[i + k] = true := by
  rw [byte_drop s i k h]; exact tw_yes p _ k _ hk
theorem run_no (p : UInt8 → Bool) (s : ByteArray) (i : Nat) (h : i + run p s i < s.size) : p s[i + run p s i] = false := by
  rw [byte_drop s i _ h]; exact tw_no p _ _
theorem run_drop (p : UInt8 → Bool) (s : ByteArray) (i : Nat) : s.data.toList.drop (i + run p s i) = (s.data.toList.drop i).dropWhile p := by
  rw [← drop_tw, List.drop_drop]; rfl
theorem run_ext (p : UInt8 → Bool) (s : ByteArray) (i : Nat) : s.extract i (i + run p s i) = ⟨((s.data.toList.drop i).takeWhile p).toArray⟩ := by
  refine mk_of _ _ ?_
  rw [Lib.extract_data, Nat.add_sub_cancel_left, ← take_tw]; rfl
theorem drop_cons (s : ByteArray) (i : Nat) (h : i < s.size) : s.data.toList.drop i = s[i] :: s.data.toList.drop (i + 1) := by
  rw [at_byte s i h]; exact List.drop_eq_getElem_cons _
theorem run_take (p : UInt8 → Bool) (s : ByteArray) (i k : Nat) (h : i + k < s.size) (hk : k < run p s i) : ((s.data.toList.drop i).takeWhile p).take (k + 1) = ((s.data.toList.drop i).takeWhile p).take k ++ [s[i + k]] := by
  rw [List.take_succ_eq_append_getElem hk]
  congr 2
  rw [byte_drop s i k h]
  have e : ((s.data.toList.drop i).takeWhile p)[k]? = (s.data.toList.drop i)[k]? := by
    rw [← take_tw, List.getElem?_take]
    split
    · rfl
    · rename_i h'; exact absurd hk h'
  have e1 := List.getElem?_eq_getElem (l := (s.data.toList.drop i).takeWhile p) hk
  have e2 := List.getElem?_eq_getElem (l := s.data.toList.drop i) (i := k) (by rw [List.length_drop, ← size_of]; omega)
  rw [e1, e2] at e
  exact Option.some.inj e
end Go.Proofs.YtcllimfaoajapaaDoor.Ts
