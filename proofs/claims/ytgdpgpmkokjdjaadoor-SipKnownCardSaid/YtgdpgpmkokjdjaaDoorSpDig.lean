/-
  Digits to the base 16: what sip.digit and clepsydraref04.digit answer; which key a text tells.
-/
import Derived.Test.YtgdpgpmkokjdjaaDoorChecked
import Derived.Test.YtgdpgpmkokjdjaaDoorSpTake
namespace Go.Proofs.YtgdpgpmkokjdjaaDoor.Sp
open Go.RowKit

/-- What a byte tells as a digit; -1: it is none. -/
def dig (c : Int) : Int := if 48 ≤ c ∧ c ≤ 57 then c - 48 else if 97 ≤ c ∧ c ≤ 102 then c - 87 else if 65 ≤ c ∧ c ≤ 70 then c - 55 else -1
theorem dig_a {c : Int} (h : 48 ≤ c ∧ c ≤ 57) : dig c = c - 48 := by unfold dig; rw [if_pos h]
theorem dig_b {c : Int} (h : 97 ≤ c ∧ c ≤ 102) : dig c = c - 87 := by unfold dig; rw [if_neg (by omega), if_pos h]
theorem dig_c {c : Int} (h : 65 ≤ c ∧ c ≤ 70) : dig c = c - 55 := by unfold dig; rw [if_neg (by omega), if_neg (by omega), if_pos h]
theorem dig_d {c : Int} (h1 : ¬ (48 ≤ c ∧ c ≤ 57)) (h2 : ¬ (97 ≤ c ∧ c ≤ 102)) (h3 : ¬ (65 ≤ c ∧ c ≤ 70)) : dig c = -1 := by unfold dig; rw [if_neg h1, if_neg h2, if_neg h3]
theorem dig_rng (c : Int) : -1 ≤ dig c ∧ dig c ≤ 15 := by unfold dig; split <;> (try split) <;> (try split) <;> omega
theorem ret_dig {a b : Int} (h : a = b) : Ending.returned (.tuple #[.int .u8 a, .bool true]) = .returned (.tuple #[.int .u8 b, .bool true]) := by rw [h]

set_option maxHeartbeats 1000000 in
theorem digit_any (c : Int) (w : World) (h0 : 0 ≤ c) (h1 : c ≤ 255) :
    Calls Tryd.prog 23 #[.int .u8 c] w fun e w' => e = .returned (if 0 ≤ dig c then .tuple #[.int .u8 (dig c), .bool true] else .tuple #[.int .u8 0, .bool false]) ∧ w = w' := by
  by_cases ha : 48 ≤ c ∧ c ≤ 57
  · rw [dig_a ha, if_pos (by omega)]
    obtain ⟨a1, a2⟩ := ha
    go_enter Tryd.func23, Tryd.ntmps23
    go_wp2
    go_ret2
    exact ⟨rfl, rfl⟩
  · by_cases hb : 97 ≤ c ∧ c ≤ 102
    · rw [dig_b hb, if_pos (by omega)]
      obtain ⟨b1, b2⟩ := hb
      clear ha
      go_enter Tryd.func23, Tryd.ntmps23
      go_wp2
      go_ret2
      exact ⟨ret_dig (by omega), rfl⟩
    · by_cases hc : 65 ≤ c ∧ c ≤ 70
      · rw [dig_c hc, if_pos (by omega)]
        obtain ⟨c1, c2⟩ := hc
        clear ha hb
        go_enter Tryd.func23, Tryd.ntmps23
        go_wp2
        go_ret2
        exact ⟨ret_dig (by omega), rfl⟩
      · rw [dig_d ha hb hc, if_neg (by omega)]
        go_enter Tryd.func23, Tryd.ntmps23
        go_wp2
        all_goals first
          | (go_ret2; exact ⟨rfl, rfl⟩)
          | omega

set_option maxHeartbeats 1000000 in
theorem rdigit_any (c : Int) (w : World) (h0 : 0 ≤ c) (h1 : c ≤ 255) :
    Calls Tryd.prog 24 #[.int .u8 c] w fun e w' => e = .returned (.int .i64 (dig c)) ∧ w = w' := by
  by_cases ha : 48 ≤ c ∧ c ≤ 57
  · rw [dig_a ha]
    obtain ⟨a1, a2⟩ := ha
    go_enter Tryd.func24, Tryd.ntmps24
    go_wp2
    go_ret
    exact ⟨rfl, rfl⟩
  · by_cases hb : 97 ≤ c ∧ c ≤ 102
    · rw [dig_b hb]
      obtain ⟨b1, b2⟩ := hb
      clear ha
      go_enter Tryd.func24, Tryd.ntmps24
      go_wp2
      go_ret
      exact ⟨ret_int (by omega), rfl⟩
    · by_cases hc : 65 ≤ c ∧ c ≤ 70
      · rw [dig_c hc]
        obtain ⟨c1, c2⟩ := hc
        clear ha hb
        go_enter Tryd.func24, Tryd.ntmps24
        go_wp2
        go_ret
        exact ⟨ret_int (by omega), rfl⟩
      · rw [dig_d ha hb hc]
        go_enter Tryd.func24, Tryd.ntmps24
        go_wp2
        all_goals first
          | (go_ret; exact ⟨rfl, rfl⟩)
          | omega
end Go.Proofs.YtgdpgpmkokjdjaaDoor.Sp

