/-
  Layer 12 (words): digits to the base 16; what stands behind a backslash.
-/
import Derived.Test.YtffmchbcpihjhaaWdRead
namespace Go.Proofs.Ytffmchbcpihjhaa.Wd
open Go.RowKit
set_option maxRecDepth 100000

def hexV (b : UInt8) : Value := match hexN b with
  | some d => .tuple #[.int .u8 d, .bool true]
  | none => .tuple #[.int .u8 0, .bool false]
set_option maxHeartbeats 1600000 in
theorem digit_at (b : UInt8) (w : World) : Calls Try.prog 34 #[.int .u8 (b.toNat : Int)] w fun e w' => e = .returned (hexV b) ∧ w = w' := by
  have hlt := b.toNat_lt
  unfold hexV hexN
  generalize b.toNat = n at *
  by_cases h1 : 48 ≤ n ∧ n ≤ 57
  · rw [if_pos h1]
    obtain ⟨d, rfl⟩ : ∃ d, n = 48 + d := ⟨n - 48, by omega⟩
    rw [Nat.add_sub_cancel_left]
    clear hlt
    have a1 : (48 : Int) ≤ ((48 + d : Nat) : Int) := by omega
    have a2 : ((48 + d : Nat) : Int) ≤ 57 := by omega
    have a3 : ((48 + d : Nat) : Int) - 48 = (d : Int) := by omega
    have hd : (d : Int) ≤ 9 := by omega
    clear h1
    generalize ((48 + d : Nat) : Int) = x at *
    go_enter Try.func34, Try.ntmps34
    go_wp2
    go_ret2
    exact ⟨rfl, rfl⟩
  · rw [if_neg h1]
    by_cases h2 : 97 ≤ n ∧ n ≤ 102
    · rw [if_pos h2]
      obtain ⟨d, rfl⟩ : ∃ d, n = 97 + d := ⟨n - 97, by omega⟩
      rw [Nat.add_sub_cancel_left]
      have b1 : ¬ ((97 + d : Nat) : Int) ≤ 57 := by omega
      have b0 : (48 : Int) ≤ ((97 + d : Nat) : Int) := by omega
      have a1 : (97 : Int) ≤ ((97 + d : Nat) : Int) := by omega
      have a2 : ((97 + d : Nat) : Int) ≤ 102 := by omega
      have a3 : ((97 + d : Nat) : Int) - 97 = (d : Int) := by omega
      have hd : (d : Int) ≤ 9 := by omega
      clear h1 h2 hlt
      generalize ((97 + d : Nat) : Int) = x at *
      go_enter Try.func34, Try.ntmps34
      go_wp2
      go_ret2
      exact ⟨rfl, rfl⟩
    · rw [if_neg h2]
      by_cases h3 : 65 ≤ n ∧ n ≤ 70
      · rw [if_pos h3]
        obtain ⟨d, rfl⟩ : ∃ d, n = 65 + d := ⟨n - 65, by omega⟩
        rw [Nat.add_sub_cancel_left]
        have b1 : ¬ ((65 + d : Nat) : Int) ≤ 57 := by omega
        have b0 : (48 : Int) ≤ ((65 + d : Nat) : Int) := by omega
        have b3 : ¬ (97 : Int) ≤ ((65 + d : Nat) : Int) := by omega
        have a1 : (65 : Int) ≤ ((65 + d : Nat) : Int) := by omega
        have a2 : ((65 + d : Nat) : Int) ≤ 70 := by omega
        have a3 : ((65 + d : Nat) : Int) - 65 = (d : Int) := by omega
        have hd : (d : Int) ≤ 9 := by omega
        clear h1 h2 h3 hlt
        generalize ((65 + d : Nat) : Int) = x at *
        go_enter Try.func34, Try.ntmps34
        go_wp2
        go_ret2
        exact ⟨rfl, rfl⟩
      · rw [if_neg h3]
        rcases Nat.lt_or_ge n 48 with q | q
        · have a1 : ¬ (48 : Int) ≤ (n : Int) := by omega
          have a2 : ¬ (97 : Int) ≤ (n : Int) := by omega
          have a3 : ¬ (65 : Int) ≤ (n : Int) := by omega
          clear h1 h2 h3 hlt q
          generalize (n : Int) = x at *
          go_enter Try.func34, Try.ntmps34
          go_wp2
          go_ret2
          exact ⟨rfl, rfl⟩
        · have a1 : (48 : Int) ≤ (n : Int) := by omega
          have a2 : ¬ (n : Int) ≤ 57 := by omega
          rcases Nat.lt_or_ge n 65 with q2 | q2
          · have a3 : ¬ (97 : Int) ≤ (n : Int) := by omega
            have a4 : ¬ (65 : Int) ≤ (n : Int) := by omega
            clear h1 h2 h3 hlt q q2
            generalize (n : Int) = x at *
            go_enter Try.func34, Try.ntmps34
            go_wp2
            go_ret2
            exact ⟨rfl, rfl⟩
          · have a4 : (65 : Int) ≤ (n : Int) := by omega
            have a5 : ¬ (n : Int) ≤ 70 := by omega
            rcases Nat.lt_or_ge n 97 with q3 | q3
            · have a6 : ¬ (97 : Int) ≤ (n : Int) := by omega
              clear h1 h2 h3 hlt q q2 q3
              generalize (n : Int) = x at *
              go_enter Try.func34, Try.ntmps34
              go_wp2
              go_ret2
              exact ⟨rfl, rfl⟩
            · have a6 : (97 : Int) ≤ (n : Int) := by omega
              have a7 : ¬ (n : Int) ≤ 102 := by omega
              clear h1 h2 h3 hlt q q2 q3
              generalize (n : Int) = x at *
              go_enter Try.func34, Try.ntmps34
              go_wp2
              go_ret2
              exact ⟨rfl, rfl⟩
end Go.Proofs.Ytffmchbcpihjhaa.Wd
