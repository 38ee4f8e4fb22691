/-
  Layer 12 (words): the document's blanks and digits.
-/
import Derived.Test.YtffmchbcpihjhaaWdRead
namespace Go.Proofs.Ytffmchbcpihjhaa.Wd
open Go.RowKit
set_option maxRecDepth 100000

set_option maxHeartbeats 400000 in
theorem rblank_at (b : UInt8) (w : World) : Calls Try.prog 18 #[.int .u8 (b.toNat : Int)] w fun e w' => e = .returned (.bool (blk b)) ∧ w = w' := by
  have e1 : ((b.toNat : Int) == 32) = (b == 32) := u8_is b 32 (by decide)
  have e2 : ((b.toNat : Int) == 9) = (b == 9) := u8_is b 9 (by decide)
  unfold blk
  generalize (b == 32) = q1 at *
  generalize (b == 9) = q2 at *
  generalize (b.toNat : Int) = x at *
  cases q1 with
  | true =>
    go_enter Try.func18, Try.ntmps18
    go_wp2
    go_ret
    exact ⟨rfl, rfl⟩
  | false =>
    go_enter Try.func18, Try.ntmps18
    go_wp2
    go_ret
    exact ⟨rfl, rfl⟩
def hexZ (b : UInt8) : Int := match hexN b with
  | some d => (d : Int)
  | none => -1
set_option maxHeartbeats 1600000 in
theorem rhex_at (b : UInt8) (w : World) : Calls Try.prog 29 #[.int .u8 (b.toNat : Int)] w fun e w' => e = .returned (.int .i64 (hexZ b)) ∧ w = w' := by
  have hlt := b.toNat_lt
  unfold hexZ hexN
  generalize b.toNat = n at *
  by_cases h1 : 48 ≤ n ∧ n ≤ 57
  · rw [if_pos h1]
    obtain ⟨d, rfl⟩ : ∃ d, n = 48 + d := ⟨n - 48, by omega⟩
    rw [Nat.add_sub_cancel_left]
    clear hlt
    have a1 : (48 : Int) ≤ ((48 + d : Nat) : Int) := by omega
    have a2 : ((48 + d : Nat) : Int) ≤ 57 := by omega
    have a3 : ((48 + d : Nat) : Int) - 48 = (d : Int) := by omega
    have hd : (d : Int) ≤ 9 := by omega
    clear h1
    generalize ((48 + d : Nat) : Int) = x at *
    go_enter Try.func29, Try.ntmps29
    go_wp2
    go_ret
    exact ⟨rfl, rfl⟩
  · rw [if_neg h1]
    by_cases h2 : 97 ≤ n ∧ n ≤ 102
    · rw [if_pos h2]
      obtain ⟨d, rfl⟩ : ∃ d, n = 97 + d := ⟨n - 97, by omega⟩
      rw [Nat.add_sub_cancel_left]
      have b1 : ¬ ((97 + d : Nat) : Int) ≤ 57 := by omega
      have b0 : (48 : Int) ≤ ((97 + d : Nat) : Int) := by omega
      have a1 : (97 : Int) ≤ ((97 + d : Nat) : Int) := by omega
      have a2 : ((97 + d : Nat) : Int) ≤ 102 := by omega
      have a3 : ((97 + d : Nat) : Int) - 97 = (d : Int) := by omega
      have hd : (d : Int) ≤ 9 := by omega
      clear h1 h2 hlt
      generalize ((97 + d : Nat) : Int) = x at *
      go_enter Try.func29, Try.ntmps29
      go_wp2
      go_ret
      exact ⟨rfl, rfl⟩
    · rw [if_neg h2]
      by_cases h3 : 65 ≤ n ∧ n ≤ 70
      · rw [if_pos h3]
        obtain ⟨d, rfl⟩ : ∃ d, n = 65 + d := ⟨n - 65, by omega⟩
        rw [Nat.add_sub_cancel_left]
        have b1 : ¬ ((65 + d : Nat) : Int) ≤ 57 := by omega
        have b0 : (48 : Int) ≤ ((65 + d : Nat) : Int) := by omega
        have b3 : ¬ (97 : Int) ≤ ((65 + d : Nat) : Int) := by omega
        have a1 : (65 : Int) ≤ ((65 + d : Nat) : Int) := by omega
        have a2 : ((65 + d : Nat) : Int) ≤ 70 := by omega
        have a3 : ((65 + d : Nat) : Int) - 65 = (d : Int) := by omega
        have hd : (d : Int) ≤ 9 := by omega
        clear h1 h2 h3 hlt
        generalize ((65 + d : Nat) : Int) = x at *
        go_enter Try.func29, Try.ntmps29
        go_wp2
        go_ret
        exact ⟨rfl, rfl⟩
      · rw [if_neg h3]
        rcases Nat.lt_or_ge n 48 with q | q
        · have a1 : ¬ (48 : Int) ≤ (n : Int) := by omega
          have a2 : ¬ (97 : Int) ≤ (n : Int) := by omega
          have a3 : ¬ (65 : Int) ≤ (n : Int) := by omega
          clear h1 h2 h3 hlt q
          generalize (n : Int) = x at *
          go_enter Try.func29, Try.ntmps29
          go_wp2
          go_ret
          exact ⟨rfl, rfl⟩
        · have a1 : (48 : Int) ≤ (n : Int) := by omega
          have a2 : ¬ (n : Int) ≤ 57 := by omega
          rcases Nat.lt_or_ge n 65 with q2 | q2
          · have a3 : ¬ (97 : Int) ≤ (n : Int) := by omega
            have a4 : ¬ (65 : Int) ≤ (n : Int) := by omega
            clear h1 h2 h3 hlt q q2
            generalize (n : Int) = x at *
            go_enter Try.func29, Try.ntmps29
            go_wp2
            go_ret
            exact ⟨rfl, rfl⟩
          · have a4 : (65 : Int) ≤ (n : Int) := by omega
            have a5 : ¬ (n : Int) ≤ 70 := by omega
            rcases Nat.lt_or_ge n 97 with q3 | q3
            · have a6 : ¬ (97 : Int) ≤ (n : Int) := by omega
              clear h1 h2 h3 hlt q q2 q3
              generalize (n : Int) = x at *
              go_enter Try.func29, Try.ntmps29
              go_wp2
              go_ret
              exact ⟨rfl, rfl⟩
            · have a6 : (97 : Int) ≤ (n : Int) := by omega
              have a7 : ¬ (n : Int) ≤ 102 := by omega
              clear h1 h2 h3 hlt q q2 q3
              generalize (n : Int) = x at *
              go_enter Try.func29, Try.ntmps29
              go_wp2
              go_ret
              exact ⟨rfl, rfl⟩
end Go.Proofs.Ytffmchbcpihjhaa.Wd
