/-
  Layer 6 (tzif): which type holds: the search over times.
-/
import Derived.Test.YtljkcnoicdhchaaTzD
namespace Go.Proofs.Ytljkcnoicdhchaa.Tz
open Go.RowKit

set_option maxHeartbeats 1000000 in
theorem at1_any (l : List Int) (A : Option Addr) (c G S B k : Nat) (x sec : Int) (w : World) (h : Sl w B 1 (.slice A l.length c) (l.map intCells)) (hx : l[k]? = some x) (z1 : w.cell? ⟨G, 1, none⟩ = some (.slice A l.length c)) (z0 : w.cell? ⟨S, 0, none⟩ = some (.int .i64 sec)) :
    Calls Try.prog 33 #[.int .i64 k, .pointer (some ⟨G, 0, none⟩), .pointer (some ⟨S, 0, none⟩)] w fun e w' => e = .returned (.bool (decide (sec < x))) ∧ ∃ m, w' = w.drewN m := by
  obtain ⟨g, off, c', hv, hg, c0⟩ := h.one hx
  injection hv with e1 _ e3
  subst e1; subst e3
  have hlt : k < l.length := by
    rcases Nat.lt_or_ge k l.length with a | a
    · exact a
    · rw [List.getElem?_eq_none a] at hx; cases hx
  have hk0 : (0 : Int) ≤ (k : Int) := by omega
  have hk1 : (k : Int) < (l.length : Int) := by omega
  clear hx h hg
  go_enter Try.func33, Try.ntmps33
  go_wp2_with fail
  go_quiet (fail)
  go_wp2_with fail
  go_ret
  exact ⟨rfl, _, rfl⟩
theorem rises_le {l : List Int} (h : rises l = true) : ∀ (d j : Nat) (a b : Int), l[j]? = some a → l[j + d]? = some b → a ≤ b
  | 0, j, a, b, ha, hb => by
    rw [Nat.add_zero, ha] at hb
    injection hb with hb
    omega
  | d + 1, j, a, b, ha, hb => by
    have hl : j + d < l.length := by
      rcases Nat.lt_or_ge (j + d) l.length with h1 | h1
      · exact h1
      · rw [List.getElem?_eq_none (by omega)] at hb; cases hb
    have h1 := rises_le h d j a _ ha (List.getElem?_eq_getElem hl)
    have h2 := rises_of h (j + d) _ b (List.getElem?_eq_getElem hl) hb
    omega
set_option maxHeartbeats 1000000 in
theorem search_any (l : List Int) (A : Option Addr) (c G S B : Nat) (sec : Int) (w : World) (h : Sl w B 1 (.slice A l.length c) (l.map intCells)) (hl : l.length ≤ 1000000) (hr : rises l = true) (z1 : w.cell? ⟨G, 1, none⟩ = some (.slice A l.length c)) (z0 : w.cell? ⟨S, 0, none⟩ = some (.int .i64 sec)) :
    Calls Try.prog 32 #[.int .i64 l.length, .func (.func 33) #[] #[.pointer (some ⟨G, 0, none⟩), .pointer (some ⟨S, 0, none⟩)]] w fun e w' => (∃ k : Nat, e = .returned (.int .i64 k) ∧ k ≤ l.length ∧ (∀ t x, t < k → l[t]? = some x → x ≤ sec) ∧ ∀ t x, k ≤ t → l[t]? = some x → sec < x) ∧ ∃ m, w' = w.drewN m := by
  have H := Lib.hid h; have HR := Lib.hid hr
  have Z1 := Lib.hid z1; have Z0 := Lib.hid z0
  clear h hr z1 z0
  go_enter Try.func32, Try.ntmps32
  go_wp2_with fail
  go_loopw [5, 6] (fun a b wr => ∃ i j m : Nat, i ≤ j ∧ j ≤ l.length ∧ a = .int .i64 i ∧ b = .int .i64 j ∧ (∀ t x, t < i → l[t]? = some x → x ≤ sec) ∧ (∀ t x, j ≤ t → l[t]? = some x → sec < x) ∧ wr = w.drewN m) (fun a b _ => (intOf b).toNat - (intOf a).toNat)
  case atStart => exact ⟨0, l.length, 0, Nat.zero_le _, Nat.le_refl _, rfl, rfl, fun t x ht => absurd ht (by omega), fun t x ht hx => (by rw [List.getElem?_eq_none ht] at hx; cases hx), rfl⟩
  case round =>
    obtain ⟨i, j, m, hij, hj, rfl, rfl, hlo, hhi, rfl⟩ := hrel
    have HLO := Lib.hid hlo; have HHI := Lib.hid hhi
    clear hlo hhi
    by_cases hlt : i < j
    · have hi1 : (i : Int) < (j : Int) := by omega
      have hi0 : (0 : Int) ≤ (i : Int) := by omega
      have hj0 : (j : Int) ≤ 1000000 := by omega
      obtain ⟨q, hq⟩ : ∃ q : Nat, ((i : Int) + (j : Int)) / 2 = (q : Int) := ⟨(i + j) / 2, by omega⟩
      have hq1 : i ≤ q := by omega
      have hq2 : q < j := by omega
      obtain ⟨x, hx⟩ : ∃ x, l[q]? = some x := ⟨_, List.getElem?_eq_getElem (by omega)⟩
      have HC : Hid (Calls Try.prog 33 #[.int .i64 q, .pointer (some ⟨G, 0, none⟩), .pointer (some ⟨S, 0, none⟩)] (w.drewN m) fun e w' => e = .returned (.bool (decide (sec < x))) ∧ ∃ m2, w' = (w.drewN m).drewN m2) := Lib.hid (at1_any l A c G S B q x sec (w.drewN m) (H.out.below (drewN_below (Below.refl B w) m) (Nat.le_refl _)) hx Z1.out Z0.out)
      have HX := Lib.hid hx
      clear hx
      by_cases hs : sec < x
      · rw [show decide (sec < x) = true from decide_eq_true hs] at HC
        go_wp2_with (first
          | (go_at_call 33; refine HC.out.mono ?_; clear HC; rintro e w1 ⟨rfl, m2, rfl⟩)
          | fail)
        refine ⟨⟨i, q, m + m2, hq1, by omega, rfl, rfl, HLO.out, fun t y ht hy => ?_, by simp [World.drewN]⟩, by simp [intOf]; omega⟩
        have := rises_le HR.out (t - q) q x y HX.out (by rw [show q + (t - q) = t by omega]; exact hy)
        omega
      · rw [show decide (sec < x) = false from decide_eq_false hs] at HC
        go_wp2_with (first
          | (go_at_call 33; refine HC.out.mono ?_; clear HC; rintro e w1 ⟨rfl, m2, rfl⟩)
          | fail)
        refine ⟨⟨q + 1, j, m + m2, by omega, hj, by go_num, rfl, fun t y ht hy => ?_, HHI.out, by simp [World.drewN]⟩, by simp [intOf]; omega⟩
        have := rises_le HR.out (q - t) t y x hy (by rw [show t + (q - t) = q by omega]; exact HX.out)
        omega
    · have hi1 : ¬ (i : Int) < (j : Int) := by omega
      obtain rfl : i = j := by omega
      go_wp2_with fail
      go_ret
      exact ⟨⟨i, rfl, hj, HLO.out, HHI.out⟩, m, rfl⟩
end Go.Proofs.Ytljkcnoicdhchaa.Tz
