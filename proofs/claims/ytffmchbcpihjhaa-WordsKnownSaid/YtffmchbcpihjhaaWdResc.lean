/-
  Layer 12 (words): what stands behind a backslash, as the document says.
-/
import Derived.Test.YtffmchbcpihjhaaWdHex
import Derived.Test.YtffmchbcpihjhaaWdEscd
namespace Go.Proofs.Ytffmchbcpihjhaa.Wd
open Go.RowKit
set_option maxRecDepth 100000

theorem at_list {l : List UInt8} {k : Nat} (hk : k < (bs l).size) : (bs l)[k] = l.getD k 0 := by
  have hk2 : k < l.length := hk
  rw [List.getD_eq_getElem?_getD, List.getElem?_eq_getElem hk2]
  rfl
/-- What escape answers: so many bytes (0: it is wrong). -/
def REsc (s : List UInt8) (i : Nat) (v n : Int) : Prop :=
  (n = 0 ∧ ∀ q ws cur, fin (run (some ⟨.E q, ws, cur⟩) (s.drop i)) = none) ∨
  (∃ (x : UInt8) (k : Nat), v = (x.toNat : Int) ∧ n = (k : Int) ∧ 1 ≤ k ∧ i + k ≤ s.length ∧ ∀ q ws cur, run (some ⟨.E q, ws, cur⟩) (s.drop i) = run (some ⟨.Q q, ws, cur ++ [x]⟩) (s.drop (i + k)))
theorem resc_one {s : List UInt8} {i : Nat} (hi : i < s.length) (x : UInt8) (h : esc1 (s.getD i 0) = some x) (hc : s.getD i 0 ≠ 120) : REsc s i (x.toNat : Int) 1 := by
  refine .inr ⟨x, 1, rfl, rfl, Nat.le_refl _, hi, fun q ws cur => ?_⟩
  have e : s.drop i = s.getD i 0 :: s.drop (i + 1) := by
    rw [List.drop_eq_getElem_cons hi, List.getD_eq_getElem?_getD, List.getElem?_eq_getElem hi]; rfl
  rw [e, run_e _ hc, h]
theorem resc_none {s : List UInt8} {i : Nat} (hi : i < s.length) (h : esc1 (s.getD i 0) = none) (hc : s.getD i 0 ≠ 120) : REsc s i 0 0 := by
  refine .inl ⟨rfl, fun q ws cur => ?_⟩
  have e : s.drop i = s.getD i 0 :: s.drop (i + 1) := by
    rw [List.drop_eq_getElem_cons hi, List.getD_eq_getElem?_getD, List.getElem?_eq_getElem hi]; rfl
  rw [e, run_e _ hc, h]; rfl
set_option maxHeartbeats 4000000 in
theorem resc_plain (s : List UInt8) (i : Nat) (hi : i ≤ s.length) (hx120 : i < s.length → s.getD i 0 ≠ 120) (w : World) : Calls Try.prog 19 #[.string (bs s), .int .i64 i] w fun e w' => ∃ v n, e = .returned (.tuple #[.int .u8 v, .int .i64 n]) ∧ w = w' ∧ REsc s i v n := by
  have hsz : (bs s).size = s.length := rfl
  rcases Nat.lt_or_ge i s.length with hlt | hge
  · have hz : i < (bs s).size := hlt
    have hb := at_list hz
    have hc := hx120 hlt
    obtain ⟨c, hcc⟩ : ∃ c, s.getD i 0 = c := ⟨_, rfl⟩
    rw [hcc] at hb hc
    have h1 : ¬ ((bs s).size : Int) ≤ (i : Int) := by omega
    have HY : Hid (∀ x, esc1 c = some x → REsc s i (x.toNat : Int) 1) := Lib.hid fun x h => resc_one hlt x (by rw [hcc]; exact h) (by rw [hcc]; exact hc)
    have HN : Hid (esc1 c = none → REsc s i 0 0) := Lib.hid fun h => resc_none hlt (by rw [hcc]; exact h) (by rw [hcc]; exact hc)
    clear hx120 hcc
    generalize bs s = S at *
    by_cases h110 : c = 110
    · subst h110
      have hr := HY.out 10 rfl
      have HR := Lib.hid hr
      clear hr HY HN hc
      go_enter Try.func19, Try.ntmps19
      go_wp2
      go_ret2
      exact ⟨10, 1, rfl, rfl, HR.out⟩
    · skip
      by_cases h116 : c = 116
      · subst h116
        have hr := HY.out 9 rfl
        have HR := Lib.hid hr
        clear hr HY HN hc
        go_enter Try.func19, Try.ntmps19
        go_wp2
        go_ret2
        exact ⟨9, 1, rfl, rfl, HR.out⟩
      · skip
        by_cases h115 : c = 115
        · subst h115
          have hr := HY.out 32 rfl
          have HR := Lib.hid hr
          clear hr HY HN hc
          go_enter Try.func19, Try.ntmps19
          go_wp2
          go_ret2
          exact ⟨32, 1, rfl, rfl, HR.out⟩
        · skip
          by_cases h92 : c = 92
          · subst h92
            have hr := HY.out 92 rfl
            have HR := Lib.hid hr
            clear hr HY HN hc
            go_enter Try.func19, Try.ntmps19
            go_wp2
            go_ret2
            exact ⟨92, 1, rfl, rfl, HR.out⟩
          · skip
            by_cases h34 : c = 34
            · subst h34
              have hr := HY.out 34 rfl
              have HR := Lib.hid hr
              clear hr HY HN hc
              go_enter Try.func19, Try.ntmps19
              go_wp2
              go_ret2
              exact ⟨34, 1, rfl, rfl, HR.out⟩
            · skip
              by_cases h39 : c = 39
              · subst h39
                have hr := HY.out 39 rfl
                have HR := Lib.hid hr
                clear hr HY HN hc
                go_enter Try.func19, Try.ntmps19
                go_wp2
                go_ret2
                exact ⟨39, 1, rfl, rfl, HR.out⟩
              · skip
                have hr := HN.out (by unfold esc1; simp [h110, h116, h115, h92, h34, h39])
                have HR := Lib.hid hr
                have e110 : ((c.toNat : Int) == 110) = false := (u8_is c 110 (by decide)).trans (beq_eq_false_iff_ne.mpr h110)
                have e116 : ((c.toNat : Int) == 116) = false := (u8_is c 116 (by decide)).trans (beq_eq_false_iff_ne.mpr h116)
                have e115 : ((c.toNat : Int) == 115) = false := (u8_is c 115 (by decide)).trans (beq_eq_false_iff_ne.mpr h115)
                have e92 : ((c.toNat : Int) == 92) = false := (u8_is c 92 (by decide)).trans (beq_eq_false_iff_ne.mpr h92)
                have e34 : ((c.toNat : Int) == 34) = false := (u8_is c 34 (by decide)).trans (beq_eq_false_iff_ne.mpr h34)
                have e39 : ((c.toNat : Int) == 39) = false := (u8_is c 39 (by decide)).trans (beq_eq_false_iff_ne.mpr h39)
                have e120 : ((c.toNat : Int) == 120) = false := (u8_is c 120 (by decide)).trans (beq_eq_false_iff_ne.mpr hc)
                clear hr HY HN hc h110 h116 h115 h92 h34 h39
                go_enter Try.func19, Try.ntmps19
                go_wp2
                go_ret2
                exact ⟨0, 0, rfl, rfl, HR.out⟩
  · have HR : Hid (REsc s i 0 0) := Lib.hid (.inl ⟨rfl, fun q ws cur => by rw [List.drop_eq_nil_of_le hge]; rfl⟩)
    have h1 : ((bs s).size : Int) ≤ (i : Int) := by omega
    generalize bs s = S at *
    go_enter Try.func19, Try.ntmps19
    go_wp2
    go_ret2
    exact ⟨0, 0, rfl, rfl, HR.out⟩
end Go.Proofs.Ytffmchbcpihjhaa.Wd
