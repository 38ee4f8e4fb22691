/-
  Layer 12 (words): the law WordsSplit, walked.
-/
import Derived.Test.YtffmchbcpihjhaaWdWorks
namespace Go.Proofs.Ytffmchbcpihjhaa.Wd
open Go.RowKit
set_option maxRecDepth 100000

/-- Works, behind whatever has been called. -/
theorem works_then {w V : World} (h : Below w.heap.size w V) : Calls Try.prog 9 #[] V fun e w' => e = .returned (.bool true) ∧ Below w.heap.size w w' := (works_any V).mono fun _ _ ⟨he, hb⟩ => ⟨he, h.trans (hb.mono h.size)⟩
set_option maxHeartbeats 4000000 in
theorem splitLaw_any (s : List UInt8) (hsz : (bs s).size ≤ 9223372036854775807) (w : World) : Calls Try.prog 3 #[.string (bs s)] w fun e w' => e = .returned (.bool true) ∧ Below w.heap.size w w' := by
  have HWK : Hid (∀ V, Below w.heap.size w V → Calls Try.prog 9 #[] V fun e w' => e = .returned (.bool true) ∧ Below w.heap.size w w') := Lib.hid fun V h => works_then h
  have hlen : (bs s).size = s.length := rfl
  rcases Nat.lt_or_ge 1000 s.length with h | h
  · have h1 : (1000 : Int) < ((bs s).size : Int) := by omega
    clear hlen h
    generalize bs s = S at *
    go_enter Try.func3, Try.ntmps3
    go_wp2_with (first
      | (go_at_call 9; refine (HWK.out _ (Below.refl _ _)).mono ?_; clear HWK; rintro e V ⟨rfl, hb⟩; have HB := Lib.hid hb; clear hb)
      | fail)
    go_ret
    exact ⟨rfl, HB.out⟩
  · have h1 : ¬ (1000 : Int) < ((bs s).size : Int) := by omega
    have hs6 : s.length ≤ 1000000 := by omega
    cases hs : splitL s with
    | none =>
      have H1 : Hid (Calls Try.prog 10 #[.string (bs s)] w fun e V' => e = .returned (.tuple #[.slice none 0 0, .int .i64 120]) ∧ Below w.heap.size w V') := Lib.hid (split_bad s hs6 hs w)
      have H2 : Hid (∀ V, Calls Try.prog 11 #[.string (bs s)] V fun e V' => e = .returned (.tuple #[.slice none 0 0, .bool false]) ∧ Below V.heap.size V V') := Lib.hid (rsplit_bad s hs6 hs)
      clear hlen h hs6 hs
      generalize bs s = S at *
      go_enter Try.func3, Try.ntmps3
      go_wp2_with (first
        | (go_at_call 10; refine (H1.out).mono ?_; clear H1; rintro e V1 ⟨rfl, hb⟩; have HB1 := Lib.hid hb; clear hb)
        | (go_at_call 11; refine (H2.out _).mono ?_; clear H2; rintro e V2 ⟨rfl, hb⟩; have HB2 := Lib.hid (HB1.out.trans (hb.mono HB1.out.size)); clear hb)
        | (go_at_call 9; refine (HWK.out _ HB2.out).mono ?_; clear HWK; rintro e V ⟨rfl, hb⟩; have HB := Lib.hid hb; clear hb)
        | fail)
      go_ret
      exact ⟨rfl, HB.out⟩
    | some l =>
      have H2 : Hid (∀ V, Calls Try.prog 11 #[.string (bs s)] V fun e V' => ∃ A c, e = .returned (.tuple #[.slice A l.length c, .bool true]) ∧ StrRow V' A l ∧ Below V.heap.size V V') := Lib.hid (rsplit_yes s l hs6 hs)
      rcases Nat.lt_or_ge 64 l.length with hl | hl
      · have H1 : Hid (Calls Try.prog 10 #[.string (bs s)] w fun e V' => e = .returned (.tuple #[.slice none 0 0, .int .i64 3]) ∧ Below w.heap.size w V') := Lib.hid (split_many s l hs6 hs hl w)
        obtain ⟨n, hn⟩ : ∃ n, l.length = n := ⟨_, rfl⟩
        rw [hn] at H2 hl
        have hn64 : (64 : Int) < (n : Int) := by omega
        clear hlen h hs6 hs hn hl
        generalize bs s = S at *
        go_enter Try.func3, Try.ntmps3
        go_wp2_with (first
          | (go_at_call 10; refine (H1.out).mono ?_; clear H1; rintro e V1 ⟨rfl, hb⟩; have HB1 := Lib.hid hb; clear hb)
          | (go_at_call 11; refine (H2.out _).mono ?_; clear H2; rintro e V2 ⟨A, c, rfl, _, hb⟩; have HB2 := Lib.hid (HB1.out.trans (hb.mono HB1.out.size)); clear hb)
          | (go_at_call 9; refine (HWK.out _ HB2.out).mono ?_; clear HWK; rintro e V ⟨rfl, hb⟩; have HB := Lib.hid hb; clear hb)
          | fail)
        go_ret
        exact ⟨rfl, HB.out⟩
      · have H1 : Hid (Calls Try.prog 10 #[.string (bs s)] w fun e V' => ∃ A c, e = .returned (.tuple #[.slice A l.length c, .int .i64 0]) ∧ StrRow V' A l ∧ Below w.heap.size w V') := Lib.hid (split_yes s l hs6 hs hl w)
        have H3 : Hid (∀ A B c d V, StrRow V A l → StrRow V B l → Calls Try.prog 12 #[.slice A l.length c, .slice B l.length d] V fun e V' => e = .returned (.bool true) ∧ Below V.heap.size V V') := Lib.hid fun A B c d V hA hB => (same_any A B c d l l V hA hB (by omega)).mono fun e V' ⟨he, hb⟩ => ⟨by rw [he, decide_eq_true rfl], hb⟩
        obtain ⟨n, hn⟩ : ∃ n, l.length = n := ⟨_, rfl⟩
        rw [hn] at H1 H2 H3 hl
        have hn64 : ¬ (64 : Int) < (n : Int) := by omega
        clear hlen h hs6 hs hn hl
        generalize bs s = S at *
        go_enter Try.func3, Try.ntmps3
        go_wp2_with (first
          | (go_at_call 10; refine (H1.out).mono ?_; clear H1; rintro e V1 ⟨A1, c1, rfl, hr, hb⟩; have HR1 := Lib.hid hr; have HB1 := Lib.hid hb; clear hb hr)
          | (go_at_call 11; refine (H2.out _).mono ?_; clear H2; rintro e V2 ⟨A2, c2, rfl, hr, hb⟩; have HR2 := Lib.hid hr; have HR1' := Lib.hid (HR1.out.keep hb); have HB2 := Lib.hid (HB1.out.trans (hb.mono HB1.out.size)); clear hb hr)
          | (go_at_call 12; refine (H3.out _ _ _ _ _ HR1'.out HR2.out).mono ?_; clear H3; rintro e V3 ⟨rfl, hb⟩; have HB3 := Lib.hid (HB2.out.trans (hb.mono HB2.out.size)); clear hb)
          | (go_at_call 9; refine (HWK.out _ HB3.out).mono ?_; clear HWK; rintro e V ⟨rfl, hb⟩; have HB := Lib.hid hb; clear hb)
          | fail)
        go_ret
        exact ⟨rfl, HB.out⟩
theorem wordsSplit_any (a : ByteArray) (hsz : a.size ≤ 9223372036854775807) (w : World) : Calls Try.prog 3 #[.string a] w fun e w' => e = .returned (.bool true) ∧ Below w.heap.size w w' := by
  have := splitLaw_any a.data.toList (by rw [bs_of]; exact hsz) w
  rw [bs_of] at this
  exact this
end Go.Proofs.Ytffmchbcpihjhaa.Wd
