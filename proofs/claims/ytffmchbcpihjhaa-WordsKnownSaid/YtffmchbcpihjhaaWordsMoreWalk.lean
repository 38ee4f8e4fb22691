/-
  Layer 12 (words): the law WordsMore, walked.
-/
import Derived.Test.YtffmchbcpihjhaaWdApp
import Derived.Test.YtffmchbcpihjhaaWordsSplitWalk
namespace Go.Proofs.Ytffmchbcpihjhaa.Wd
open Go.RowKit
set_option maxRecDepth 100000

/-- Split of a value, whatever it is: the row and the number of the error. -/
theorem split_one (s : List UInt8) (hs : s.length ≤ 1000000) (V : World) : Calls Try.prog 10 #[.string (bs s)] V fun e V' => ∃ A n c err, e = .returned (.tuple #[.slice A n c, .int .i64 err]) ∧ Below V.heap.size V V' ∧ ((err ≠ 0) ∨ (err = 0 ∧ ∃ l, splitL s = some l ∧ l.length = n ∧ n ≤ 64 ∧ StrRow V' A l)) := by
  cases h : splitL s with
  | none => exact (split_bad s hs h V).mono fun e V' ⟨he, hb⟩ => ⟨none, 0, 0, 120, he, hb, .inl (by decide)⟩
  | some l =>
    rcases Nat.lt_or_ge 64 l.length with hl | hl
    · exact (split_many s l hs h hl V).mono fun e V' ⟨he, hb⟩ => ⟨none, 0, 0, 3, he, hb, .inl (by decide)⟩
    · exact (split_yes s l hs h hl V).mono fun e V' ⟨A, c, he, hr, hb⟩ => ⟨A, l.length, c, 0, he, hb, .inr ⟨rfl, l, rfl, rfl, hl, hr⟩⟩
set_option maxHeartbeats 8000000 in
theorem moreLaw_any (a b : List UInt8) (w : World) : Calls Try.prog 5 #[.string (bs a), .string (bs b)] w fun e w' => e = .returned (.bool true) ∧ Below w.heap.size w w' := by
  have HWK : Hid (∀ V, Below w.heap.size w V → Calls Try.prog 9 #[] V fun e w' => e = .returned (.bool true) ∧ Below w.heap.size w w') := Lib.hid fun V h => works_then h
  have hla : (bs a).size = a.length := rfl
  have hlb : (bs b).size = b.length := rfl
  have HLA := Lib.hid hla
  have HLB := Lib.hid hlb
  by_cases h : a.length ≤ 400 ∧ b.length ≤ 400
  · have h1 : ¬ (400 : Int) < ((bs a).size : Int) := by omega
    have h2 : ¬ (400 : Int) < ((bs b).size : Int) := by omega
    have HSA := Lib.hid (split_one a (by omega) w)
    have HSB := Lib.hid (fun V => split_one b (by omega) V)
    have HAB := Lib.hid h
    have hc1 : bs a ++ ⟨#[32]⟩ ++ bs b = bs (a ++ 32 :: b) := by
      rw [show (⟨#[32]⟩ : ByteArray) = bs [32] from rfl, bs_app, bs_app]; simp
    have hc2 : (⟨#[32, 9]⟩ : ByteArray) ++ bs a ++ ⟨#[9]⟩ ++ bs b ++ ⟨#[32]⟩ = bs (32 :: 9 :: (a ++ 9 :: b) ++ [32]) := by
      rw [show (⟨#[32]⟩ : ByteArray) = bs [32] from rfl, show (⟨#[9]⟩ : ByteArray) = bs [9] from rfl, show (⟨#[32, 9]⟩ : ByteArray) = bs [32, 9] from rfl, bs_app, bs_app, bs_app, bs_app]; simp
    have HC1 := Lib.hid hc1
    have HC2 := Lib.hid hc2
    have hza : (bs a).size ≤ 400 := by omega
    have hzb : (bs b).size ≤ 400 := by omega
    clear hc1 hc2 hla hlb h
    generalize bs a = SA at *
    generalize bs b = SB at *
    go_enter Try.func5, Try.ntmps5
    go_upto_region 5 with (first
      | (go_at_call 10; refine (HSA.out).mono ?_; clear HSA; rintro e V1 ⟨A1, n1, c1, e1, rfl, hb, ht⟩; have HT1 := Lib.hid ht; have HB1 := Lib.hid hb; clear hb ht)
      | (go_at_call 10; refine (HSB.out _).mono ?_; clear HSB; rintro e V2 ⟨A2, n2, c2, e2, rfl, hb, ht⟩; have HT2 := Lib.hid ht; have HB2' := Lib.hid hb; have HB2 := Lib.hid (HB1.out.trans (hb.mono HB1.out.size)); clear hb ht)
      | fail)
    rcases HT1.out with h3 | ⟨rfl, l1, hs1, hn1, hn164, hr1⟩
    · have h3 : (e1 != 0) = true := bne_iff_ne.mpr h3
      go_wp2_with (first
        | (go_at_call 9; refine (HWK.out _ HB2.out).mono ?_; clear HWK; rintro e V ⟨rfl, hb⟩; have HB := Lib.hid hb; clear hb)
        | fail)
      go_ret
      exact ⟨rfl, HB.out⟩
    · rcases HT2.out with h4 | ⟨rfl, l2, hs2, hn2, hn264, hr2⟩
      · have h4 : (e2 != 0) = true := bne_iff_ne.mpr h4
        clear hs1 hn1 hn164 hr1
        go_wp2_with (first
          | (go_at_call 9; refine (HWK.out _ HB2.out).mono ?_; clear HWK; rintro e V ⟨rfl, hb⟩; have HB := Lib.hid hb; clear hb)
          | fail)
        go_ret
        exact ⟨rfl, HB.out⟩
      · have hb1 : (n1 : Int) ≤ 64 := by omega
        have hb2 : (n2 : Int) ≤ 64 := by omega
        by_cases hsum : n1 + n2 ≤ 64
        · have hs : ¬ (64 : Int) < (n1 : Int) + (n2 : Int) := by omega
          have hS12 := split_two hs1 hs2 32 rfl
          have hS12' : splitL (32 :: 9 :: (a ++ 9 :: b) ++ [32]) = some (l1 ++ l2) := by
            have e1 : splitL (32 :: 9 :: (a ++ 9 :: b)) = some (l1 ++ l2) := by
              rw [split_blank 32 rfl, split_blank 9 rfl]
              exact split_two hs1 hs2 9 rfl
            exact split_end e1 32 rfl
          obtain ⟨N, hN⟩ : ∃ N, (l1 ++ l2).length = N := ⟨_, rfl⟩
          have hN64 : N ≤ 64 := by rw [← hN, List.length_append]; omega
          have HN := Lib.hid hN
          have HN64 := Lib.hid hN64
          have HX1 : Hid (∀ V, Calls Try.prog 10 #[.string (SA ++ ⟨#[32]⟩ ++ SB)] V fun e V' => ∃ A c, e = .returned (.tuple #[.slice A N c, .int .i64 0]) ∧ StrRow V' A (l1 ++ l2) ∧ Below V.heap.size V V') := Lib.hid fun V => by
            rw [HC1.out, ← HN.out]
            exact split_yes _ _ (by have := HAB.out; simp; omega) hS12 (by rw [HN.out]; exact HN64.out) V
          have HX2 : Hid (∀ V, Calls Try.prog 10 #[.string (⟨#[32, 9]⟩ ++ SA ++ ⟨#[9]⟩ ++ SB ++ ⟨#[32]⟩)] V fun e V' => ∃ A c, e = .returned (.tuple #[.slice A N c, .int .i64 0]) ∧ StrRow V' A (l1 ++ l2) ∧ Below V.heap.size V V') := Lib.hid fun V => by
            rw [HC2.out, ← HN.out]
            exact split_yes _ _ (by have := HAB.out; simp; omega) hS12' (by rw [HN.out]; exact HN64.out) V
          have HSM : Hid (∀ A B c d V, StrRow V A (l1 ++ l2) → StrRow V B (l1 ++ l2) → Calls Try.prog 12 #[.slice A N c, .slice B N d] V fun e V' => e = .returned (.bool true) ∧ Below V.heap.size V V') := Lib.hid fun A B c d V hA hB => by
            rw [← HN.out]
            exact (same_any A B c d _ _ V hA hB (by rw [HN.out]; have := HN64.out; omega)).mono fun e V' ⟨he, hb⟩ => ⟨by rw [he, decide_eq_true rfl], hb⟩
          have HR1 := Lib.hid hr1
          have HR2 := Lib.hid hr2
          have HL1 : Hid (l1.length = n1 ∧ l2.length = n2) := Lib.hid ⟨hn1, hn2⟩
          have HR1V : Hid (StrRow V2 A1 l1) := Lib.hid (hr1.keep HB2'.out)
          have HO0 : Hid (OwnR V2 V2.heap.size 9 1 (.slice none 0 0) (([] : List (List UInt8)).map cellT)) := Lib.hid (OwnR.nil _ _ _ _)
          clear hr1 hr2 hn1 hn2 hs1 hs2 hS12 hS12' hN hn164 hn264 hN64 HT1 HT2 hsum
          go_wp2_with (first
            | (at_builtin; refine wpList_appN rfl (.tmp 48) (.tmp 49) rfl V2.heap.size _ [] l1 A1 n1 n1 c1 HL1.out.1 HL1.out.1 rfl rfl HO0.out HR1V.out (by omega) (Nat.le_refl _) ?_; intro p1 d1 W3 ho hb; have HO1 := Lib.hid ho; have HK1 := Lib.hid hb; clear ho hb HO0)
            | (at_builtin; refine wpList_appN rfl (.tmp 51) (.tmp 52) rfl V2.heap.size _ l1 l2 A2 n2 N c2 HL1.out.2 HN.out rfl rfl HO1.out (HR2.out.keep HK1.out) (by have := HN64.out; omega) HK1.out.size ?_; intro p2 d2 W4 ho hb; have HO2 := Lib.hid (own_str2 ho); have HB4 := Lib.hid (HB2.out.trans ((HK1.out.trans hb).mono HB2.out.size)); clear ho hb HO1 HK1)
            | (go_at_call 10; refine (HX1.out _).mono ?_; clear HX1; rintro e V5 ⟨A5, c5, rfl, hr, hb⟩; have HR5 := Lib.hid hr; have HO5 := Lib.hid (HO2.out.keep hb); have HB5 := Lib.hid (HB4.out.trans (hb.mono HB4.out.size)); clear hr hb)
            | (go_at_call 10; refine (HX2.out _).mono ?_; clear HX2; rintro e V6 ⟨A6, c6, rfl, hr, hb⟩; have HR6 := Lib.hid hr; have HR5' := Lib.hid (HR5.out.keep hb); have HO6 := Lib.hid (HO5.out.keep hb); have HB6 := Lib.hid (HB5.out.trans (hb.mono HB5.out.size)); clear hr hb)
            | (go_at_call 12; refine (HSM.out _ _ _ _ _ HR5'.out HO6.out).mono ?_; rintro e V7 ⟨rfl, hb⟩; have HR7 := Lib.hid (HR6.out.keep hb); have HO7 := Lib.hid (HO6.out.keep hb); have HB7 := Lib.hid (HB6.out.trans (hb.mono HB6.out.size)); clear hb HR5')
            | (go_at_call 12; refine (HSM.out _ _ _ _ _ HR7.out HO7.out).mono ?_; rintro e V8 ⟨rfl, hb⟩; have HB8 := Lib.hid (HB7.out.trans (hb.mono HB7.out.size)); clear hb)
            | (go_at_call 9; refine (HWK.out _ HB8.out).mono ?_; clear HWK; rintro e V ⟨rfl, hb⟩; have HB := Lib.hid hb; clear hb)
            | fail)
          go_ret
          exact ⟨rfl, HB.out⟩
        · have hs : (64 : Int) < (n1 : Int) + (n2 : Int) := by omega
          clear hs1 hn1 hn164 hr1 hs2 hn2 hn264 hr2 hsum
          go_wp2_with (first
            | (go_at_call 9; refine (HWK.out _ HB2.out).mono ?_; clear HWK; rintro e V ⟨rfl, hb⟩; have HB := Lib.hid hb; clear hb)
            | fail)
          go_ret
          exact ⟨rfl, HB.out⟩
  · have hd : (400 : Int) < ((bs a).size : Int) ∨ (¬ (400 : Int) < ((bs a).size : Int) ∧ (400 : Int) < ((bs b).size : Int)) := by omega
    clear h hla hlb HLA HLB
    generalize bs a = SA at *
    generalize bs b = SB at *
    rcases hd with h1 | ⟨h1, h2⟩
    all_goals
      go_enter Try.func5, Try.ntmps5
      go_wp2_with (first
        | (go_at_call 9; refine (HWK.out _ (Below.refl _ _)).mono ?_; clear HWK; rintro e V ⟨rfl, hb⟩; have HB := Lib.hid hb; clear hb)
        | fail)
      go_ret
      exact ⟨rfl, HB.out⟩
theorem wordsMore_any (a b : ByteArray) (w : World) : Calls Try.prog 5 #[.string a, .string b] w fun e w' => e = .returned (.bool true) ∧ Below w.heap.size w w' := by
  have := moreLaw_any a.data.toList b.data.toList w
  rw [bs_of, bs_of] at this
  exact this
end Go.Proofs.Ytffmchbcpihjhaa.Wd
