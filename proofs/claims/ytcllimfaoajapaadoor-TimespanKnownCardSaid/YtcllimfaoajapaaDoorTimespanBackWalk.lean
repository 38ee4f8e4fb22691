/-
  The walk of the law TimespanBack.
-/
import Derived.Test.YtcllimfaoajapaaDoorTsRefText
import Derived.Test.YtcllimfaoajapaaDoorTsOrderWalk
namespace Go.Proofs.YtcllimfaoajapaaDoor.Ts
open Go.RowKit

theorem back_bare (n : Int) (h0 : 0 ≤ n) (h1 : n ≤ 9223372036854775807) : parsed (textL n) = (n, 0) ∧ parsed ([32, 9] ++ textL n ++ [9, 32]) = (n, 0) := by
  unfold textL
  rw [if_neg (by omega)]
  by_cases h2 : n = 0
  · rw [if_pos h2]; subst h2; exact ⟨by decide, by decide⟩
  · rw [if_neg h2]
    by_cases h3 : n = 9223372036854775807
    · rw [if_pos h3]; subst h3; exact ⟨by decide, by decide⟩
    · rw [if_neg h3]
      have T := tells_text n.toNat (by omega)
      have a := T.parsed (Z1 := []) (Z2 := []) (by omega) (by simp) (by simp)
      have b := T.parsed (Z1 := [32, 9]) (Z2 := [9, 32]) (by omega) (by decide) (by decide)
      have e : ((n.toNat : Nat) : Int) = n := by omega
      rw [e] at a b
      exact ⟨by simpa using a, b⟩
theorem pad_data (s : ByteArray) : ((⟨#[32, 9]⟩ : ByteArray) ++ s ++ ⟨#[9, 32]⟩).data.toList = [32, 9] ++ s.data.toList ++ [9, 32] := by simp

set_option maxRecDepth 100000 in
set_option maxHeartbeats 1000000 in
theorem back_below (n : Int) (w : World) (htab : Lib.TabIs Tryd.prog w "internal/strconv.uint64pow10" .u64 Lib.pow10Tab) (h : n < 0) :
    Calls Tryd.prog 4 #[.int .i64 n] w fun e w' => e = .returned (.bool true) ∧ Below w.heap.size w w' := by
  have HT := Lib.hid htab
  clear htab
  go_enter Tryd.func4, Tryd.ntmps4
  go_wp2_with fail
  refine (text_below n _ h).mono ?_
  rintro e w1 ⟨rfl, hB⟩
  have HB1 := Lib.hid hB
  clear hB
  go_wp2_with fail
  refine (rtext_below n _ h).mono ?_
  rintro e w2 ⟨rfl, hB⟩
  have HB2 := Lib.hid (HB1.out.trans (hB.mono HB1.out.size))
  clear hB
  go_wp2_with fail
  refine (works_any _ (tabAt w _ HT.out HB2.out)).mono ?_
  rintro e w9 ⟨rfl, hB⟩
  have HB9 := Lib.hid (HB2.out.trans (hB.mono HB2.out.size))
  clear hB
  go_wp2
  go_ret
  exact ⟨rfl, HB9.out⟩

set_option maxRecDepth 100000 in
set_option maxHeartbeats 1000000 in
theorem back_from (n : Int) (w : World) (htab : Lib.TabIs Tryd.prog w "internal/strconv.uint64pow10" .u64 Lib.pow10Tab) (h0 : 0 ≤ n) (h1 : n ≤ 9223372036854775807) :
    Calls Tryd.prog 4 #[.int .i64 n] w fun e w' => e = .returned (.bool true) ∧ Below w.heap.size w w' := by
  have HT := Lib.hid htab
  obtain ⟨p1, p2⟩ := back_bare n h0 h1
  have hl := textL_len n h1
  have T1 := Lib.hid (fun w' ht => text_any n w' h1 ht)
  have T2 := Lib.hid (fun w' => rtext_any n w' h1)
  obtain ⟨s, hs⟩ : ∃ s : ByteArray, (⟨(textL n).toArray⟩ : ByteArray) = s := ⟨_, rfl⟩
  have hsd : s.data.toList = textL n := by rw [← hs]
  rw [← hsd] at p1 p2 hl
  rw [hs] at T1 T2
  rw [← size_of] at hl
  rw [← pad_data] at p2
  have P1 := Lib.hid p1
  have P2 := Lib.hid p2
  clear htab p1 p2 hs hsd
  have hge : ¬ n < 0 := by omega
  have s1 : (⟨#[32, 9]⟩ : ByteArray).size + s.size ≤ 9223372036854775807 := by show 2 + s.size ≤ _; omega
  have s2 : ((⟨#[32, 9]⟩ : ByteArray) ++ s).size + (⟨#[9, 32]⟩ : ByteArray).size ≤ 9223372036854775807 := by rw [ByteArray.size_append]; show 2 + s.size + 2 ≤ _; omega
  have hps : ((⟨#[32, 9]⟩ : ByteArray) ++ s ++ ⟨#[9, 32]⟩).size ≤ 9223372036854775807 := by rw [ByteArray.size_append]; exact s2
  have HPS := Lib.hid hps
  clear hps
  go_enter Tryd.func4, Tryd.ntmps4
  go_wp2_with fail
  refine (T1.out _ HT.out).mono ?_
  rintro e w1 ⟨rfl, hB⟩
  have HB1 := Lib.hid hB
  clear hB
  go_wp2_with fail
  refine (T2.out _).mono ?_
  rintro e w2 ⟨rfl, hB⟩
  have HB2 := Lib.hid (HB1.out.trans (hB.mono HB1.out.size))
  clear hB
  go_wp2_with fail
  refine (is_yes s n 0 _ (by omega) P1.out).mono ?_
  rintro e w3 ⟨rfl, hB⟩
  have HB3 := Lib.hid (HB2.out.trans (hB.mono HB2.out.size))
  clear hB
  go_wp2_with fail
  refine (is_yes _ n 0 _ HPS.out P2.out).mono ?_
  rintro e w4 ⟨rfl, hB⟩
  have HB4 := Lib.hid (HB3.out.trans (hB.mono HB3.out.size))
  clear hB
  go_wp2_with fail
  refine (works_any _ (tabAt w _ HT.out HB4.out)).mono ?_
  rintro e w9 ⟨rfl, hB⟩
  have HB9 := Lib.hid (HB4.out.trans (hB.mono HB4.out.size))
  clear hB
  go_wp2
  go_ret
  exact ⟨rfl, HB9.out⟩
theorem timespanBack_any (n : Int) (w : World) (hn : -9223372036854775808 ≤ n ∧ n ≤ 9223372036854775807) (htab : Lib.TabIs Tryd.prog w "internal/strconv.uint64pow10" .u64 Lib.pow10Tab) :
    Calls Tryd.prog 4 #[.int .i64 n] w fun e w' => e = .returned (.bool true) ∧ Below w.heap.size w w' := by
  by_cases h : n < 0
  · exact back_below n w htab h
  · exact back_from n w htab (by omega) hn.2
end Go.Proofs.YtcllimfaoajapaaDoor.Ts
