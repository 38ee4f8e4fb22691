/-
  Text of any number; what a law's own 'is' answers; the chapter's examples ('works').
-/
import Derived.Test.YtcllimfaoajapaaDoorTsText
namespace Go.Proofs.YtcllimfaoajapaaDoor.Ts
open Go.RowKit Go.Shelf

/-- The text of a number. -/
def textL (n : Int) : List UInt8 := if n < 0 then [] else if n = 0 then [48] else if n = 9223372036854775807 then never else textOf n.toNat
theorem textL_len (n : Int) (hn : n ≤ 9223372036854775807) : (textL n).length ≤ 138 := by
  unfold textL
  split
  · simp
  · split
    · simp
    · split
      · simp [never]
      · exact textOf_len _ (by omega)

/-- Text, of any number. -/
theorem text_any (n : Int) (w : World) (hn : n ≤ 9223372036854775807) (htab : Lib.TabIs Tryd.prog w "internal/strconv.uint64pow10" .u64 Lib.pow10Tab) :
    Calls Tryd.prog 12 #[.int .i64 n] w fun e w' => e = .returned (.string ⟨(textL n).toArray⟩) ∧ Below w.heap.size w w' := by
  unfold textL
  by_cases h1 : n < 0
  · rw [if_pos h1]; exact text_below n w h1
  · rw [if_neg h1]
    by_cases h2 : n = 0
    · rw [if_pos h2]; subst h2; exact text_zero w
    · rw [if_neg h2]
      by_cases h3 : n = 9223372036854775807
      · rw [if_pos h3]; subst h3; exact text_never w
      · rw [if_neg h3]
        obtain ⟨m, rfl⟩ : ∃ m : Nat, n = (m : Int) := ⟨n.toNat, by omega⟩
        exact text_parts m w (by omega) (by omega) (by rw [beq_eq_false_iff_ne]; omega) (by rw [beq_eq_false_iff_ne]; omega) (decide_eq_false h1) htab

set_option maxHeartbeats 400000 in
theorem is_yes (s : ByteArray) (n e : Int) (w : World) (hs : s.size ≤ 9223372036854775807) (hp : parsed s.data.toList = (n, e)) :
    Calls Tryd.prog 14 #[.string s, .int .i64 n, .int .i64 e] w fun e w' => e = .returned (.bool true) ∧ Below w.heap.size w w' := by
  have H : Calls Tryd.prog 10 #[.string s] w fun e' w' => e' = .returned (.tuple #[.int .i64 n, .int .i64 e]) ∧ Below w.heap.size w w' := by
    have := parse_any s w hs; rw [hp] at this; exact this
  have HH := Lib.hid H
  clear H hp
  go_enter Tryd.func14, Tryd.ntmps14
  go_wp2_with fail
  refine HH.out.mono ?_
  rintro e' w1 ⟨rfl, hB⟩
  have HB := Lib.hid hB
  clear hB
  go_wp2
  go_ret
  exact ⟨rfl, HB.out⟩

theorem ex1 : parsed [49, 104, 32, 51, 48, 109, 105, 110] = (5400000000, 0) := by decide
theorem ex2 : parsed [53] = (5000000, 0) := by decide
theorem ex3 : parsed [49, 46, 53, 115] = (1500000, 0) := by decide
theorem ex4 : parsed [50, 119, 101, 101, 107, 115] = (1209600000000, 0) := by decide
theorem dd1 (d : Nat) (h : d < 10) : Lib.decDigits d = [UInt8.ofNat (48 + d)] := by rw [Lib.decDigits, dif_pos h]
theorem ex5 : textL 5400000001 = [49, 104, 32, 51, 48, 109, 105, 110, 32, 49, 117, 115] := by
  have e30 : Lib.decDigits 30 = [51, 48] := by rw [Lib.decDigits, dif_neg (by omega), dd1 _ (by omega)]; rfl
  have e1 : Lib.decDigits 1 = [49] := dd1 1 (by omega)
  have hp : tParts 5400000001 6 = [[49, 104], [51, 48, 109, 105, 110], [49, 117, 115]] := by
    simp [tParts, tPart, tRem, uSize, uName, e30, e1]
  unfold textL
  rw [if_neg (by omega), if_neg (by omega), if_neg (by omega)]
  show Lib.join (tParts 5400000001 6) [32] = _
  rw [hp]
  rfl

set_option maxHeartbeats 1000000 in
theorem works_any (w : World) (htab : Lib.TabIs Tryd.prog w "internal/strconv.uint64pow10" .u64 Lib.pow10Tab) :
    Calls Tryd.prog 9 #[] w fun e w' => e = .returned (.bool true) ∧ Below w.heap.size w w' := by
  have HT := Lib.hid htab
  clear htab
  go_enter Tryd.func9, Tryd.ntmps9
  go_wp2_with fail
  refine (is_yes ⟨#[49, 104, 32, 51, 48, 109, 105, 110]⟩ 5400000000 0 _ (by decide) ex1).mono ?_
  rintro e w1 ⟨rfl, hB⟩
  have HB1 := Lib.hid hB
  clear hB
  go_wp2_with fail
  refine (is_yes ⟨#[53]⟩ 5000000 0 _ (by decide) ex2).mono ?_
  rintro e w2 ⟨rfl, hB⟩
  have HB2 := Lib.hid (HB1.out.trans (hB.mono HB1.out.size))
  clear hB
  go_wp2_with fail
  refine (is_yes ⟨#[49, 46, 53, 115]⟩ 1500000 0 _ (by decide) ex3).mono ?_
  rintro e w3 ⟨rfl, hB⟩
  have HB3 := Lib.hid (HB2.out.trans (hB.mono HB2.out.size))
  clear hB
  go_wp2_with fail
  refine (is_yes ⟨#[50, 119, 101, 101, 107, 115]⟩ 1209600000000 0 _ (by decide) ex4).mono ?_
  rintro e w4 ⟨rfl, hB⟩
  have HB4 := Lib.hid (HB3.out.trans (hB.mono HB3.out.size))
  clear hB
  go_wp2_with fail
  refine (text_any 5400000001 _ (by omega) (tabAt w _ HT.out HB4.out)).mono ?_
  rw [ex5]
  rintro e w5 ⟨rfl, hB⟩
  have HB5 := Lib.hid (HB4.out.trans (hB.mono HB4.out.size))
  clear hB
  go_wp2
  go_ret
  exact ⟨rfl, HB5.out⟩
end Go.Proofs.YtcllimfaoajapaaDoor.Ts
