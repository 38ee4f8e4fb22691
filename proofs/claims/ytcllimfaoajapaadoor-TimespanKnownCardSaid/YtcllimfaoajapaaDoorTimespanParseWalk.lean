/-
  The walk of the law TimespanParse.
-/
import Derived.Test.YtcllimfaoajapaaDoorTsRefLink
import Derived.Test.YtcllimfaoajapaaDoorTsOrderWalk
namespace Go.Proofs.YtcllimfaoajapaaDoor.Ts
open Go.RowKit

/-- What the program says, and what the document says. -/
theorem refP_cases (l : List UInt8) : (∃ n : Int, parsed l = (n, 0) ∧ refP l = (n, 0)) ∨ (parsed l = (0, 20) ∧ refP l = (0, 1)) ∨ (parsed l = (0, 6) ∧ refP l = (0, 2)) := by
  unfold parsed refP
  by_cases hn : trim l = never
  · rw [if_pos hn, if_pos hn]; exact .inl ⟨_, rfl, rfl⟩
  · rw [if_neg hn, if_neg hn]
    cases spanOf (trim l) with
    | none => exact .inr (.inl ⟨rfl, rfl⟩)
    | some n =>
      by_cases hg : 9223372036854775807 ≤ n
      · exact .inr (.inr ⟨if_pos hg, if_pos hg⟩)
      · exact .inl ⟨_, if_neg hg, if_neg hg⟩
theorem rparse_at (s : ByteArray) (n k : Int) (w : World) (hs : s.size ≤ 9223372036854775807) (h : refP s.data.toList = (n, k)) :
    Calls Tryd.prog 11 #[.string s] w fun e w' => e = .returned (.tuple #[.int .i64 n, .int .i64 k]) ∧ w = w' := by
  have H := rparse_any s w hs
  rw [h] at H
  exact H

set_option maxRecDepth 100000 in
set_option maxHeartbeats 1000000 in
theorem parse_long (s : ByteArray) (w : World) (htab : Lib.TabIs Tryd.prog w "internal/strconv.uint64pow10" .u64 Lib.pow10Tab) (hs : s.size ≤ 9223372036854775807) (h : 400 < s.size) :
    Calls Tryd.prog 3 #[.string s] w fun e w' => e = .returned (.bool true) ∧ Below w.heap.size w w' := by
  have HT := Lib.hid htab
  clear htab
  go_enter Tryd.func3, Tryd.ntmps3
  go_wp2_with fail
  refine (works_any _ HT.out).mono ?_
  rintro e w1 ⟨rfl, hB⟩
  have HB := Lib.hid hB
  clear hB
  go_wp2
  go_ret
  exact ⟨rfl, HB.out⟩

set_option maxRecDepth 100000 in
set_option maxHeartbeats 1000000 in
theorem parse_case_a (s : ByteArray) (n : Int) (w : World) (htab : Lib.TabIs Tryd.prog w "internal/strconv.uint64pow10" .u64 Lib.pow10Tab) (h : s.size ≤ 400) (hp : parsed s.data.toList = (n, 0)) (hr : refP s.data.toList = (n, 0)) :
    Calls Tryd.prog 3 #[.string s] w fun e w' => e = .returned (.bool true) ∧ Below w.heap.size w w' := by
  have HT := Lib.hid htab
  have HP := Lib.hid hp
  have HR := Lib.hid hr
  clear htab hp hr
  go_enter Tryd.func3, Tryd.ntmps3
  go_wp2_with fail
  refine (parse_at s n 0 _ (by omega) HP.out).mono ?_
  rintro e' w1 ⟨rfl, hB⟩
  have HB1 := Lib.hid hB
  clear hB
  go_wp2_with fail
  refine (rparse_at s n 0 _ (by omega) HR.out).mono ?_
  rintro e' w2 ⟨rfl, rfl⟩
  go_wp2_with fail
  refine (works_any _ (tabAt w _ HT.out HB1.out)).mono ?_
  rintro e w9 ⟨rfl, hB⟩
  have HB9 := Lib.hid (HB1.out.trans (hB.mono HB1.out.size))
  clear hB
  go_wp2
  go_ret
  exact ⟨rfl, HB9.out⟩

set_option maxRecDepth 100000 in
set_option maxHeartbeats 1000000 in
theorem parse_case_b (s : ByteArray) (w : World) (htab : Lib.TabIs Tryd.prog w "internal/strconv.uint64pow10" .u64 Lib.pow10Tab) (h : s.size ≤ 400) (hp : parsed s.data.toList = (0, 20)) (hr : refP s.data.toList = (0, 1)) :
    Calls Tryd.prog 3 #[.string s] w fun e w' => e = .returned (.bool true) ∧ Below w.heap.size w w' := by
  have HT := Lib.hid htab
  have HP := Lib.hid hp
  have HR := Lib.hid hr
  clear htab hp hr
  go_enter Tryd.func3, Tryd.ntmps3
  go_wp2_with fail
  refine (parse_at s 0 20 _ (by omega) HP.out).mono ?_
  rintro e' w1 ⟨rfl, hB⟩
  have HB1 := Lib.hid hB
  clear hB
  go_wp2_with fail
  refine (rparse_at s 0 1 _ (by omega) HR.out).mono ?_
  rintro e' w2 ⟨rfl, rfl⟩
  go_wp2_with fail
  refine (works_any _ (tabAt w _ HT.out HB1.out)).mono ?_
  rintro e w9 ⟨rfl, hB⟩
  have HB9 := Lib.hid (HB1.out.trans (hB.mono HB1.out.size))
  clear hB
  go_wp2
  go_ret
  exact ⟨rfl, HB9.out⟩

set_option maxRecDepth 100000 in
set_option maxHeartbeats 1000000 in
theorem parse_case_c (s : ByteArray) (w : World) (htab : Lib.TabIs Tryd.prog w "internal/strconv.uint64pow10" .u64 Lib.pow10Tab) (h : s.size ≤ 400) (hp : parsed s.data.toList = (0, 6)) (hr : refP s.data.toList = (0, 2)) :
    Calls Tryd.prog 3 #[.string s] w fun e w' => e = .returned (.bool true) ∧ Below w.heap.size w w' := by
  have HT := Lib.hid htab
  have HP := Lib.hid hp
  have HR := Lib.hid hr
  clear htab hp hr
  go_enter Tryd.func3, Tryd.ntmps3
  go_wp2_with fail
  refine (parse_at s 0 6 _ (by omega) HP.out).mono ?_
  rintro e' w1 ⟨rfl, hB⟩
  have HB1 := Lib.hid hB
  clear hB
  go_wp2_with fail
  refine (rparse_at s 0 2 _ (by omega) HR.out).mono ?_
  rintro e' w2 ⟨rfl, rfl⟩
  go_wp2_with fail
  refine (works_any _ (tabAt w _ HT.out HB1.out)).mono ?_
  rintro e w9 ⟨rfl, hB⟩
  have HB9 := Lib.hid (HB1.out.trans (hB.mono HB1.out.size))
  clear hB
  go_wp2
  go_ret
  exact ⟨rfl, HB9.out⟩

theorem timespanParse_any (s : ByteArray) (w : World) (hs : s.size ≤ 9223372036854775807) (htab : Lib.TabIs Tryd.prog w "internal/strconv.uint64pow10" .u64 Lib.pow10Tab) :
    Calls Tryd.prog 3 #[.string s] w fun e w' => e = .returned (.bool true) ∧ Below w.heap.size w w' := by
  by_cases h : 400 < s.size
  · exact parse_long s w htab hs h
  · rcases refP_cases s.data.toList with ⟨n, h1, h2⟩ | ⟨h1, h2⟩ | ⟨h1, h2⟩
    · exact parse_case_a s n w htab (by omega) h1 h2
    · exact parse_case_b s w htab (by omega) h1 h2
    · exact parse_case_c s w htab (by omega) h1 h2
end Go.Proofs.YtcllimfaoajapaaDoor.Ts
