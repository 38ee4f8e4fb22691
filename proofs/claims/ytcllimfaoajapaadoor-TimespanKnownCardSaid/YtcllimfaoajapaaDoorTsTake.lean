/-
  What the small calls of package timespan answer: which byte is of which kind, and a run of them.
-/
import Derived.Test.YtcllimfaoajapaaDoorRows
import Derived.Test.YtcllimfaoajapaaDoorTsPlain
import Derived.Test.YtcllimfaoajapaaDoorShelf
import Derived.WalkKit
import Derived.WalkSpells
import Derived.WalkLawsBesides
import Derived.Deep.QuietTactic
import Derived.BigQuiet
import Derived.Lib.Hide
import Derived.LoopTactic
import Derived.Outline
import Derived.ProofKit
namespace Go.Proofs.YtcllimfaoajapaaDoor.Ts
open Go.RowKit

theorem ret_str {a b : ByteArray} (h : a = b) : Ending.returned (.string a) = .returned (.string b) := by rw [h]

/-- What is left to be read lies in block B, and all below base is as it was. -/
structure Left (base B : Nat) (w0 w : World) (s : ByteArray) : Prop where
  low : base ≤ B
  in' : B < w.heap.size
  cell : w.cell? ⟨B, 0, none⟩ = some (.string s)
  free : w.frozen? ⟨B, 0, none⟩ = false
  below : Below base w0 w
theorem Left.set {base B : Nat} {w0 w : World} {s : ByteArray} (h : Left base B w0 w s) (t : ByteArray) : Left base B w0 (w.setCell ⟨B, 0, none⟩ (.string t)) t where
  low := h.low
  in' := by have := h.in'; simpa using this
  cell := by have := h.cell; simp [go_sem, this]
  free := by have := h.free; simp [this]
  below := h.below.setCell h.low _

set_option maxHeartbeats 400000 in
theorem isDigit_yes (c : UInt8) (w : World) (h : dg c = true) :
    Calls Tryd.prog 43 #[.int .u8 (c.toNat : Int)] w fun e w' => e = .returned (.bool true) ∧ w = w' := by
  simp only [dg, Bool.and_eq_true] at h
  obtain ⟨h1, h2⟩ := h
  go_enter Tryd.func43, Tryd.ntmps43
  go_wp2
  go_ret
  exact ⟨rfl, rfl⟩
set_option maxHeartbeats 400000 in
theorem isDigit_no (c : UInt8) (w : World) (h : dg c = false) :
    Calls Tryd.prog 43 #[.int .u8 (c.toNat : Int)] w fun e w' => e = .returned (.bool false) ∧ w = w' := by
  simp only [dg, Bool.and_eq_false_iff] at h
  by_cases h1 : 48 ≤ (c.toNat : Int)
  · have h2 : decide ((c.toNat : Int) ≤ 57) = false := by rcases h with h | h <;> simp_all
    have h3 : decide (48 ≤ (c.toNat : Int)) = true := by simpa using h1
    clear h
    go_enter Tryd.func43, Tryd.ntmps43
    go_wp2
    go_ret
    exact ⟨rfl, rfl⟩
  · have h3 : decide (48 ≤ (c.toNat : Int)) = false := by simpa using h1
    clear h
    go_enter Tryd.func43, Tryd.ntmps43
    go_wp2
    go_ret
    exact ⟨rfl, rfl⟩

set_option maxHeartbeats 1000000 in
theorem take_dg (base B : Nat) (w0 w : World) (s : ByteArray) (hs : s.size ≤ 9223372036854775807) (h : Left base B w0 w s) :
    Calls Tryd.prog 31 #[.pointer (some ⟨B, 0, none⟩), .func (.func 43) #[] #[]] w fun e w' => e = .returned (.string ⟨(s.data.toList.takeWhile dg).toArray⟩) ∧ Left base B w0 w' ⟨(s.data.toList.dropWhile dg).toArray⟩ := by
  have hc := h.cell
  have hf := h.free
  have H := Lib.hid h
  clear h
  have hn := tw_le dg s.data.toList
  rw [← size_of] at hn
  have E1 := Lib.hid (ext_take s dg)
  have E2 := Lib.hid (ext_drop s dg)
  have Y := Lib.hid (tw_yes dg s.data.toList)
  have N := Lib.hid (tw_no dg s.data.toList)
  generalize hnn : (s.data.toList.takeWhile dg).length = n at hn E1 E2 Y N
  clear hnn
  go_enter Tryd.func31, Tryd.ntmps31
  go_wp2
  go_loop [6] (fun i => ∃ k : Nat, k ≤ n ∧ i = .int .i64 k) (fun i => n - (intOf i).toNat)
  case atStart => exact ⟨0, Nat.zero_le _, rfl⟩
  case round =>
    obtain ⟨k, hk, rfl⟩ := hrel
    by_cases hlt : k < n
    · have hks : k < s.size := by omega
      have hd : dg s[k] = true := by rw [at_byte s k hks]; exact Y.out k _ hlt
      have D := Lib.hid hd
      clear hd
      go_wp2_with (go_at_call 43; refine (isDigit_yes _ _ D.out).mono ?_; rintro e w' ⟨rfl, rfl⟩)
      go_round
      case rel => exact ⟨k + 1, by omega, by go_num⟩
      case measure => simp [intOf]; omega
    · obtain rfl : k = n := by omega
      by_cases hks : k < s.size
      · have hd : dg s[k] = false := by rw [at_byte s k hks]; exact N.out _
        have D := Lib.hid hd
        clear hd
        go_wp2_with (go_at_call 43; refine (isDigit_no _ _ D.out).mono ?_; rintro e w' ⟨rfl, rfl⟩)
        go_ret
        exact ⟨ret_str E1.out, by rw [← E2.out]; exact H.out.set _⟩
      · go_wp2
        go_ret
        exact ⟨ret_str E1.out, by rw [← E2.out]; exact H.out.set _⟩

end Go.Proofs.YtcllimfaoajapaaDoor.Ts
