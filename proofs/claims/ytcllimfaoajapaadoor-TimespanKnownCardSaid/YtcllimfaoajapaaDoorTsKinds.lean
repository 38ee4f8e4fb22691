/-
  Letters and blanks, and runs of them. (Made by tools/gen_ts.py.)
-/
import Derived.Test.YtcllimfaoajapaaDoorTsTake
namespace Go.Proofs.YtcllimfaoajapaaDoor.Ts
open Go.RowKit

set_option maxHeartbeats 400000 in
theorem isLetter_a (c : UInt8) (w : World) (h0 : decide (97 ≤ (c.toNat : Int)) = true) (h1 : decide ((c.toNat : Int) ≤ 122) = true) :
    Calls Tryd.prog 46 #[.int .u8 (c.toNat : Int)] w fun e w' => e = .returned (.bool true) ∧ w = w' := by
  go_enter Tryd.func46, Tryd.ntmps46
  go_wp2
  go_ret
  exact ⟨rfl, rfl⟩

set_option maxHeartbeats 400000 in
theorem isLetter_b (c : UInt8) (w : World) (h0 : decide (97 ≤ (c.toNat : Int)) = true) (h1 : decide ((c.toNat : Int) ≤ 122) = false) (h2 : decide (65 ≤ (c.toNat : Int)) = true) (h3 : decide ((c.toNat : Int) ≤ 90) = false) :
    Calls Tryd.prog 46 #[.int .u8 (c.toNat : Int)] w fun e w' => e = .returned (.bool false) ∧ w = w' := by
  go_enter Tryd.func46, Tryd.ntmps46
  go_wp2
  go_ret
  exact ⟨rfl, rfl⟩

set_option maxHeartbeats 400000 in
theorem isLetter_c (c : UInt8) (w : World) (h0 : decide (97 ≤ (c.toNat : Int)) = false) (h1 : decide (65 ≤ (c.toNat : Int)) = true) (h2 : decide ((c.toNat : Int) ≤ 90) = true) :
    Calls Tryd.prog 46 #[.int .u8 (c.toNat : Int)] w fun e w' => e = .returned (.bool true) ∧ w = w' := by
  go_enter Tryd.func46, Tryd.ntmps46
  go_wp2
  go_ret
  exact ⟨rfl, rfl⟩

set_option maxHeartbeats 400000 in
theorem isLetter_d (c : UInt8) (w : World) (h0 : decide (97 ≤ (c.toNat : Int)) = false) (h1 : decide (65 ≤ (c.toNat : Int)) = true) (h2 : decide ((c.toNat : Int) ≤ 90) = false) :
    Calls Tryd.prog 46 #[.int .u8 (c.toNat : Int)] w fun e w' => e = .returned (.bool false) ∧ w = w' := by
  go_enter Tryd.func46, Tryd.ntmps46
  go_wp2
  go_ret
  exact ⟨rfl, rfl⟩

set_option maxHeartbeats 400000 in
theorem isLetter_e (c : UInt8) (w : World) (h0 : decide (97 ≤ (c.toNat : Int)) = false) (h1 : decide (65 ≤ (c.toNat : Int)) = false) :
    Calls Tryd.prog 46 #[.int .u8 (c.toNat : Int)] w fun e w' => e = .returned (.bool false) ∧ w = w' := by
  go_enter Tryd.func46, Tryd.ntmps46
  go_wp2
  go_ret
  exact ⟨rfl, rfl⟩

theorem isLetter_yes (c : UInt8) (w : World) (h : lt c = true) :
    Calls Tryd.prog 46 #[.int .u8 (c.toNat : Int)] w fun e w' => e = .returned (.bool true) ∧ w = w' := by
  simp only [lt, Bool.or_eq_true, Bool.and_eq_true, decide_eq_true_eq] at h
  by_cases h1 : 97 ≤ (c.toNat : Int)
  · exact isLetter_a c w (decide_eq_true h1) (decide_eq_true (by omega))
  · exact isLetter_c c w (decide_eq_false h1) (decide_eq_true (by omega)) (decide_eq_true (by omega))
theorem isLetter_no (c : UInt8) (w : World) (h : lt c = false) :
    Calls Tryd.prog 46 #[.int .u8 (c.toNat : Int)] w fun e w' => e = .returned (.bool false) ∧ w = w' := by
  have h' : ¬ ((97 ≤ (c.toNat : Int) ∧ (c.toNat : Int) ≤ 122) ∨ (65 ≤ (c.toNat : Int) ∧ (c.toNat : Int) ≤ 90)) := by
    intro g; rw [show lt c = true by simp only [lt, Bool.or_eq_true, Bool.and_eq_true, decide_eq_true_eq]; exact g] at h; cases h
  by_cases h1 : 97 ≤ (c.toNat : Int)
  · exact isLetter_b c w (decide_eq_true h1) (decide_eq_false (by omega)) (decide_eq_true (by omega)) (decide_eq_false (by omega))
  · by_cases h2 : 65 ≤ (c.toNat : Int)
    · exact isLetter_d c w (decide_eq_false h1) (decide_eq_true h2) (decide_eq_false (by omega))
    · exact isLetter_e c w (decide_eq_false h1) (decide_eq_false h2)

theorem toU8 (c : UInt8) : (c.toNat : Int).toNat.toUInt8 = c := by simp
theorem idx_at (c : UInt8) (v : Int) (w : World) (h : Lib.indexByte [32, 9] c = v) :
    Calls Tryd.prog 51 #[.string ⟨#[32, 9]⟩, .int .u8 (c.toNat : Int)] w fun e w' => e = .returned (.int .i64 v) ∧ w = w' := by
  have H := Tryd.strings_IndexByte ⟨#[32, 9]⟩ (c.toNat : Int) w
  rw [toU8] at H
  refine H.mono ?_
  rintro e w' ⟨rfl, rfl⟩
  exact ⟨by rw [← h], rfl⟩
set_option maxHeartbeats 400000 in
theorem isBlank_at (c : UInt8) (v : Int) (w : World) (h : Lib.indexByte [32, 9] c = v) (b : Bool) (hb : decide (0 ≤ v) = b) :
    Calls Tryd.prog 32 #[.int .u8 (c.toNat : Int)] w fun e w' => e = .returned (.bool b) ∧ w = w' := by
  have H := Lib.hid h
  have HB := Lib.hid hb
  clear h hb
  go_enter Tryd.func32, Tryd.ntmps32
  go_wp2_with (go_at_call 51; refine (idx_at c v _ H.out).mono ?_; rintro e w' ⟨rfl, rfl⟩)
  go_ret
  exact ⟨by rw [← HB.out]; simp, rfl⟩
theorem isBlank_yes (c : UInt8) (w : World) (h : bl c = true) :
    Calls Tryd.prog 32 #[.int .u8 (c.toNat : Int)] w fun e w' => e = .returned (.bool true) ∧ w = w' := by
  have h' : c = 32 ∨ c = 9 := by
    simp only [bl, Bool.or_eq_true, beq_iff_eq] at h
    rcases h with h | h
    · exact .inl (UInt8.toNat_inj.mp (by simpa using (show c.toNat = 32 by omega)))
    · exact .inr (UInt8.toNat_inj.mp (by simpa using (show c.toNat = 9 by omega)))
  rcases h' with rfl | rfl
  · exact isBlank_at 32 0 w (by decide) true (by decide)
  · exact isBlank_at 9 1 w (by decide) true (by decide)
theorem isBlank_no (c : UInt8) (w : World) (h : bl c = false) :
    Calls Tryd.prog 32 #[.int .u8 (c.toNat : Int)] w fun e w' => e = .returned (.bool false) ∧ w = w' := by
  simp only [bl, Bool.or_eq_false_iff, beq_eq_false_iff_ne] at h
  have h1 : ((32 : UInt8) == c) = false := by rw [beq_eq_false_iff_ne]; rintro rfl; exact h.1 rfl
  have h2 : ((9 : UInt8) == c) = false := by rw [beq_eq_false_iff_ne]; rintro rfl; exact h.2 rfl
  exact isBlank_at c (-1) w (by simp [Lib.indexByte, h1, h2]) false (by decide)

set_option maxHeartbeats 1000000 in
theorem take_lt (base B : Nat) (w0 w : World) (s : ByteArray) (hs : s.size ≤ 9223372036854775807) (h : Left base B w0 w s) :
    Calls Tryd.prog 31 #[.pointer (some ⟨B, 0, none⟩), .func (.func 46) #[] #[]] w fun e w' => e = .returned (.string ⟨(s.data.toList.takeWhile lt).toArray⟩) ∧ Left base B w0 w' ⟨(s.data.toList.dropWhile lt).toArray⟩ := by
  have hc := h.cell
  have hf := h.free
  have H := Lib.hid h
  clear h
  have hn := tw_le lt s.data.toList
  rw [← size_of] at hn
  have E1 := Lib.hid (ext_take s lt)
  have E2 := Lib.hid (ext_drop s lt)
  have Y := Lib.hid (tw_yes lt s.data.toList)
  have N := Lib.hid (tw_no lt s.data.toList)
  generalize hnn : (s.data.toList.takeWhile lt).length = n at hn E1 E2 Y N
  clear hnn
  go_enter Tryd.func31, Tryd.ntmps31
  go_wp2
  go_loop [6] (fun i => ∃ k : Nat, k ≤ n ∧ i = .int .i64 k) (fun i => n - (intOf i).toNat)
  case atStart => exact ⟨0, Nat.zero_le _, rfl⟩
  case round =>
    obtain ⟨k, hk, rfl⟩ := hrel
    by_cases hlt : k < n
    · have hks : k < s.size := by omega
      have hd : lt s[k] = true := by rw [at_byte s k hks]; exact Y.out k _ hlt
      have D := Lib.hid hd
      clear hd
      go_wp2_with (go_at_call 46; refine (isLetter_yes _ _ D.out).mono ?_; rintro e w' ⟨rfl, rfl⟩)
      go_round
      case rel => exact ⟨k + 1, by omega, by go_num⟩
      case measure => simp [intOf]; omega
    · obtain rfl : k = n := by omega
      by_cases hks : k < s.size
      · have hd : lt s[k] = false := by rw [at_byte s k hks]; exact N.out _
        have D := Lib.hid hd
        clear hd
        go_wp2_with (go_at_call 46; refine (isLetter_no _ _ D.out).mono ?_; rintro e w' ⟨rfl, rfl⟩)
        go_ret
        exact ⟨ret_str E1.out, by rw [← E2.out]; exact H.out.set _⟩
      · go_wp2
        go_ret
        exact ⟨ret_str E1.out, by rw [← E2.out]; exact H.out.set _⟩

set_option maxHeartbeats 1000000 in
theorem take_bl (base B : Nat) (w0 w : World) (s : ByteArray) (hs : s.size ≤ 9223372036854775807) (h : Left base B w0 w s) :
    Calls Tryd.prog 31 #[.pointer (some ⟨B, 0, none⟩), .func (.func 32) #[] #[]] w fun e w' => e = .returned (.string ⟨(s.data.toList.takeWhile bl).toArray⟩) ∧ Left base B w0 w' ⟨(s.data.toList.dropWhile bl).toArray⟩ := by
  have hc := h.cell
  have hf := h.free
  have H := Lib.hid h
  clear h
  have hn := tw_le bl s.data.toList
  rw [← size_of] at hn
  have E1 := Lib.hid (ext_take s bl)
  have E2 := Lib.hid (ext_drop s bl)
  have Y := Lib.hid (tw_yes bl s.data.toList)
  have N := Lib.hid (tw_no bl s.data.toList)
  generalize hnn : (s.data.toList.takeWhile bl).length = n at hn E1 E2 Y N
  clear hnn
  go_enter Tryd.func31, Tryd.ntmps31
  go_wp2
  go_loop [6] (fun i => ∃ k : Nat, k ≤ n ∧ i = .int .i64 k) (fun i => n - (intOf i).toNat)
  case atStart => exact ⟨0, Nat.zero_le _, rfl⟩
  case round =>
    obtain ⟨k, hk, rfl⟩ := hrel
    by_cases hlt : k < n
    · have hks : k < s.size := by omega
      have hd : bl s[k] = true := by rw [at_byte s k hks]; exact Y.out k _ hlt
      have D := Lib.hid hd
      clear hd
      go_wp2_with (go_at_call 32; refine (isBlank_yes _ _ D.out).mono ?_; rintro e w' ⟨rfl, rfl⟩)
      go_round
      case rel => exact ⟨k + 1, by omega, by go_num⟩
      case measure => simp [intOf]; omega
    · obtain rfl : k = n := by omega
      by_cases hks : k < s.size
      · have hd : bl s[k] = false := by rw [at_byte s k hks]; exact N.out _
        have D := Lib.hid hd
        clear hd
        go_wp2_with (go_at_call 32; refine (isBlank_no _ _ D.out).mono ?_; rintro e w' ⟨rfl, rfl⟩)
        go_ret
        exact ⟨ret_str E1.out, by rw [← E2.out]; exact H.out.set _⟩
      · go_wp2
        go_ret
        exact ⟨ret_str E1.out, by rw [← E2.out]; exact H.out.set _⟩

end Go.Proofs.YtcllimfaoajapaaDoor.Ts
