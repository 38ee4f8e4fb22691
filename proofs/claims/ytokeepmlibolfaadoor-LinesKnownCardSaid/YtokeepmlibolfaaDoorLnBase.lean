/-
  Layer 11 (lines): blanks, remarks, keys.
-/
import Derived.Test.YtokeepmlibolfaaDoorLnPlain
import Derived.Test.YtokeepmlibolfaaDoorShelf
import Derived.Shelf.Strings.SlTrimAscii
import Derived.Lib.Hide
namespace Go.Proofs.YtokeepmlibolfaaDoor.Ln
open Go.RowKit
set_option maxRecDepth 100000

set_option maxHeartbeats 400000 in
theorem trim_any (l : List UInt8) (hl : l.length ≤ 9223372036854775807) (w : World) : Calls Tryd.prog 27 #[.string (bs l)] w fun e w' => e = .returned (.string (bs (trimL l))) ∧ Below w.heap.size w w' := by
  have HT : Hid (∀ V, Calls Tryd.prog 37 #[.string (bs l), .string ⟨#[9, 32]⟩] V fun e w' => e = .returned (.string (bs (trimL l))) ∧ Below V.heap.size V w') := Lib.hid fun V => by
    have := Any.strings_Trim_laid Tryd.lays160 (by kernel_rfl) (bs l) ⟨#[9, 32]⟩ V hl (by decide) (ascii_of_all (by decide))
    rw [bs_list] at this
    exact this
  clear hl
  generalize bs (trimL l) = T at *
  generalize bs l = S at *
  go_enter Tryd.func27, Tryd.ntmps27
  go_wp2_with (first | (go_at_call 37; refine (HT.out _).mono ?_; clear HT; rintro e V ⟨rfl, hb⟩; have HB := Lib.hid hb; clear hb) | fail)
  go_ret
  exact ⟨rfl, HB.out⟩
set_option maxHeartbeats 400000 in
theorem blank_any (l : List UInt8) (hl : l.length ≤ 9223372036854775807) (w : World) : Calls Tryd.prog 25 #[.string (bs l)] w fun e w' => e = .returned (.bool (blankB l)) ∧ Below w.heap.size w w' := by
  have HT := Lib.hid (trim_any l hl)
  have hx : (bs (trimL l)).toList.isEmpty = blankB l := bs_empty _
  clear hl
  generalize blankB l = c at *
  generalize bs (trimL l) = T at *
  generalize bs l = S at *
  go_enter Tryd.func25, Tryd.ntmps25
  go_wp2_with (first | (go_at_call 27; refine (HT.out _).mono ?_; clear HT; rintro e V ⟨rfl, hb⟩; have HB := Lib.hid hb; clear hb) | fail)
  go_ret
  exact ⟨rfl, HB.out⟩
set_option maxHeartbeats 400000 in
theorem remark_any (l : List UInt8) (hl : l.length ≤ 9223372036854775807) (w : World) : Calls Tryd.prog 24 #[.string (bs l)] w fun e w' => e = .returned (.bool (remB l)) ∧ Below w.heap.size w w' := by
  have HT := Lib.hid (trim_any l hl)
  have HP1 : Hid (∀ V, Calls Tryd.prog 14 #[.string (bs (trimL l)), .string ⟨#[35]⟩] V fun e w' => e = .returned (.bool (Lib.hasPrefix (trimL l) [35])) ∧ w' = V) := Lib.hid fun V => by have := Tryd.strings_HasPrefix (bs (trimL l)) ⟨#[35]⟩ V; rw [bs_list] at this; exact this
  have HP2 : Hid (∀ V, Calls Tryd.prog 14 #[.string (bs (trimL l)), .string ⟨#[59]⟩] V fun e w' => e = .returned (.bool (Lib.hasPrefix (trimL l) [59])) ∧ w' = V) := Lib.hid fun V => by have := Tryd.strings_HasPrefix (bs (trimL l)) ⟨#[59]⟩ V; rw [bs_list] at this; exact this
  clear hl
  unfold remB
  generalize Lib.hasPrefix (trimL l) [35] = c1 at *
  generalize Lib.hasPrefix (trimL l) [59] = c2 at *
  generalize bs (trimL l) = T at *
  generalize bs l = S at *
  cases c1 with
  | true =>
    go_enter Tryd.func24, Tryd.ntmps24
    go_wp2_with (first
      | (go_at_call 27; refine (HT.out _).mono ?_; clear HT; rintro e V ⟨rfl, hb⟩; have HB := Lib.hid hb; clear hb)
      | (go_at_call 14; refine (HP1.out _).mono ?_; clear HP1; rintro e V2 ⟨rfl, rfl⟩)
      | fail)
    go_ret
    exact ⟨rfl, HB.out⟩
  | false =>
    go_enter Tryd.func24, Tryd.ntmps24
    go_wp2_with (first
      | (go_at_call 27; refine (HT.out _).mono ?_; clear HT; rintro e V ⟨rfl, hb⟩; have HB := Lib.hid hb; clear hb)
      | (go_at_call 14; refine (HP1.out _).mono ?_; clear HP1; rintro e V2 ⟨rfl, rfl⟩)
      | (go_at_call 14; refine (HP2.out _).mono ?_; clear HP2; rintro e V3 ⟨rfl, rfl⟩)
      | fail)
    go_ret
    exact ⟨rfl, HB.out⟩
set_option maxHeartbeats 400000 in
theorem digit_a (c : UInt8) (w : World) (h : decide (48 ≤ (c.toNat : Int)) = false) : Calls Tryd.prog 40 #[.int .u8 (c.toNat : Int)] w fun e w' => e = .returned (.bool false) ∧ w = w' := by
  go_enter Tryd.func40, Tryd.ntmps40
  go_wp2
  go_ret
  exact ⟨rfl, rfl⟩
set_option maxHeartbeats 400000 in
theorem digit_b (c : UInt8) (b : Bool) (w : World) (h : decide (48 ≤ (c.toNat : Int)) = true) (h2 : decide ((c.toNat : Int) ≤ 57) = b) : Calls Tryd.prog 40 #[.int .u8 (c.toNat : Int)] w fun e w' => e = .returned (.bool b) ∧ w = w' := by
  subst h2
  go_enter Tryd.func40, Tryd.ntmps40
  go_wp2
  go_ret
  exact ⟨rfl, rfl⟩
theorem digit_at (c : UInt8) (b : Bool) (w : World) (h : dgt c.toNat = b) : Calls Tryd.prog 40 #[.int .u8 (c.toNat : Int)] w fun e w' => e = .returned (.bool b) ∧ w = w' := by
  subst h
  unfold dgt
  by_cases h1 : 48 ≤ c.toNat
  · exact digit_b c _ w (decide_eq_true (by omega)) (by rw [Bool.eq_iff_iff, decide_eq_true_eq, decide_eq_true_eq]; omega)
  · rw [decide_eq_false (by omega)]; exact digit_a c w (decide_eq_false (by omega))
set_option maxHeartbeats 400000 in
theorem letter_a (c : UInt8) (w : World) (h0 : decide (97 ≤ (c.toNat : Int)) = true) (h1 : decide ((c.toNat : Int) ≤ 122) = true) : Calls Tryd.prog 39 #[.int .u8 (c.toNat : Int)] w fun e w' => e = .returned (.bool true) ∧ w = w' := by
  go_enter Tryd.func39, Tryd.ntmps39
  go_wp2
  go_ret
  exact ⟨rfl, rfl⟩
set_option maxHeartbeats 400000 in
theorem letter_b (c : UInt8) (w : World) (h0 : decide (97 ≤ (c.toNat : Int)) = true) (h1 : decide ((c.toNat : Int) ≤ 122) = false) (h2 : decide (65 ≤ (c.toNat : Int)) = true) (b : Bool) (h3 : decide ((c.toNat : Int) ≤ 90) = b) : Calls Tryd.prog 39 #[.int .u8 (c.toNat : Int)] w fun e w' => e = .returned (.bool b) ∧ w = w' := by
  subst h3
  go_enter Tryd.func39, Tryd.ntmps39
  go_wp2
  go_ret
  exact ⟨rfl, rfl⟩
set_option maxHeartbeats 400000 in
theorem letter_c (c : UInt8) (w : World) (h0 : decide (97 ≤ (c.toNat : Int)) = false) (h2 : decide (65 ≤ (c.toNat : Int)) = true) (b : Bool) (h3 : decide ((c.toNat : Int) ≤ 90) = b) : Calls Tryd.prog 39 #[.int .u8 (c.toNat : Int)] w fun e w' => e = .returned (.bool b) ∧ w = w' := by
  subst h3
  go_enter Tryd.func39, Tryd.ntmps39
  go_wp2
  go_ret
  exact ⟨rfl, rfl⟩
set_option maxHeartbeats 400000 in
theorem letter_d (c : UInt8) (w : World) (h0 : decide (97 ≤ (c.toNat : Int)) = false) (h2 : decide (65 ≤ (c.toNat : Int)) = false) : Calls Tryd.prog 39 #[.int .u8 (c.toNat : Int)] w fun e w' => e = .returned (.bool false) ∧ w = w' := by
  go_enter Tryd.func39, Tryd.ntmps39
  go_wp2
  go_ret
  exact ⟨rfl, rfl⟩
theorem letter_at (c : UInt8) (b : Bool) (w : World) (h : ltr c.toNat = b) : Calls Tryd.prog 39 #[.int .u8 (c.toNat : Int)] w fun e w' => e = .returned (.bool b) ∧ w = w' := by
  subst h
  unfold ltr
  by_cases h1 : 97 ≤ c.toNat
  · by_cases h2 : c.toNat ≤ 122
    · rw [decide_eq_true (⟨h1, h2⟩ : 97 ≤ c.toNat ∧ c.toNat ≤ 122)]; exact letter_a c w (decide_eq_true (by omega)) (decide_eq_true (by omega))
    · rw [decide_eq_false (by omega : ¬ (97 ≤ c.toNat ∧ c.toNat ≤ 122)), Bool.false_or]
      exact letter_b c w (decide_eq_true (by omega)) (decide_eq_false (by omega)) (decide_eq_true (by omega)) _ (by rw [Bool.eq_iff_iff, decide_eq_true_eq, decide_eq_true_eq]; omega)
  · rw [decide_eq_false (by omega : ¬ (97 ≤ c.toNat ∧ c.toNat ≤ 122)), Bool.false_or]
    by_cases h3 : 65 ≤ c.toNat
    · exact letter_c c w (decide_eq_false (by omega)) (decide_eq_true (by omega)) _ (by rw [Bool.eq_iff_iff, decide_eq_true_eq, decide_eq_true_eq]; omega)
    · rw [decide_eq_false (by omega)]; exact letter_d c w (decide_eq_false (by omega)) (decide_eq_false (by omega))
end Go.Proofs.YtokeepmlibolfaaDoor.Ln
