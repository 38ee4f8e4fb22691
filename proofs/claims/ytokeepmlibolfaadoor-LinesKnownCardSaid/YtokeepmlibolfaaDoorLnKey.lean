/-
  Layer 11 (lines): keys, assignments.
-/
import Derived.Test.YtokeepmlibolfaaDoorLnBase
namespace Go.Proofs.YtokeepmlibolfaaDoor.Ln
open Go.RowKit
set_option maxRecDepth 100000

theorem at_list {l : List UInt8} {i : Nat} (hi : i < (bs l).size) : (bs l)[i] = l.getD i 0 := by
  show l.toArray[i] = _
  have hi2 : i < l.length := hi
  simp [List.getD_eq_getElem?_getD, List.getElem?_eq_getElem hi2]
theorem below_drewN {B : Nat} {a w : World} (h : Below B a w) : ∀ m, Below B a (w.drewN m)
  | 0 => h
  | m + 1 => (below_drewN h m).drew
theorem goes_ltr {i : Nat} {b : UInt8} (h : ltr b.toNat = true) : goes i b = true := by unfold goes; rw [h, Bool.true_or]
set_option maxHeartbeats 1600000 in
theorem key_yes (l : List UInt8) (hl : l.length ≤ 9223372036854775807) (h : ∀ k, k < l.length → goes k (l.getD k 0) = true) (w : World) :
    Calls Tryd.prog 29 #[.string (bs l)] w fun e w' => e = .returned (.bool (!l.isEmpty)) ∧ w = w' := by
  have Y := Lib.hid h
  have HS : Hid (∀ k (hk : k < (bs l).size), (bs l)[k] = l.getD k 0) := Lib.hid fun k hk => at_list hk
  have hx : (bs l).toList.isEmpty = l.isEmpty := bs_empty l
  have hsz : (bs l).size = l.length := rfl
  obtain ⟨n, hn⟩ : ∃ n, l.length = n := ⟨_, rfl⟩
  rw [hn] at Y hl hsz
  clear h
  generalize l.isEmpty = c at *
  generalize hS : bs l = S at *
  go_enter Tryd.func29, Tryd.ntmps29
  go_wp2
  go_loop [6] (fun i => ∃ k : Nat, k ≤ n ∧ i = .int .i64 k) (fun i => n - (intOf i).toNat)
  case atStart => exact ⟨0, Nat.zero_le _, rfl⟩
  case round =>
    obtain ⟨k, hk, rfl⟩ := hrel
    by_cases hks : k < n
    · have hkz : k < S.size := by omega
      have HB := Lib.hid (HS.out k hkz)
      have hg := Y.out k hks
      generalize l.getD k 0 = b at *
      cases hlt : ltr b.toNat with
      | true =>
        have HL : Hid (∀ V, Calls Tryd.prog 39 #[.int .u8 (S[k].toNat : Int)] V fun e w' => e = .returned (.bool true) ∧ V = w') := Lib.hid fun V => by rw [HB.out]; exact letter_at b true V hlt
        clear hlt hg
        go_wp2_with (first | (go_at_call 39; refine (HL.out _).mono ?_; clear HL; rintro e V ⟨rfl, rfl⟩) | fail)
        go_round
        case rel => exact ⟨k + 1, by omega, by go_num⟩
        case measure => simp only [intOf]; omega
      | false =>
        have HL : Hid (∀ V, Calls Tryd.prog 39 #[.int .u8 (S[k].toNat : Int)] V fun e w' => e = .returned (.bool false) ∧ V = w') := Lib.hid fun V => by rw [HB.out]; exact letter_at b false V hlt
        unfold goes at hg
        rw [hlt, Bool.false_or, Bool.and_eq_true, decide_eq_true_eq] at hg
        have hk0 : ((k : Int) == 0) = false := beq_eq_false_iff_ne.mpr (by omega)
        have HD : Hid (∀ V, Calls Tryd.prog 40 #[.int .u8 (S[k].toNat : Int)] V fun e w' => e = .returned (.bool true) ∧ V = w') := Lib.hid fun V => by rw [HB.out]; exact digit_at b true V hg.2
        clear hlt hg
        go_wp2_with (first | (go_at_call 39; refine (HL.out _).mono ?_; clear HL; rintro e V ⟨rfl, rfl⟩) | (go_at_call 40; refine (HD.out _).mono ?_; clear HD; rintro e V ⟨rfl, rfl⟩) | fail)
        go_round
        case rel => exact ⟨k + 1, by omega, by go_num⟩
        case measure => simp only [intOf]; omega
    · obtain rfl : k = n := by omega
      go_wp2
      go_ret
      exact ⟨rfl, rfl⟩
set_option maxHeartbeats 1600000 in
theorem key_no (l : List UInt8) (hl : l.length ≤ 9223372036854775807) (m : Nat) (hm0 : m ≠ 0) (hm : m < l.length) (h : ∀ k, k < m → goes k (l.getD k 0) = true) (hb : goes m (l.getD m 0) = false) (w : World) :
    Calls Tryd.prog 29 #[.string (bs l)] w fun e w' => e = .returned (.bool false) ∧ w = w' := by
  have Y := Lib.hid h
  have HS : Hid (∀ k (hk : k < (bs l).size), (bs l)[k] = l.getD k 0) := Lib.hid fun k hk => at_list hk
  have hsz : (bs l).size = l.length := rfl
  obtain ⟨n, hn⟩ : ∃ n, l.length = n := ⟨_, rfl⟩
  rw [hn] at hl hsz hm
  have HM := Lib.hid hb
  clear h hb
  generalize hS : bs l = S at *
  go_enter Tryd.func29, Tryd.ntmps29
  go_wp2
  go_loop [6] (fun i => ∃ k : Nat, k ≤ m ∧ i = .int .i64 k) (fun i => n - (intOf i).toNat)
  case atStart => exact ⟨0, Nat.zero_le _, rfl⟩
  case round =>
    obtain ⟨k, hk, rfl⟩ := hrel
    have hks : k < n := by omega
    have hkz : k < S.size := by omega
    have HB := Lib.hid (HS.out k hkz)
    by_cases hkm : k < m
    · have hg := Y.out k hkm
      generalize l.getD k 0 = b at *
      cases hlt : ltr b.toNat with
      | true =>
        have HL : Hid (∀ V, Calls Tryd.prog 39 #[.int .u8 (S[k].toNat : Int)] V fun e w' => e = .returned (.bool true) ∧ V = w') := Lib.hid fun V => by rw [HB.out]; exact letter_at b true V hlt
        clear hlt hg
        go_wp2_with (first | (go_at_call 39; refine (HL.out _).mono ?_; clear HL; rintro e V ⟨rfl, rfl⟩) | fail)
        go_round
        case rel => exact ⟨k + 1, by omega, by go_num⟩
        case measure => simp only [intOf]; omega
      | false =>
        have HL : Hid (∀ V, Calls Tryd.prog 39 #[.int .u8 (S[k].toNat : Int)] V fun e w' => e = .returned (.bool false) ∧ V = w') := Lib.hid fun V => by rw [HB.out]; exact letter_at b false V hlt
        unfold goes at hg
        rw [hlt, Bool.false_or, Bool.and_eq_true, decide_eq_true_eq] at hg
        have hk0 : ((k : Int) == 0) = false := beq_eq_false_iff_ne.mpr (by omega)
        have HD : Hid (∀ V, Calls Tryd.prog 40 #[.int .u8 (S[k].toNat : Int)] V fun e w' => e = .returned (.bool true) ∧ V = w') := Lib.hid fun V => by rw [HB.out]; exact digit_at b true V hg.2
        clear hlt hg
        go_wp2_with (first | (go_at_call 39; refine (HL.out _).mono ?_; clear HL; rintro e V ⟨rfl, rfl⟩) | (go_at_call 40; refine (HD.out _).mono ?_; clear HD; rintro e V ⟨rfl, rfl⟩) | fail)
        go_round
        case rel => exact ⟨k + 1, by omega, by go_num⟩
        case measure => simp only [intOf]; omega
    · obtain rfl : k = m := by omega
      have hg := HM.out
      generalize l.getD k 0 = b at *
      unfold goes at hg
      rw [Bool.or_eq_false_iff] at hg
      have HL : Hid (∀ V, Calls Tryd.prog 39 #[.int .u8 (S[k].toNat : Int)] V fun e w' => e = .returned (.bool false) ∧ V = w') := Lib.hid fun V => by rw [HB.out]; exact letter_at b false V hg.1
      have hk0 : ((k : Int) == 0) = false := beq_eq_false_iff_ne.mpr (by omega)
      have hd : dgt b.toNat = false := by
        have := hg.2
        rw [Bool.and_eq_false_iff] at this
        rcases this with h | h
        · rw [decide_eq_false_iff_not] at h; exact absurd hm0 h
        · exact h
      have HD : Hid (∀ V, Calls Tryd.prog 40 #[.int .u8 (S[k].toNat : Int)] V fun e w' => e = .returned (.bool false) ∧ V = w') := Lib.hid fun V => by rw [HB.out]; exact digit_at b false V hd
      clear hg hd
      go_wp2_with (first | (go_at_call 39; refine (HL.out _).mono ?_; clear HL; rintro e V ⟨rfl, rfl⟩) | (go_at_call 40; refine (HD.out _).mono ?_; clear HD; rintro e V ⟨rfl, rfl⟩) | fail)
      go_ret
      exact ⟨rfl, rfl⟩
set_option maxHeartbeats 1600000 in
theorem key_zero (l : List UInt8) (hn : 0 < l.length) (hb : goes 0 (l.getD 0 0) = false) (w : World) :
    Calls Tryd.prog 29 #[.string (bs l)] w fun e w' => e = .returned (.bool false) ∧ w = w' := by
  have hz : 0 < (bs l).size := hn
  have HB : Hid ((bs l)[0] = l.getD 0 0) := Lib.hid (at_list hz)
  have hsz : (bs l).size = l.length := rfl
  obtain ⟨n, hne⟩ : ∃ n, l.length = n := ⟨_, rfl⟩
  rw [hne] at hsz hn
  unfold goes at hb
  rw [Bool.or_eq_false_iff] at hb
  have HL : Hid (∀ V, Calls Tryd.prog 39 #[.int .u8 ((bs l)[0].toNat : Int)] V fun e w' => e = .returned (.bool false) ∧ V = w') := Lib.hid fun V => by rw [HB.out]; exact letter_at _ false V hb.1
  clear hb HB hne
  generalize bs l = S at *
  go_enter Tryd.func29, Tryd.ntmps29
  go_wp2
  go_loop [6] (fun i => i = .int .i64 0) (fun _ => 0)
  case atStart => rfl
  case round =>
    obtain rfl := hrel
    go_wp2_with (first | (go_at_call 39; refine (HL.out _).mono ?_; clear HL; rintro e V ⟨rfl, rfl⟩) | fail)
    go_ret
    exact ⟨rfl, rfl⟩
theorem key_any (l : List UInt8) (hl : l.length ≤ 9223372036854775807) (w : World) :
    Calls Tryd.prog 29 #[.string (bs l)] w fun e w' => e = .returned (.bool (keyB l)) ∧ w = w' := by
  unfold keyB
  rcases range_all (fun i => goes i (l.getD i 0)) l.length with ⟨h, h2⟩ | ⟨h, m, hm, h2, h3⟩
  · rw [h, Bool.true_and]; exact key_yes l hl h2 w
  · rw [h, Bool.false_and]
    by_cases hm0 : m = 0
    · subst hm0; exact key_zero l hm h3 w
    · exact key_no l hl m hm0 hm h2 h3 w
theorem cut_len (l : List UInt8) : (Lib.cut l [61]).1.length ≤ l.length ∧ (Lib.cut l [61]).2.1.length ≤ l.length := by
  unfold Lib.cut
  split
  · simp only [List.length_take, List.length_drop]; omega
  · exact ⟨Nat.le_refl _, Nat.zero_le _⟩
set_option maxHeartbeats 800000 in
theorem assign_any (l : List UInt8) (hl : l.length < 4294967281) (m : Int) (w : World) (hm : w.cell? ⟨0, 0, none⟩ = some (.int .i64 m)) :
    Calls Tryd.prog 13 #[.string (bs l)] w fun e w' => e = .returned (if asgB l then .tuple #[.string (bs (asgK l)), .string (bs (asgV l)), .bool true] else .tuple #[.string ⟨#[]⟩, .string ⟨#[]⟩, .bool false]) ∧ Below w.heap.size w w' := by
  obtain ⟨c1, c2⟩ := cut_len l
  have HC : Hid (∀ V, V.cell? ⟨0, 0, none⟩ = some (.int .i64 m) → Calls Tryd.prog 28 #[.string (bs l), .string ⟨#[61]⟩] V fun e w' => e = .returned (.tuple #[.string (bs (Lib.cut l [61]).1), .string (bs (Lib.cut l [61]).2.1), .bool (Lib.cut l [61]).2.2]) ∧ Below V.heap.size V w') := Lib.hid fun V hV => by
    have := Tryd.strings_Cut (bs l) ⟨#[61]⟩ m V hl hV
    rw [bs_list] at this
    refine this.mono ?_
    rintro e w' ⟨he, n, rfl⟩
    exact ⟨he, below_drewN (Below.refl _ _) n⟩
  have HT1 : Hid (∀ V, Calls Tryd.prog 27 #[.string (bs (Lib.cut l [61]).1)] V fun e w' => e = .returned (.string (bs (asgK l))) ∧ Below V.heap.size V w') := Lib.hid fun V => trim_any _ (by omega) V
  have HT2 : Hid (∀ V, Calls Tryd.prog 27 #[.string (bs (Lib.cut l [61]).2.1)] V fun e w' => e = .returned (.string (bs (asgV l))) ∧ Below V.heap.size V w') := Lib.hid fun V => trim_any _ (by omega) V
  have hkl : (asgK l).length ≤ l.length := Nat.le_trans (trim_len _) c1
  have HK : Hid (∀ V, Calls Tryd.prog 29 #[.string (bs (asgK l))] V fun e w' => e = .returned (.bool (keyB (asgK l))) ∧ V = w') := Lib.hid fun V => key_any _ (by omega) V
  have HM := Lib.hid hm
  unfold asgB
  clear hl c1 c2 hkl hm
  generalize keyB (asgK l) = kb at *
  generalize bs (asgK l) = K at *
  generalize bs (asgV l) = V2 at *
  generalize bs (Lib.cut l [61]).1 = C1 at *
  generalize bs (Lib.cut l [61]).2.1 = C2 at *
  generalize (Lib.cut l [61]).2.2 = ok at *
  generalize bs l = S at *
  cases ok with
  | false =>
    go_enter Tryd.func13, Tryd.ntmps13
    go_wp2_with (first
      | (go_at_call 28; refine (HC.out _ HM.out).mono ?_; clear HC; rintro e V ⟨rfl, hb⟩; have B1 := Lib.hid hb; clear hb)
      | (go_at_call 27; refine (HT1.out _).mono ?_; clear HT1; rintro e V ⟨rfl, hb⟩; have B2 := Lib.hid (B1.out.trans (hb.mono B1.out.size)); clear hb)
      | fail)
    exact bodyPost_ret (v := .tuple #[.string ⟨#[]⟩, .string ⟨#[]⟩, .bool false]) (by simp [results, Tryd.results13, go_sem]) rfl ⟨rfl, B2.out⟩
  | true =>
    cases kb with
    | false =>
      go_enter Tryd.func13, Tryd.ntmps13
      go_wp2_with (first
        | (go_at_call 28; refine (HC.out _ HM.out).mono ?_; clear HC; rintro e V ⟨rfl, hb⟩; have B1 := Lib.hid hb; clear hb)
        | (go_at_call 27; refine (HT1.out _).mono ?_; clear HT1; rintro e V ⟨rfl, hb⟩; have B2 := Lib.hid (B1.out.trans (hb.mono B1.out.size)); clear hb)
        | (go_at_call 29; refine (HK.out _).mono ?_; clear HK; rintro e V ⟨rfl, rfl⟩)
        | fail)
      exact bodyPost_ret (v := .tuple #[.string ⟨#[]⟩, .string ⟨#[]⟩, .bool false]) (by simp [results, Tryd.results13, go_sem]) rfl ⟨rfl, B2.out⟩
    | true =>
      go_enter Tryd.func13, Tryd.ntmps13
      go_wp2_with (first
        | (go_at_call 28; refine (HC.out _ HM.out).mono ?_; clear HC; rintro e V ⟨rfl, hb⟩; have B1 := Lib.hid hb; clear hb)
        | (go_at_call 27; refine (HT1.out _).mono ?_; clear HT1; rintro e V ⟨rfl, hb⟩; have B2 := Lib.hid (B1.out.trans (hb.mono B1.out.size)); clear hb)
        | (go_at_call 29; refine (HK.out _).mono ?_; clear HK; rintro e V ⟨rfl, rfl⟩)
        | (go_at_call 27; refine (HT2.out _).mono ?_; clear HT2; rintro e V ⟨rfl, hb⟩; have B3 := Lib.hid (B2.out.trans (hb.mono B2.out.size)); clear hb)
        | fail)
      exact bodyPost_ret (v := .tuple #[.string K, .string V2, .bool true]) (by simp [results, Tryd.results13, go_sem]) rfl ⟨rfl, B3.out⟩
end Go.Proofs.YtokeepmlibolfaaDoor.Ln
