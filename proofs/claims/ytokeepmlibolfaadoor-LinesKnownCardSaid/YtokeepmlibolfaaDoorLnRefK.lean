/-
  Layer 11 (lines): the document's own letters, keys, remarks (written by gen_ln_refk.py).
-/
import Derived.Test.YtokeepmlibolfaaDoorLnRefTW
namespace Go.Proofs.YtokeepmlibolfaaDoor.Ln
open Go.RowKit
set_option maxRecDepth 100000

set_option maxHeartbeats 400000 in
theorem rletter_a (c : UInt8) (w : World) (h0 : decide (97 ≤ (c.toNat : Int)) = true) (h1 : decide ((c.toNat : Int) ≤ 122) = true) : Calls Tryd.prog 33 #[.int .u8 (c.toNat : Int)] w fun e w' => e = .returned (.bool true) ∧ w = w' := by
  go_enter Tryd.func33, Tryd.ntmps33
  go_wp2
  go_ret
  exact ⟨rfl, rfl⟩
set_option maxHeartbeats 400000 in
theorem rletter_b (c : UInt8) (w : World) (h0 : decide (97 ≤ (c.toNat : Int)) = true) (h1 : decide ((c.toNat : Int) ≤ 122) = false) (h2 : decide (65 ≤ (c.toNat : Int)) = true) (b : Bool) (h3 : decide ((c.toNat : Int) ≤ 90) = b) : Calls Tryd.prog 33 #[.int .u8 (c.toNat : Int)] w fun e w' => e = .returned (.bool b) ∧ w = w' := by
  subst h3
  go_enter Tryd.func33, Tryd.ntmps33
  go_wp2
  go_ret
  exact ⟨rfl, rfl⟩
set_option maxHeartbeats 400000 in
theorem rletter_c (c : UInt8) (w : World) (h0 : decide (97 ≤ (c.toNat : Int)) = false) (h2 : decide (65 ≤ (c.toNat : Int)) = true) (b : Bool) (h3 : decide ((c.toNat : Int) ≤ 90) = b) : Calls Tryd.prog 33 #[.int .u8 (c.toNat : Int)] w fun e w' => e = .returned (.bool b) ∧ w = w' := by
  subst h3
  go_enter Tryd.func33, Tryd.ntmps33
  go_wp2
  go_ret
  exact ⟨rfl, rfl⟩
set_option maxHeartbeats 400000 in
theorem rletter_d (c : UInt8) (w : World) (h0 : decide (97 ≤ (c.toNat : Int)) = false) (h2 : decide (65 ≤ (c.toNat : Int)) = false) : Calls Tryd.prog 33 #[.int .u8 (c.toNat : Int)] w fun e w' => e = .returned (.bool false) ∧ w = w' := by
  go_enter Tryd.func33, Tryd.ntmps33
  go_wp2
  go_ret
  exact ⟨rfl, rfl⟩
theorem rletter_at (c : UInt8) (b : Bool) (w : World) (h : ltr c.toNat = b) : Calls Tryd.prog 33 #[.int .u8 (c.toNat : Int)] w fun e w' => e = .returned (.bool b) ∧ w = w' := by
  subst h
  unfold ltr
  by_cases h1 : 97 ≤ c.toNat
  · by_cases h2 : c.toNat ≤ 122
    · rw [decide_eq_true (⟨h1, h2⟩ : 97 ≤ c.toNat ∧ c.toNat ≤ 122)]; exact rletter_a c w (decide_eq_true (by omega)) (decide_eq_true (by omega))
    · rw [decide_eq_false (by omega : ¬ (97 ≤ c.toNat ∧ c.toNat ≤ 122)), Bool.false_or]
      exact rletter_b c w (decide_eq_true (by omega)) (decide_eq_false (by omega)) (decide_eq_true (by omega)) _ (by rw [Bool.eq_iff_iff, decide_eq_true_eq, decide_eq_true_eq]; omega)
  · rw [decide_eq_false (by omega : ¬ (97 ≤ c.toNat ∧ c.toNat ≤ 122)), Bool.false_or]
    by_cases h3 : 65 ≤ c.toNat
    · exact rletter_c c w (decide_eq_false (by omega)) (decide_eq_true (by omega)) _ (by rw [Bool.eq_iff_iff, decide_eq_true_eq, decide_eq_true_eq]; omega)
    · rw [decide_eq_false (by omega)]; exact rletter_d c w (decide_eq_false (by omega)) (decide_eq_false (by omega))
set_option maxHeartbeats 1600000 in
theorem rkey_yes (l : List UInt8) (hl : l.length ≤ 9223372036854775807) (h : ∀ k, k < l.length → goes k (l.getD k 0) = true) (w : World) :
    Calls Tryd.prog 20 #[.string (bs l)] w fun e w' => e = .returned (.bool (!l.isEmpty)) ∧ w = w' := by
  have Y := Lib.hid h
  have HS : Hid (∀ k (hk : k < (bs l).size), (bs l)[k] = l.getD k 0) := Lib.hid fun k hk => at_list hk
  have hx : (bs l).toList.isEmpty = l.isEmpty := bs_empty l
  have hsz : (bs l).size = l.length := rfl
  obtain ⟨n, hn⟩ : ∃ n, l.length = n := ⟨_, rfl⟩
  rw [hn] at Y hl hsz
  clear h
  generalize l.isEmpty = c at *
  generalize hS : bs l = S at *
  go_enter Tryd.func20, Tryd.ntmps20
  go_wp2
  go_loop [3] (fun i => ∃ k : Nat, k ≤ n ∧ i = .int .i64 k) (fun i => n - (intOf i).toNat)
  case atStart => exact ⟨0, Nat.zero_le _, rfl⟩
  case round =>
    obtain ⟨k, hk, rfl⟩ := hrel
    by_cases hks : k < n
    · have hkz : k < S.size := by omega
      have HB := Lib.hid (HS.out k hkz)
      have hg := Y.out k hks
      generalize l.getD k 0 = b at *
      cases hlt : ltr b.toNat with
      | true =>
        have HL : Hid (∀ V, Calls Tryd.prog 33 #[.int .u8 (S[k].toNat : Int)] V fun e w' => e = .returned (.bool true) ∧ V = w') := Lib.hid fun V => by rw [HB.out]; exact rletter_at b true V hlt
        clear hlt hg
        go_wp2_with (first | (go_at_call 33; refine (HL.out _).mono ?_; clear HL; rintro e V ⟨rfl, rfl⟩) | fail)
        go_round
        case rel => exact ⟨k + 1, by omega, by go_num⟩
        case measure => simp only [intOf]; omega
      | false =>
        have HL : Hid (∀ V, Calls Tryd.prog 33 #[.int .u8 (S[k].toNat : Int)] V fun e w' => e = .returned (.bool false) ∧ V = w') := Lib.hid fun V => by rw [HB.out]; exact rletter_at b false V hlt
        unfold goes at hg
        rw [hlt, Bool.false_or, Bool.and_eq_true, decide_eq_true_eq] at hg
        have hk0 : ((k : Int) == 0) = false := beq_eq_false_iff_ne.mpr (by omega)
        have hd2 := hg.2
        unfold dgt at hd2
        rw [decide_eq_true_eq] at hd2
        have hd3 : ¬ (S[k].toNat : Int) < 48 := by rw [HB.out]; omega
        have hd4 : ¬ (57 : Int) < (S[k].toNat : Int) := by rw [HB.out]; omega
        clear hd2
        clear hlt hg
        go_wp2_with (first | (go_at_call 33; refine (HL.out _).mono ?_; clear HL; rintro e V ⟨rfl, rfl⟩) | fail)
        go_round
        case rel => exact ⟨k + 1, by omega, by go_num⟩
        case measure => simp only [intOf]; omega
    · obtain rfl : k = n := by omega
      go_wp2
      go_ret
      exact ⟨rfl, rfl⟩
set_option maxHeartbeats 1600000 in
theorem rkey_no (l : List UInt8) (hl : l.length ≤ 9223372036854775807) (m : Nat) (hm0 : m ≠ 0) (hm : m < l.length) (h : ∀ k, k < m → goes k (l.getD k 0) = true) (hb : goes m (l.getD m 0) = false) (w : World) :
    Calls Tryd.prog 20 #[.string (bs l)] w fun e w' => e = .returned (.bool false) ∧ w = w' := by
  have Y := Lib.hid h
  have HS : Hid (∀ k (hk : k < (bs l).size), (bs l)[k] = l.getD k 0) := Lib.hid fun k hk => at_list hk
  have hsz : (bs l).size = l.length := rfl
  obtain ⟨n, hn⟩ : ∃ n, l.length = n := ⟨_, rfl⟩
  rw [hn] at hl hsz hm
  have HM := Lib.hid hb
  clear h hb
  generalize hS : bs l = S at *
  go_enter Tryd.func20, Tryd.ntmps20
  go_wp2
  go_loop [3] (fun i => ∃ k : Nat, k ≤ m ∧ i = .int .i64 k) (fun i => n - (intOf i).toNat)
  case atStart => exact ⟨0, Nat.zero_le _, rfl⟩
  case round =>
    obtain ⟨k, hk, rfl⟩ := hrel
    have hks : k < n := by omega
    have hkz : k < S.size := by omega
    have HB := Lib.hid (HS.out k hkz)
    by_cases hkm : k < m
    · have hg := Y.out k hkm
      generalize l.getD k 0 = b at *
      cases hlt : ltr b.toNat with
      | true =>
        have HL : Hid (∀ V, Calls Tryd.prog 33 #[.int .u8 (S[k].toNat : Int)] V fun e w' => e = .returned (.bool true) ∧ V = w') := Lib.hid fun V => by rw [HB.out]; exact rletter_at b true V hlt
        clear hlt hg
        go_wp2_with (first | (go_at_call 33; refine (HL.out _).mono ?_; clear HL; rintro e V ⟨rfl, rfl⟩) | fail)
        go_round
        case rel => exact ⟨k + 1, by omega, by go_num⟩
        case measure => simp only [intOf]; omega
      | false =>
        have HL : Hid (∀ V, Calls Tryd.prog 33 #[.int .u8 (S[k].toNat : Int)] V fun e w' => e = .returned (.bool false) ∧ V = w') := Lib.hid fun V => by rw [HB.out]; exact rletter_at b false V hlt
        unfold goes at hg
        rw [hlt, Bool.false_or, Bool.and_eq_true, decide_eq_true_eq] at hg
        have hk0 : ((k : Int) == 0) = false := beq_eq_false_iff_ne.mpr (by omega)
        have hd2 := hg.2
        unfold dgt at hd2
        rw [decide_eq_true_eq] at hd2
        have hd3 : ¬ (S[k].toNat : Int) < 48 := by rw [HB.out]; omega
        have hd4 : ¬ (57 : Int) < (S[k].toNat : Int) := by rw [HB.out]; omega
        clear hd2
        clear hlt hg
        go_wp2_with (first | (go_at_call 33; refine (HL.out _).mono ?_; clear HL; rintro e V ⟨rfl, rfl⟩) | fail)
        go_round
        case rel => exact ⟨k + 1, by omega, by go_num⟩
        case measure => simp only [intOf]; omega
    · obtain rfl : k = m := by omega
      have hg := HM.out
      generalize l.getD k 0 = b at *
      unfold goes at hg
      rw [Bool.or_eq_false_iff] at hg
      have HL : Hid (∀ V, Calls Tryd.prog 33 #[.int .u8 (S[k].toNat : Int)] V fun e w' => e = .returned (.bool false) ∧ V = w') := Lib.hid fun V => by rw [HB.out]; exact rletter_at b false V hg.1
      have hk0 : ((k : Int) == 0) = false := beq_eq_false_iff_ne.mpr (by omega)
      have hd : dgt b.toNat = false := by
        have := hg.2
        rw [Bool.and_eq_false_iff] at this
        rcases this with h | h
        · rw [decide_eq_false_iff_not] at h; exact absurd hm0 h
        · exact h
      unfold dgt at hd
      rw [decide_eq_false_iff_not] at hd
      clear hg
      by_cases h48 : b.toNat < 48
      · have hd3 : (S[k].toNat : Int) < 48 := by rw [HB.out]; omega
        go_wp2_with (first | (go_at_call 33; refine (HL.out _).mono ?_; clear HL; rintro e V ⟨rfl, rfl⟩) | fail)
        go_ret
        exact ⟨rfl, rfl⟩
      · have hd3 : ¬ (S[k].toNat : Int) < 48 := by rw [HB.out]; omega
        have hd4 : (57 : Int) < (S[k].toNat : Int) := by rw [HB.out]; omega
        go_wp2_with (first | (go_at_call 33; refine (HL.out _).mono ?_; clear HL; rintro e V ⟨rfl, rfl⟩) | fail)
        go_ret
        exact ⟨rfl, rfl⟩
set_option maxHeartbeats 1600000 in
theorem rkey_zero (l : List UInt8) (hn : 0 < l.length) (hb : goes 0 (l.getD 0 0) = false) (w : World) :
    Calls Tryd.prog 20 #[.string (bs l)] w fun e w' => e = .returned (.bool false) ∧ w = w' := by
  have hz : 0 < (bs l).size := hn
  have HB : Hid ((bs l)[0] = l.getD 0 0) := Lib.hid (at_list hz)
  have hsz : (bs l).size = l.length := rfl
  obtain ⟨n, hne⟩ : ∃ n, l.length = n := ⟨_, rfl⟩
  rw [hne] at hsz hn
  unfold goes at hb
  rw [Bool.or_eq_false_iff] at hb
  have HL : Hid (∀ V, Calls Tryd.prog 33 #[.int .u8 ((bs l)[0].toNat : Int)] V fun e w' => e = .returned (.bool false) ∧ V = w') := Lib.hid fun V => by rw [HB.out]; exact rletter_at _ false V hb.1
  clear hb HB hne
  generalize bs l = S at *
  go_enter Tryd.func20, Tryd.ntmps20
  go_wp2
  go_loop [3] (fun i => i = .int .i64 0) (fun _ => 0)
  case atStart => rfl
  case round =>
    obtain rfl := hrel
    go_wp2_with (first | (go_at_call 33; refine (HL.out _).mono ?_; clear HL; rintro e V ⟨rfl, rfl⟩) | fail)
    go_ret
    exact ⟨rfl, rfl⟩
theorem rkey_any (l : List UInt8) (hl : l.length ≤ 9223372036854775807) (w : World) :
    Calls Tryd.prog 20 #[.string (bs l)] w fun e w' => e = .returned (.bool (keyB l)) ∧ w = w' := by
  unfold keyB
  rcases range_all (fun i => goes i (l.getD i 0)) l.length with ⟨h, h2⟩ | ⟨h, m, hm, h2, h3⟩
  · rw [h, Bool.true_and]; exact rkey_yes l hl h2 w
  · rw [h, Bool.false_and]
    by_cases hm0 : m = 0
    · subst hm0; exact rkey_zero l hm h3 w
    · exact rkey_no l hl m hm0 hm h2 h3 w
theorem rem_cons {c : UInt8} {r : List UInt8} : (Lib.hasPrefix (c :: r) [35] || Lib.hasPrefix (c :: r) [59]) = (c == 35 || c == 59) := by
  unfold Lib.hasPrefix
  simp only [List.isPrefixOf, Bool.and_true]
  rw [Bool.beq_comm (a := 35), Bool.beq_comm (a := 59)]
set_option maxHeartbeats 1600000 in
theorem rcomment_any (l : List UInt8) (hl : l.length ≤ 9223372036854775807) (w : World) : Calls Tryd.prog 18 #[.string (bs l)] w fun e w' => e = .returned (.bool (remB l)) ∧ w = w' := by
  have HT := Lib.hid (rtrim_any l hl)
  clear hl
  unfold remB
  generalize bs l = S at *
  cases hx : trimL l with
  | nil =>
    rw [hx] at HT
    go_enter Tryd.func18, Tryd.ntmps18
    go_wp2_with (first | (go_at_call 17; refine (HT.out _).mono ?_; clear HT; rintro e V ⟨rfl, rfl⟩) | fail)
    go_ret
    exact ⟨rfl, rfl⟩
  | cons c r =>
    rw [hx] at HT
    have hz : 0 < (bs (c :: r)).size := by rw [bs_size, List.length_cons]; omega
    have HB : (bs (c :: r))[0] = c := rfl
    have hem : (bs (c :: r)).toList.isEmpty = false := bs_empty _
    rw [rem_cons]
    have e1 := u8_is c 35 (by decide)
    have e2 := u8_is c 59 (by decide)
    have e1 : ((c.toNat : Int) == 35) = (c == 35) := e1
    have e2 : ((c.toNat : Int) == 59) = (c == 59) := e2
    generalize (c == 35) = q1 at *
    generalize (c == 59) = q2 at *
    generalize bs (c :: r) = X at *
    cases q1 with
    | true =>
      go_enter Tryd.func18, Tryd.ntmps18
      go_wp2_with (first | (go_at_call 17; refine (HT.out _).mono ?_; clear HT; rintro e V ⟨rfl, rfl⟩) | fail)
      go_ret
      exact ⟨rfl, rfl⟩
    | false =>
      go_enter Tryd.func18, Tryd.ntmps18
      go_wp2_with (first | (go_at_call 17; refine (HT.out _).mono ?_; clear HT; rintro e V ⟨rfl, rfl⟩) | fail)
      go_ret
      exact ⟨rfl, rfl⟩
end Go.Proofs.YtokeepmlibolfaaDoor.Ln
