/-
  Layer 7 (footer): the document's own names: which is one.
-/
import Derived.Test.YtkfhipkcnocokaaDoorFoRef2
namespace Go.Proofs.YtkfhipkcnocokaaDoor.Fo
open Go.RowKit
set_option maxRecDepth 100000

set_option maxHeartbeats 1600000 in
theorem rname_yes (s : ByteArray) (hs : s.size ≤ 1000) (c : Bool) (w : World) (h : s.data.toList.all (fun b => mrk b.toNat) = true) (hc : (decide ((3 : Int) ≤ (s.size : Int)) && decide ((s.size : Int) ≤ 10)) = c) :
    Calls Tryd.prog 25 #[.string s] w fun e w' => e = .returned (.bool c) ∧ w = w' := by
  have Y := Lib.hid (all_at h)
  clear h
  go_enter Tryd.func25, Tryd.ntmps25
  go_wp2
  go_loop [3] (fun i => ∃ k : Nat, k ≤ s.size ∧ i = .int .i64 k) (fun i => s.size - (intOf i).toNat)
  case atStart => exact ⟨0, Nat.zero_le _, rfl⟩
  case round =>
    obtain ⟨k, hk, rfl⟩ := hrel
    by_cases hks : k < s.size
    · have HC := Lib.hid hc
      clear hc
      cases hl : ltr s[k].toNat with
      | true =>
        have DL := Lib.hid hl
        clear hl
        go_wp2_with (first | (go_at_call 53; refine (rletter _ _ _ DL.out).mono ?_; rintro e w' ⟨rfl, rfl⟩) | fail)
        go_round
        case rel => exact ⟨k + 1, by omega, by go_num⟩
        case measure => simp [intOf]; omega
      | false =>
        cases hd : dgt s[k].toNat with
        | true =>
          have DL := Lib.hid hl
          have DD := Lib.hid hd
          clear hl hd
          go_wp2_with (first | (go_at_call 53; refine (rletter _ _ _ DL.out).mono ?_; rintro e w' ⟨rfl, rfl⟩) | (go_at_call 54; refine (rdigit _ _ _ DD.out).mono ?_; rintro e w' ⟨rfl, rfl⟩) | fail)
          go_round
          case rel => exact ⟨k + 1, by omega, by go_num⟩
          case measure => simp [intOf]; omega
        | false =>
          have hm := Y.out k hks
          unfold mrk at hm
          rw [hl, hd, Bool.false_or, Bool.false_or] at hm
          have DL := Lib.hid hl
          have DD := Lib.hid hd
          clear hl hd
          by_cases h43 : s[k].toNat = 43
          · have n43 : ((s[k].toNat : Int) != 43) = false := by rw [h43]; rfl
            clear hm h43
            go_wp2_with (first | (go_at_call 53; refine (rletter _ _ _ DL.out).mono ?_; rintro e w' ⟨rfl, rfl⟩) | (go_at_call 54; refine (rdigit _ _ _ DD.out).mono ?_; rintro e w' ⟨rfl, rfl⟩) | fail)
            go_round
            case rel => exact ⟨k + 1, by omega, by go_num⟩
            case measure => simp [intOf]; omega
          · have n43 : ((s[k].toNat : Int) != 43) = true := bne_iff_ne.mpr (by omega)
            have h45 : s[k].toNat = 45 := by simpa [h43] using hm
            have n45 : ((s[k].toNat : Int) != 45) = false := by rw [h45]; rfl
            clear hm h43 h45
            go_wp2_with (first | (go_at_call 53; refine (rletter _ _ _ DL.out).mono ?_; rintro e w' ⟨rfl, rfl⟩) | (go_at_call 54; refine (rdigit _ _ _ DD.out).mono ?_; rintro e w' ⟨rfl, rfl⟩) | fail)
            go_round
            case rel => exact ⟨k + 1, by omega, by go_num⟩
            case measure => simp [intOf]; omega
    · subst hc
      cases h3 : decide ((3 : Int) ≤ (s.size : Int)) with
      | true =>
        go_wp2
        go_ret
        exact ⟨rfl, rfl⟩
      | false =>
        go_wp2
        go_ret
        exact ⟨rfl, rfl⟩
set_option maxHeartbeats 1600000 in
theorem rname_no (s : ByteArray) (hs : s.size ≤ 1000) (w : World) (h : s.data.toList.all (fun b => mrk b.toNat) = false) :
    Calls Tryd.prog 25 #[.string s] w fun e w' => e = .returned (.bool false) ∧ w = w' := by
  obtain ⟨m, hm, y, n⟩ := first_bad h
  have Y := Lib.hid y
  unfold mrk at n
  simp only [Bool.or_eq_false_iff, decide_eq_false_iff_not] at n
  have NL := Lib.hid n.1
  have ND := Lib.hid n.2.1
  have N43 : Hid (((s[m].toNat : Int) != 43) = true) := Lib.hid (bne_iff_ne.mpr (by have := n.2.2.1; omega))
  have N45 : Hid (((s[m].toNat : Int) != 45) = true) := Lib.hid (bne_iff_ne.mpr (by have := n.2.2.2; omega))
  clear h y n
  go_enter Tryd.func25, Tryd.ntmps25
  go_wp2
  go_loop [3] (fun i => ∃ k : Nat, k ≤ m ∧ i = .int .i64 k) (fun i => s.size - (intOf i).toNat)
  case atStart => exact ⟨0, Nat.zero_le _, rfl⟩
  case round =>
    obtain ⟨k, hk, rfl⟩ := hrel
    have hks : k < s.size := by omega
    by_cases hkm : k < m
    · skip
      cases hl : ltr s[k].toNat with
      | true =>
        have DL := Lib.hid hl
        clear hl
        go_wp2_with (first | (go_at_call 53; refine (rletter _ _ _ DL.out).mono ?_; rintro e w' ⟨rfl, rfl⟩) | fail)
        go_round
        case rel => exact ⟨k + 1, by omega, by go_num⟩
        case measure => simp [intOf]; omega
      | false =>
        cases hd : dgt s[k].toNat with
        | true =>
          have DL := Lib.hid hl
          have DD := Lib.hid hd
          clear hl hd
          go_wp2_with (first | (go_at_call 53; refine (rletter _ _ _ DL.out).mono ?_; rintro e w' ⟨rfl, rfl⟩) | (go_at_call 54; refine (rdigit _ _ _ DD.out).mono ?_; rintro e w' ⟨rfl, rfl⟩) | fail)
          go_round
          case rel => exact ⟨k + 1, by omega, by go_num⟩
          case measure => simp [intOf]; omega
        | false =>
          have hm := Y.out k hks hkm
          unfold mrk at hm
          rw [hl, hd, Bool.false_or, Bool.false_or] at hm
          have DL := Lib.hid hl
          have DD := Lib.hid hd
          clear hl hd
          by_cases h43 : s[k].toNat = 43
          · have n43 : ((s[k].toNat : Int) != 43) = false := by rw [h43]; rfl
            clear hm h43
            go_wp2_with (first | (go_at_call 53; refine (rletter _ _ _ DL.out).mono ?_; rintro e w' ⟨rfl, rfl⟩) | (go_at_call 54; refine (rdigit _ _ _ DD.out).mono ?_; rintro e w' ⟨rfl, rfl⟩) | fail)
            go_round
            case rel => exact ⟨k + 1, by omega, by go_num⟩
            case measure => simp [intOf]; omega
          · have n43 : ((s[k].toNat : Int) != 43) = true := bne_iff_ne.mpr (by omega)
            have h45 : s[k].toNat = 45 := by simpa [h43] using hm
            have n45 : ((s[k].toNat : Int) != 45) = false := by rw [h45]; rfl
            clear hm h43 h45
            go_wp2_with (first | (go_at_call 53; refine (rletter _ _ _ DL.out).mono ?_; rintro e w' ⟨rfl, rfl⟩) | (go_at_call 54; refine (rdigit _ _ _ DD.out).mono ?_; rintro e w' ⟨rfl, rfl⟩) | fail)
            go_round
            case rel => exact ⟨k + 1, by omega, by go_num⟩
            case measure => simp [intOf]; omega
    · obtain rfl : k = m := by omega
      have n43 := N43.out
      have n45 := N45.out
      go_wp2_with (first | (go_at_call 53; refine (rletter _ _ _ NL.out).mono ?_; rintro e w' ⟨rfl, rfl⟩) | (go_at_call 54; refine (rdigit _ _ _ ND.out).mono ?_; rintro e w' ⟨rfl, rfl⟩) | fail)
      go_ret
      exact ⟨rfl, rfl⟩
theorem rname_any (s : ByteArray) (hs : s.size ≤ 1000) (w : World) :
    Calls Tryd.prog 25 #[.string s] w fun e w' => e = .returned (.bool (nameB s.data.toList)) ∧ w = w' := by
  unfold nameB inB
  rw [show (s.data.toList.length : Int) = (s.size : Int) by rw [Array.length_toList]; rfl]
  cases h : s.data.toList.all (fun b => mrk b.toNat) with
  | true => exact rname_yes s hs _ w h (by rw [Bool.and_true])
  | false => rw [Bool.and_false]; exact rname_no s hs w h
end Go.Proofs.YtkfhipkcnocokaaDoor.Fo
