/-
  Layer 7 (footer): the document's own right rules, of names of any length that there may be.
-/
import Derived.Test.YtkfhipkcnocokaaDoorFoRef2
import Derived.Test.YtkfhipkcnocokaaDoorFoRef7
import Derived.Test.YtkfhipkcnocokaaDoorFoWhole
namespace Go.Proofs.YtkfhipkcnocokaaDoor.Fo
open Go.RowKit
set_option maxRecDepth 100000

set_option maxHeartbeats 1600000 in
theorem bname_yes (s : ByteArray) (hs : s.size ≤ 9223372036854775807) (c : Bool) (w : World) (h : s.data.toList.all (fun b => mrk b.toNat) = true) (hc : (decide ((3 : Int) ≤ (s.size : Int)) && decide ((s.size : Int) ≤ 10)) = c) :
    Calls Tryd.prog 25 #[.string s] w fun e w' => e = .returned (.bool c) ∧ w = w' := by
  have Y := Lib.hid (all_at h)
  clear h
  go_enter Tryd.func25, Tryd.ntmps25
  go_wp2
  go_loop [3] (fun i => ∃ k : Nat, k ≤ s.size ∧ i = .int .i64 k) (fun i => s.size - (intOf i).toNat)
  case atStart => exact ⟨0, Nat.zero_le _, rfl⟩
  case round =>
    obtain ⟨k, hk, rfl⟩ := hrel
    by_cases hks : k < s.size
    · have HC := Lib.hid hc
      clear hc
      cases hl : ltr s[k].toNat with
      | true =>
        have DL := Lib.hid hl
        clear hl
        go_wp2_with (first | (go_at_call 53; refine (rletter _ _ _ DL.out).mono ?_; rintro e w' ⟨rfl, rfl⟩) | fail)
        go_round
        case rel => exact ⟨k + 1, by omega, by go_num⟩
        case measure => simp [intOf]; omega
      | false =>
        cases hd : dgt s[k].toNat with
        | true =>
          have DL := Lib.hid hl
          have DD := Lib.hid hd
          clear hl hd
          go_wp2_with (first | (go_at_call 53; refine (rletter _ _ _ DL.out).mono ?_; rintro e w' ⟨rfl, rfl⟩) | (go_at_call 54; refine (rdigit _ _ _ DD.out).mono ?_; rintro e w' ⟨rfl, rfl⟩) | fail)
          go_round
          case rel => exact ⟨k + 1, by omega, by go_num⟩
          case measure => simp [intOf]; omega
        | false =>
          have hm := Y.out k hks
          unfold mrk at hm
          rw [hl, hd, Bool.false_or, Bool.false_or] at hm
          have DL := Lib.hid hl
          have DD := Lib.hid hd
          clear hl hd
          by_cases h43 : s[k].toNat = 43
          · have n43 : ((s[k].toNat : Int) != 43) = false := by rw [h43]; rfl
            clear hm h43
            go_wp2_with (first | (go_at_call 53; refine (rletter _ _ _ DL.out).mono ?_; rintro e w' ⟨rfl, rfl⟩) | (go_at_call 54; refine (rdigit _ _ _ DD.out).mono ?_; rintro e w' ⟨rfl, rfl⟩) | fail)
            go_round
            case rel => exact ⟨k + 1, by omega, by go_num⟩
            case measure => simp [intOf]; omega
          · have n43 : ((s[k].toNat : Int) != 43) = true := bne_iff_ne.mpr (by omega)
            have h45 : s[k].toNat = 45 := by simpa [h43] using hm
            have n45 : ((s[k].toNat : Int) != 45) = false := by rw [h45]; rfl
            clear hm h43 h45
            go_wp2_with (first | (go_at_call 53; refine (rletter _ _ _ DL.out).mono ?_; rintro e w' ⟨rfl, rfl⟩) | (go_at_call 54; refine (rdigit _ _ _ DD.out).mono ?_; rintro e w' ⟨rfl, rfl⟩) | fail)
            go_round
            case rel => exact ⟨k + 1, by omega, by go_num⟩
            case measure => simp [intOf]; omega
    · subst hc
      cases h3 : decide ((3 : Int) ≤ (s.size : Int)) with
      | true =>
        go_wp2
        go_ret
        exact ⟨rfl, rfl⟩
      | false =>
        go_wp2
        go_ret
        exact ⟨rfl, rfl⟩
set_option maxHeartbeats 1600000 in
theorem bname_no (s : ByteArray) (hs : s.size ≤ 9223372036854775807) (w : World) (h : s.data.toList.all (fun b => mrk b.toNat) = false) :
    Calls Tryd.prog 25 #[.string s] w fun e w' => e = .returned (.bool false) ∧ w = w' := by
  obtain ⟨m, hm, y, n⟩ := first_bad h
  have Y := Lib.hid y
  unfold mrk at n
  simp only [Bool.or_eq_false_iff, decide_eq_false_iff_not] at n
  have NL := Lib.hid n.1
  have ND := Lib.hid n.2.1
  have N43 : Hid (((s[m].toNat : Int) != 43) = true) := Lib.hid (bne_iff_ne.mpr (by have := n.2.2.1; omega))
  have N45 : Hid (((s[m].toNat : Int) != 45) = true) := Lib.hid (bne_iff_ne.mpr (by have := n.2.2.2; omega))
  clear h y n
  go_enter Tryd.func25, Tryd.ntmps25
  go_wp2
  go_loop [3] (fun i => ∃ k : Nat, k ≤ m ∧ i = .int .i64 k) (fun i => s.size - (intOf i).toNat)
  case atStart => exact ⟨0, Nat.zero_le _, rfl⟩
  case round =>
    obtain ⟨k, hk, rfl⟩ := hrel
    have hks : k < s.size := by omega
    by_cases hkm : k < m
    · skip
      cases hl : ltr s[k].toNat with
      | true =>
        have DL := Lib.hid hl
        clear hl
        go_wp2_with (first | (go_at_call 53; refine (rletter _ _ _ DL.out).mono ?_; rintro e w' ⟨rfl, rfl⟩) | fail)
        go_round
        case rel => exact ⟨k + 1, by omega, by go_num⟩
        case measure => simp [intOf]; omega
      | false =>
        cases hd : dgt s[k].toNat with
        | true =>
          have DL := Lib.hid hl
          have DD := Lib.hid hd
          clear hl hd
          go_wp2_with (first | (go_at_call 53; refine (rletter _ _ _ DL.out).mono ?_; rintro e w' ⟨rfl, rfl⟩) | (go_at_call 54; refine (rdigit _ _ _ DD.out).mono ?_; rintro e w' ⟨rfl, rfl⟩) | fail)
          go_round
          case rel => exact ⟨k + 1, by omega, by go_num⟩
          case measure => simp [intOf]; omega
        | false =>
          have hm := Y.out k hks hkm
          unfold mrk at hm
          rw [hl, hd, Bool.false_or, Bool.false_or] at hm
          have DL := Lib.hid hl
          have DD := Lib.hid hd
          clear hl hd
          by_cases h43 : s[k].toNat = 43
          · have n43 : ((s[k].toNat : Int) != 43) = false := by rw [h43]; rfl
            clear hm h43
            go_wp2_with (first | (go_at_call 53; refine (rletter _ _ _ DL.out).mono ?_; rintro e w' ⟨rfl, rfl⟩) | (go_at_call 54; refine (rdigit _ _ _ DD.out).mono ?_; rintro e w' ⟨rfl, rfl⟩) | fail)
            go_round
            case rel => exact ⟨k + 1, by omega, by go_num⟩
            case measure => simp [intOf]; omega
          · have n43 : ((s[k].toNat : Int) != 43) = true := bne_iff_ne.mpr (by omega)
            have h45 : s[k].toNat = 45 := by simpa [h43] using hm
            have n45 : ((s[k].toNat : Int) != 45) = false := by rw [h45]; rfl
            clear hm h43 h45
            go_wp2_with (first | (go_at_call 53; refine (rletter _ _ _ DL.out).mono ?_; rintro e w' ⟨rfl, rfl⟩) | (go_at_call 54; refine (rdigit _ _ _ DD.out).mono ?_; rintro e w' ⟨rfl, rfl⟩) | fail)
            go_round
            case rel => exact ⟨k + 1, by omega, by go_num⟩
            case measure => simp [intOf]; omega
    · obtain rfl : k = m := by omega
      have n43 := N43.out
      have n45 := N45.out
      go_wp2_with (first | (go_at_call 53; refine (rletter _ _ _ NL.out).mono ?_; rintro e w' ⟨rfl, rfl⟩) | (go_at_call 54; refine (rdigit _ _ _ ND.out).mono ?_; rintro e w' ⟨rfl, rfl⟩) | fail)
      go_ret
      exact ⟨rfl, rfl⟩
theorem bname_any (s : ByteArray) (hs : s.size ≤ 9223372036854775807) (w : World) :
    Calls Tryd.prog 25 #[.string s] w fun e w' => e = .returned (.bool (nameB s.data.toList)) ∧ w = w' := by
  unfold nameB inB
  rw [show (s.data.toList.length : Int) = (s.size : Int) by rw [Array.length_toList]; rfl]
  cases h : s.data.toList.all (fun b => mrk b.toNat) with
  | true => exact bname_yes s hs _ w h (by rw [Bool.and_true])
  | false => rw [Bool.and_false]; exact bname_no s hs w h
set_option maxRecDepth 100000 in
set_option maxHeartbeats 800000 in
theorem bright_a (r : Rl) (w : World) (z1 : r.std.size ≤ 9223372036854775807) (_ : r.dst.size ≤ 9223372036854775807) (h0 : nameB r.std.data.toList = false) : Calls Tryd.prog 12 #[rlV r] w fun e w' => e = .returned (.bool false) ∧ Below w.heap.size w w' := by
  have H0 : Hid (∀ V, Wk w V r → Calls Tryd.prog 25 #[.string r.std] V fun e w' => e = .returned (.bool false) ∧ Wk w w' r) := Lib.hid fun V hV => by have := bname_any r.std (by omega) V; rw [h0] at this; exact this.mono fun _ _ ⟨he, hb⟩ => ⟨he, hb ▸ hV⟩
  have K0 := Lib.hid (Wk.start w r 29)
  have q0 := K0.out.r.c0
  clear z1 h0
  obtain ⟨std, dst, off, dstOff, ⟨k1, m1, e1, d1, t1⟩, ⟨k2, m2, e2, d2, t2⟩⟩ := r
  simp only at *
  go_enter Tryd.func12, Tryd.ntmps12
  go_wp2_with (first
    | (go_at_call 25; refine (H0.out _ K0.out).mono ?_; clear H0 q0; rintro e V0 ⟨rfl, hk⟩; have K1 := Lib.hid hk; clear hk)
    | fail)
  go_ret
  exact ⟨rfl, K1.out.b⟩
set_option maxRecDepth 100000 in
set_option maxHeartbeats 800000 in
theorem bright_b (r : Rl) (w : World) (z1 : r.std.size ≤ 9223372036854775807) (_ : r.dst.size ≤ 9223372036854775807) (h0 : nameB r.std.data.toList = true) (h1 : offB r.off = false) : Calls Tryd.prog 12 #[rlV r] w fun e w' => e = .returned (.bool false) ∧ Below w.heap.size w w' := by
  have H0 : Hid (∀ V, Wk w V r → Calls Tryd.prog 25 #[.string r.std] V fun e w' => e = .returned (.bool true) ∧ Wk w w' r) := Lib.hid fun V hV => by have := bname_any r.std (by omega) V; rw [h0] at this; exact this.mono fun _ _ ⟨he, hb⟩ => ⟨he, hb ▸ hV⟩
  have H1 : Hid (∀ V, Wk w V r → Calls Tryd.prog 26 #[.int .i64 r.off] V fun e w' => e = .returned (.bool false) ∧ Wk w w' r) := Lib.hid fun V hV => by have := roff_any r.off V; rw [h1] at this; exact this.mono fun _ _ ⟨he, hb⟩ => ⟨he, hb ▸ hV⟩
  have K0 := Lib.hid (Wk.start w r 29)
  have q0 := K0.out.r.c0
  clear z1 h0 h1
  obtain ⟨std, dst, off, dstOff, ⟨k1, m1, e1, d1, t1⟩, ⟨k2, m2, e2, d2, t2⟩⟩ := r
  simp only at *
  go_enter Tryd.func12, Tryd.ntmps12
  go_wp2_with (first
    | (go_at_call 25; refine (H0.out _ K0.out).mono ?_; clear H0 q0; rintro e V0 ⟨rfl, hk⟩; have K1 := Lib.hid hk; clear hk; have q2 := K1.out.r.c2)
    | (go_at_call 26; refine (H1.out _ K1.out).mono ?_; clear H1 q2; rintro e V1 ⟨rfl, hk⟩; have K2 := Lib.hid hk; clear hk)
    | fail)
  go_ret
  exact ⟨rfl, K2.out.b⟩
set_option maxRecDepth 100000 in
set_option maxHeartbeats 800000 in
theorem bright_d1 (r : Rl) (w : World) (z1 : r.std.size ≤ 9223372036854775807) (z2 : r.dst.size ≤ 9223372036854775807) (h0 : nameB r.std.data.toList = true) (h1 : offB r.off = true) (h2 : nameB r.dst.data.toList = false) (hs : r.dst.toList.isEmpty = false) : Calls Tryd.prog 12 #[rlV r] w fun e w' => e = .returned (.bool false) ∧ Below w.heap.size w w' := by
  have H0 : Hid (∀ V, Wk w V r → Calls Tryd.prog 25 #[.string r.std] V fun e w' => e = .returned (.bool true) ∧ Wk w w' r) := Lib.hid fun V hV => by have := bname_any r.std (by omega) V; rw [h0] at this; exact this.mono fun _ _ ⟨he, hb⟩ => ⟨he, hb ▸ hV⟩
  have H1 : Hid (∀ V, Wk w V r → Calls Tryd.prog 26 #[.int .i64 r.off] V fun e w' => e = .returned (.bool true) ∧ Wk w w' r) := Lib.hid fun V hV => by have := roff_any r.off V; rw [h1] at this; exact this.mono fun _ _ ⟨he, hb⟩ => ⟨he, hb ▸ hV⟩
  have H2 : Hid (∀ V, Wk w V r → Calls Tryd.prog 25 #[.string r.dst] V fun e w' => e = .returned (.bool false) ∧ Wk w w' r) := Lib.hid fun V hV => by have := bname_any r.dst (by omega) V; rw [h2] at this; exact this.mono fun _ _ ⟨he, hb⟩ => ⟨he, hb ▸ hV⟩
  have K0 := Lib.hid (Wk.start w r 29)
  have q0 := K0.out.r.c0
  clear z1 z2 h0 h1 h2
  obtain ⟨std, dst, off, dstOff, ⟨k1, m1, e1, d1, t1⟩, ⟨k2, m2, e2, d2, t2⟩⟩ := r
  simp only at *
  go_enter Tryd.func12, Tryd.ntmps12
  go_wp2_with (first
    | (go_at_call 25; refine (H0.out _ K0.out).mono ?_; clear H0 q0; rintro e V0 ⟨rfl, hk⟩; have K1 := Lib.hid hk; clear hk; have q2 := K1.out.r.c2)
    | (go_at_call 26; refine (H1.out _ K1.out).mono ?_; clear H1 q2; rintro e V1 ⟨rfl, hk⟩; have K2 := Lib.hid hk; clear hk; have q1 := K2.out.r.c1)
    | (go_at_call 25; refine (H2.out _ K2.out).mono ?_; clear H2 q1; rintro e V2 ⟨rfl, hk⟩; have K3 := Lib.hid hk; clear hk)
    | fail)
  go_ret
  exact ⟨rfl, K3.out.b⟩
set_option maxRecDepth 100000 in
set_option maxHeartbeats 800000 in
theorem bright_d2 (r : Rl) (w : World) (z1 : r.std.size ≤ 9223372036854775807) (z2 : r.dst.size ≤ 9223372036854775807) (h0 : nameB r.std.data.toList = true) (h1 : offB r.off = true) (h2 : nameB r.dst.data.toList = true) (h3 : offB r.dstOff = false) (hs : r.dst.toList.isEmpty = false) : Calls Tryd.prog 12 #[rlV r] w fun e w' => e = .returned (.bool false) ∧ Below w.heap.size w w' := by
  have H0 : Hid (∀ V, Wk w V r → Calls Tryd.prog 25 #[.string r.std] V fun e w' => e = .returned (.bool true) ∧ Wk w w' r) := Lib.hid fun V hV => by have := bname_any r.std (by omega) V; rw [h0] at this; exact this.mono fun _ _ ⟨he, hb⟩ => ⟨he, hb ▸ hV⟩
  have H1 : Hid (∀ V, Wk w V r → Calls Tryd.prog 26 #[.int .i64 r.off] V fun e w' => e = .returned (.bool true) ∧ Wk w w' r) := Lib.hid fun V hV => by have := roff_any r.off V; rw [h1] at this; exact this.mono fun _ _ ⟨he, hb⟩ => ⟨he, hb ▸ hV⟩
  have H2 : Hid (∀ V, Wk w V r → Calls Tryd.prog 25 #[.string r.dst] V fun e w' => e = .returned (.bool true) ∧ Wk w w' r) := Lib.hid fun V hV => by have := bname_any r.dst (by omega) V; rw [h2] at this; exact this.mono fun _ _ ⟨he, hb⟩ => ⟨he, hb ▸ hV⟩
  have H3 : Hid (∀ V, Wk w V r → Calls Tryd.prog 26 #[.int .i64 r.dstOff] V fun e w' => e = .returned (.bool false) ∧ Wk w w' r) := Lib.hid fun V hV => by have := roff_any r.dstOff V; rw [h3] at this; exact this.mono fun _ _ ⟨he, hb⟩ => ⟨he, hb ▸ hV⟩
  have K0 := Lib.hid (Wk.start w r 29)
  have q0 := K0.out.r.c0
  clear z1 z2 h0 h1 h2 h3
  obtain ⟨std, dst, off, dstOff, ⟨k1, m1, e1, d1, t1⟩, ⟨k2, m2, e2, d2, t2⟩⟩ := r
  simp only at *
  go_enter Tryd.func12, Tryd.ntmps12
  go_wp2_with (first
    | (go_at_call 25; refine (H0.out _ K0.out).mono ?_; clear H0 q0; rintro e V0 ⟨rfl, hk⟩; have K1 := Lib.hid hk; clear hk; have q2 := K1.out.r.c2)
    | (go_at_call 26; refine (H1.out _ K1.out).mono ?_; clear H1 q2; rintro e V1 ⟨rfl, hk⟩; have K2 := Lib.hid hk; clear hk; have q1 := K2.out.r.c1)
    | (go_at_call 25; refine (H2.out _ K2.out).mono ?_; clear H2 q1; rintro e V2 ⟨rfl, hk⟩; have K3 := Lib.hid hk; clear hk; have q3 := K3.out.r.c3)
    | (go_at_call 26; refine (H3.out _ K3.out).mono ?_; clear H3 q3; rintro e V3 ⟨rfl, hk⟩; have K4 := Lib.hid hk; clear hk)
    | fail)
  go_ret
  exact ⟨rfl, K4.out.b⟩
set_option maxRecDepth 100000 in
set_option maxHeartbeats 800000 in
theorem bright_d3 (r : Rl) (w : World) (z1 : r.std.size ≤ 9223372036854775807) (z2 : r.dst.size ≤ 9223372036854775807) (h0 : nameB r.std.data.toList = true) (h1 : offB r.off = true) (h2 : nameB r.dst.data.toList = true) (h3 : offB r.dstOff = true) (h4 : dayB r.start = false) (hs : r.dst.toList.isEmpty = false) : Calls Tryd.prog 12 #[rlV r] w fun e w' => e = .returned (.bool false) ∧ Below w.heap.size w w' := by
  have H0 : Hid (∀ V, Wk w V r → Calls Tryd.prog 25 #[.string r.std] V fun e w' => e = .returned (.bool true) ∧ Wk w w' r) := Lib.hid fun V hV => by have := bname_any r.std (by omega) V; rw [h0] at this; exact this.mono fun _ _ ⟨he, hb⟩ => ⟨he, hb ▸ hV⟩
  have H1 : Hid (∀ V, Wk w V r → Calls Tryd.prog 26 #[.int .i64 r.off] V fun e w' => e = .returned (.bool true) ∧ Wk w w' r) := Lib.hid fun V hV => by have := roff_any r.off V; rw [h1] at this; exact this.mono fun _ _ ⟨he, hb⟩ => ⟨he, hb ▸ hV⟩
  have H2 : Hid (∀ V, Wk w V r → Calls Tryd.prog 25 #[.string r.dst] V fun e w' => e = .returned (.bool true) ∧ Wk w w' r) := Lib.hid fun V hV => by have := bname_any r.dst (by omega) V; rw [h2] at this; exact this.mono fun _ _ ⟨he, hb⟩ => ⟨he, hb ▸ hV⟩
  have H3 : Hid (∀ V, Wk w V r → Calls Tryd.prog 26 #[.int .i64 r.dstOff] V fun e w' => e = .returned (.bool true) ∧ Wk w w' r) := Lib.hid fun V hV => by have := roff_any r.dstOff V; rw [h3] at this; exact this.mono fun _ _ ⟨he, hb⟩ => ⟨he, hb ▸ hV⟩
  have H4 : Hid (∀ V, Wk w V r → Calls Tryd.prog 27 #[dyV r.start] V fun e w' => e = .returned (.bool false) ∧ Wk w w' r) := Lib.hid fun V hV => by have := rday_any r.start V; rw [h4] at this; exact this.mono fun _ _ ⟨he, hb⟩ => ⟨he, hV.step hb⟩
  have K0 := Lib.hid (Wk.start w r 29)
  have q0 := K0.out.r.c0
  clear z1 z2 h0 h1 h2 h3 h4
  obtain ⟨std, dst, off, dstOff, ⟨k1, m1, e1, d1, t1⟩, ⟨k2, m2, e2, d2, t2⟩⟩ := r
  simp only at *
  go_enter Tryd.func12, Tryd.ntmps12
  go_wp2_with (first
    | (go_at_call 25; refine (H0.out _ K0.out).mono ?_; clear H0 q0; rintro e V0 ⟨rfl, hk⟩; have K1 := Lib.hid hk; clear hk; have q2 := K1.out.r.c2)
    | (go_at_call 26; refine (H1.out _ K1.out).mono ?_; clear H1 q2; rintro e V1 ⟨rfl, hk⟩; have K2 := Lib.hid hk; clear hk; have q1 := K2.out.r.c1)
    | (go_at_call 25; refine (H2.out _ K2.out).mono ?_; clear H2 q1; rintro e V2 ⟨rfl, hk⟩; have K3 := Lib.hid hk; clear hk; have q3 := K3.out.r.c3)
    | (go_at_call 26; refine (H3.out _ K3.out).mono ?_; clear H3 q3; rintro e V3 ⟨rfl, hk⟩; have K4 := Lib.hid hk; clear hk; have q4 := K4.out.r.c4; have q5 := K4.out.r.c5; have q6 := K4.out.r.c6; have q7 := K4.out.r.c7; have q8 := K4.out.r.c8)
    | (go_at_call 27; refine (H4.out _ K4.out).mono ?_; clear H4 q4 q5 q6 q7 q8; rintro e V4 ⟨rfl, hk⟩; have K5 := Lib.hid hk; clear hk)
    | fail)
  go_ret
  exact ⟨rfl, K5.out.b⟩
set_option maxRecDepth 100000 in
set_option maxHeartbeats 800000 in
theorem bright_d4 (r : Rl) (c : Bool) (w : World) (z1 : r.std.size ≤ 9223372036854775807) (z2 : r.dst.size ≤ 9223372036854775807) (h0 : nameB r.std.data.toList = true) (h1 : offB r.off = true) (h2 : nameB r.dst.data.toList = true) (h3 : offB r.dstOff = true) (h4 : dayB r.start = true) (h5 : dayB r.end_ = c) (hs : r.dst.toList.isEmpty = false) : Calls Tryd.prog 12 #[rlV r] w fun e w' => e = .returned (.bool c) ∧ Below w.heap.size w w' := by
  have H0 : Hid (∀ V, Wk w V r → Calls Tryd.prog 25 #[.string r.std] V fun e w' => e = .returned (.bool true) ∧ Wk w w' r) := Lib.hid fun V hV => by have := bname_any r.std (by omega) V; rw [h0] at this; exact this.mono fun _ _ ⟨he, hb⟩ => ⟨he, hb ▸ hV⟩
  have H1 : Hid (∀ V, Wk w V r → Calls Tryd.prog 26 #[.int .i64 r.off] V fun e w' => e = .returned (.bool true) ∧ Wk w w' r) := Lib.hid fun V hV => by have := roff_any r.off V; rw [h1] at this; exact this.mono fun _ _ ⟨he, hb⟩ => ⟨he, hb ▸ hV⟩
  have H2 : Hid (∀ V, Wk w V r → Calls Tryd.prog 25 #[.string r.dst] V fun e w' => e = .returned (.bool true) ∧ Wk w w' r) := Lib.hid fun V hV => by have := bname_any r.dst (by omega) V; rw [h2] at this; exact this.mono fun _ _ ⟨he, hb⟩ => ⟨he, hb ▸ hV⟩
  have H3 : Hid (∀ V, Wk w V r → Calls Tryd.prog 26 #[.int .i64 r.dstOff] V fun e w' => e = .returned (.bool true) ∧ Wk w w' r) := Lib.hid fun V hV => by have := roff_any r.dstOff V; rw [h3] at this; exact this.mono fun _ _ ⟨he, hb⟩ => ⟨he, hb ▸ hV⟩
  have H4 : Hid (∀ V, Wk w V r → Calls Tryd.prog 27 #[dyV r.start] V fun e w' => e = .returned (.bool true) ∧ Wk w w' r) := Lib.hid fun V hV => by have := rday_any r.start V; rw [h4] at this; exact this.mono fun _ _ ⟨he, hb⟩ => ⟨he, hV.step hb⟩
  have H5 : Hid (∀ V, Wk w V r → Calls Tryd.prog 27 #[dyV r.end_] V fun e w' => e = .returned (.bool c) ∧ Wk w w' r) := Lib.hid fun V hV => by have := rday_any r.end_ V; rw [h5] at this; exact this.mono fun _ _ ⟨he, hb⟩ => ⟨he, hV.step hb⟩
  have K0 := Lib.hid (Wk.start w r 29)
  have q0 := K0.out.r.c0
  clear z1 z2 h0 h1 h2 h3 h4 h5
  obtain ⟨std, dst, off, dstOff, ⟨k1, m1, e1, d1, t1⟩, ⟨k2, m2, e2, d2, t2⟩⟩ := r
  simp only at *
  go_enter Tryd.func12, Tryd.ntmps12
  go_wp2_with (first
    | (go_at_call 25; refine (H0.out _ K0.out).mono ?_; clear H0 q0; rintro e V0 ⟨rfl, hk⟩; have K1 := Lib.hid hk; clear hk; have q2 := K1.out.r.c2)
    | (go_at_call 26; refine (H1.out _ K1.out).mono ?_; clear H1 q2; rintro e V1 ⟨rfl, hk⟩; have K2 := Lib.hid hk; clear hk; have q1 := K2.out.r.c1)
    | (go_at_call 25; refine (H2.out _ K2.out).mono ?_; clear H2 q1; rintro e V2 ⟨rfl, hk⟩; have K3 := Lib.hid hk; clear hk; have q3 := K3.out.r.c3)
    | (go_at_call 26; refine (H3.out _ K3.out).mono ?_; clear H3 q3; rintro e V3 ⟨rfl, hk⟩; have K4 := Lib.hid hk; clear hk; have q4 := K4.out.r.c4; have q5 := K4.out.r.c5; have q6 := K4.out.r.c6; have q7 := K4.out.r.c7; have q8 := K4.out.r.c8)
    | (go_at_call 27; refine (H4.out _ K4.out).mono ?_; clear H4 q4 q5 q6 q7 q8; rintro e V4 ⟨rfl, hk⟩; have K5 := Lib.hid hk; clear hk; have q9 := K5.out.r.c9; have q10 := K5.out.r.c10; have q11 := K5.out.r.c11; have q12 := K5.out.r.c12; have q13 := K5.out.r.c13)
    | (go_at_call 27; refine (H5.out _ K5.out).mono ?_; clear H5 q9 q10 q11 q12 q13; rintro e V5 ⟨rfl, hk⟩; have K6 := Lib.hid hk; clear hk)
    | fail)
  go_ret
  exact ⟨rfl, K6.out.b⟩
set_option maxRecDepth 100000 in
set_option maxHeartbeats 800000 in
theorem bright_c (r : Rl) (w : World) (z1 : r.std.size ≤ 9223372036854775807) (_ : r.dst.size ≤ 9223372036854775807) (h0 : nameB r.std.data.toList = true) (h1 : offB r.off = true) (hs : r.dst = ⟨#[]⟩) : Calls Tryd.prog 12 #[rlV r] w fun e w' => e = .returned (.bool (decide (r.dstOff = 0) && (dy0B r.start && dy0B r.end_))) ∧ Below w.heap.size w w' := by
  have H0 : Hid (∀ V, Wk w V r → Calls Tryd.prog 25 #[.string r.std] V fun e w' => e = .returned (.bool true) ∧ Wk w w' r) := Lib.hid fun V hV => by have := bname_any r.std (by omega) V; rw [h0] at this; exact this.mono fun _ _ ⟨he, hb⟩ => ⟨he, hb ▸ hV⟩
  have H1 : Hid (∀ V, Wk w V r → Calls Tryd.prog 26 #[.int .i64 r.off] V fun e w' => e = .returned (.bool true) ∧ Wk w w' r) := Lib.hid fun V hV => by have := roff_any r.off V; rw [h1] at this; exact this.mono fun _ _ ⟨he, hb⟩ => ⟨he, hb ▸ hV⟩
  have K0 := Lib.hid (Wk.start w r 29)
  have q0 := K0.out.r.c0
  clear z1 h0 h1
  obtain ⟨std, dst, off, dstOff, ⟨k1, m1, e1, d1, t1⟩, ⟨k2, m2, e2, d2, t2⟩⟩ := r
  simp only at *
  subst hs
  go_enter Tryd.func12, Tryd.ntmps12
  go_wp2_with (first
    | (go_at_call 25; refine (H0.out _ K0.out).mono ?_; clear H0 q0; rintro e V0 ⟨rfl, hk⟩; have K1 := Lib.hid hk; clear hk; have q2 := K1.out.r.c2)
    | (go_at_call 26; refine (H1.out _ K1.out).mono ?_; clear H1 q2; rintro e V1 ⟨rfl, hk⟩; have K2 := Lib.hid hk; clear hk; have q0 := K2.out.r.c0; have q1 := K2.out.r.c1; have q2 := K2.out.r.c2; have q3 := K2.out.r.c3; have q4 := K2.out.r.c4; have q5 := K2.out.r.c5; have q6 := K2.out.r.c6; have q7 := K2.out.r.c7; have q8 := K2.out.r.c8; have q9 := K2.out.r.c9; have q10 := K2.out.r.c10; have q11 := K2.out.r.c11; have q12 := K2.out.r.c12; have q13 := K2.out.r.c13)
    | fail)
  all_goals (go_ret; refine ⟨?_, K2.out.b⟩; clear q0 q1 q2 q3 q4 q5 q6 q7 q8 q9 q10 q11 q12 q13; simp [dy0B, *]; done)
theorem bright_any (r : Rl) (z1 : r.std.size ≤ 9223372036854775807) (z2 : r.dst.size ≤ 9223372036854775807) (w : World) : Calls Tryd.prog 12 #[rlV r] w fun e w' => e = .returned (.bool (rightR r)) ∧ Below w.heap.size w w' := by
  unfold rightR
  cases h0 : nameB r.std.data.toList with
  | false => exact bright_a r w z1 z2 h0
  | true =>
    cases h1 : offB r.off with
    | false => exact bright_b r w z1 z2 h0 h1
    | true =>
      by_cases hs : r.dst.size = 0
      · rw [if_pos hs]
        exact bright_c r w z1 z2 h0 h1 (size_zero hs)
      · rw [if_neg hs]
        have hn := ne_empty hs
        cases h2 : nameB r.dst.data.toList with
        | false => exact bright_d1 r w z1 z2 h0 h1 h2 hn
        | true =>
          cases h3 : offB r.dstOff with
          | false => exact bright_d2 r w z1 z2 h0 h1 h2 h3 hn
          | true =>
            cases h4 : dayB r.start with
            | false => exact bright_d3 r w z1 z2 h0 h1 h2 h3 h4 hn
            | true => exact bright_d4 r _ w z1 z2 h0 h1 h2 h3 h4 rfl hn
end Go.Proofs.YtkfhipkcnocokaaDoor.Fo
