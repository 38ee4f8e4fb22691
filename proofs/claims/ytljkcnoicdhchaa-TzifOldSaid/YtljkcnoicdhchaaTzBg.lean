/-
  Layer 6 (tzif): may a block have so many of each?
-/
import Derived.Test.YtljkcnoicdhchaaTzBf
namespace Go.Proofs.Ytljkcnoicdhchaa.Tz
open Go.RowKit

theorem within_i64 (n lo hi : Int) (w : World) : Calls Try.prog 66 #[.int .i64 n, .int .i64 lo, .int .i64 hi] w fun e w' => e = .returned (.bool (inI n lo hi)) ∧ w = w' := by
  unfold inI
  by_cases h1 : lo ≤ n
  · by_cases h2 : n ≤ hi
    · have hq : (decide (lo ≤ n) && decide (n ≤ hi)) = true := by simp [h1, h2]
      rw [hq]
      clear hq
      go_enter Try.func66, Try.ntmps66
      go_wp2_with fail
      go_ret
      exact ⟨rfl, rfl⟩
    · have hq : (decide (lo ≤ n) && decide (n ≤ hi)) = false := by simp [h2]
      rw [hq]
      clear hq
      go_enter Try.func66, Try.ntmps66
      go_wp2_with fail
      go_ret
      exact ⟨rfl, rfl⟩
  · have hq : (decide (lo ≤ n) && decide (n ≤ hi)) = false := by simp [h1]
    rw [hq]
    clear hq
    go_enter Try.func66, Try.ntmps66
    go_wp2_with fail
    go_ret
    exact ⟨rfl, rfl⟩
def mayB (h : Hd) : Bool := inI h.types 1 255 && decide (h.times ≤ 4000) && inI h.letters 1 4096 && decide (h.leaps ≤ 1000) && (decide (h.stds = 0) || decide (h.stds = h.types)) && (decide (h.uts = 0) || decide (h.uts = h.types))
set_option maxRecDepth 100000 in
set_option maxHeartbeats 2000000 in
theorem may_1 (version uts stds leaps times types letters : Nat) (w : World) (htypes : inI types 1 255 = false) : Calls Try.prog 54 #[hdVal ⟨version, uts, stds, leaps, times, types, letters⟩] w fun e w' => e = .returned (.bool false) ∧ Below w.heap.size w w' := by
  unfold hdVal
  simp only
  have Htypes : Hid (∀ V, Calls Try.prog 66 #[.int .i64 types, .int .i64 1, .int .i64 255] V fun e w' => e = .returned (.bool false) ∧ V = w') := Lib.hid fun V => by have := within_i64 types 1 255 V; rwa [htypes] at this
  clear htypes
  have HB : Hid (Below w.heap.size w (w.alloc (.cells #[.int .u8 version, .int .i64 uts, .int .i64 stds, .int .i64 leaps, .int .i64 times, .int .i64 types, .int .i64 letters] 60))) := Lib.hid ((Below.refl _ _).alloc (Nat.le_refl _) _)
  go_enter Try.func54, Try.ntmps54
  go_wp2_with (first | (go_at_call 66; refine (Htypes.out _).mono ?_; clear Htypes; rintro e V0 ⟨rfl, rfl⟩) | fail)
  go_ret
  exact ⟨rfl, HB.out⟩
set_option maxRecDepth 100000 in
set_option maxHeartbeats 2000000 in
theorem may_2 (version uts stds leaps times types letters : Nat) (w : World) (htypes : inI types 1 255 = true) (htimes : ¬ times ≤ 4000) : Calls Try.prog 54 #[hdVal ⟨version, uts, stds, leaps, times, types, letters⟩] w fun e w' => e = .returned (.bool false) ∧ Below w.heap.size w w' := by
  unfold hdVal
  simp only
  have Htypes : Hid (∀ V, Calls Try.prog 66 #[.int .i64 types, .int .i64 1, .int .i64 255] V fun e w' => e = .returned (.bool true) ∧ V = w') := Lib.hid fun V => by have := within_i64 types 1 255 V; rwa [htypes] at this
  clear htypes
  have dtimes : decide ((times : Int) ≤ 4000) = false := by simp; omega
  clear htimes
  have HB : Hid (Below w.heap.size w (w.alloc (.cells #[.int .u8 version, .int .i64 uts, .int .i64 stds, .int .i64 leaps, .int .i64 times, .int .i64 types, .int .i64 letters] 60))) := Lib.hid ((Below.refl _ _).alloc (Nat.le_refl _) _)
  go_enter Try.func54, Try.ntmps54
  go_wp2_with (first | (go_at_call 66; refine (Htypes.out _).mono ?_; clear Htypes; rintro e V0 ⟨rfl, rfl⟩) | fail)
  go_ret
  exact ⟨rfl, HB.out⟩
set_option maxRecDepth 100000 in
set_option maxHeartbeats 2000000 in
theorem may_3 (version uts stds leaps times types letters : Nat) (w : World) (htypes : inI types 1 255 = true) (htimes : times ≤ 4000) (hletters : inI letters 1 4096 = false) : Calls Try.prog 54 #[hdVal ⟨version, uts, stds, leaps, times, types, letters⟩] w fun e w' => e = .returned (.bool false) ∧ Below w.heap.size w w' := by
  unfold hdVal
  simp only
  have Htypes : Hid (∀ V, Calls Try.prog 66 #[.int .i64 types, .int .i64 1, .int .i64 255] V fun e w' => e = .returned (.bool true) ∧ V = w') := Lib.hid fun V => by have := within_i64 types 1 255 V; rwa [htypes] at this
  clear htypes
  have Hletters : Hid (∀ V, Calls Try.prog 66 #[.int .i64 letters, .int .i64 1, .int .i64 4096] V fun e w' => e = .returned (.bool false) ∧ V = w') := Lib.hid fun V => by have := within_i64 letters 1 4096 V; rwa [hletters] at this
  clear hletters
  have dtimes : decide ((times : Int) ≤ 4000) = true := by simp; omega
  clear htimes
  have HB : Hid (Below w.heap.size w (w.alloc (.cells #[.int .u8 version, .int .i64 uts, .int .i64 stds, .int .i64 leaps, .int .i64 times, .int .i64 types, .int .i64 letters] 60))) := Lib.hid ((Below.refl _ _).alloc (Nat.le_refl _) _)
  go_enter Try.func54, Try.ntmps54
  go_wp2_with (first | (go_at_call 66; refine (Htypes.out _).mono ?_; clear Htypes; rintro e V0 ⟨rfl, rfl⟩) | (go_at_call 66; refine (Hletters.out _).mono ?_; clear Hletters; rintro e V0 ⟨rfl, rfl⟩) | fail)
  go_ret
  exact ⟨rfl, HB.out⟩
set_option maxRecDepth 100000 in
set_option maxHeartbeats 2000000 in
theorem may_4 (version uts stds leaps times types letters : Nat) (w : World) (htypes : inI types 1 255 = true) (htimes : times ≤ 4000) (hletters : inI letters 1 4096 = true) (hleaps : ¬ leaps ≤ 1000) : Calls Try.prog 54 #[hdVal ⟨version, uts, stds, leaps, times, types, letters⟩] w fun e w' => e = .returned (.bool false) ∧ Below w.heap.size w w' := by
  unfold hdVal
  simp only
  have Htypes : Hid (∀ V, Calls Try.prog 66 #[.int .i64 types, .int .i64 1, .int .i64 255] V fun e w' => e = .returned (.bool true) ∧ V = w') := Lib.hid fun V => by have := within_i64 types 1 255 V; rwa [htypes] at this
  clear htypes
  have Hletters : Hid (∀ V, Calls Try.prog 66 #[.int .i64 letters, .int .i64 1, .int .i64 4096] V fun e w' => e = .returned (.bool true) ∧ V = w') := Lib.hid fun V => by have := within_i64 letters 1 4096 V; rwa [hletters] at this
  clear hletters
  have dtimes : decide ((times : Int) ≤ 4000) = true := by simp; omega
  have dleaps : decide ((leaps : Int) ≤ 1000) = false := by simp; omega
  clear htimes hleaps
  have HB : Hid (Below w.heap.size w (w.alloc (.cells #[.int .u8 version, .int .i64 uts, .int .i64 stds, .int .i64 leaps, .int .i64 times, .int .i64 types, .int .i64 letters] 60))) := Lib.hid ((Below.refl _ _).alloc (Nat.le_refl _) _)
  go_enter Try.func54, Try.ntmps54
  go_wp2_with (first | (go_at_call 66; refine (Htypes.out _).mono ?_; clear Htypes; rintro e V0 ⟨rfl, rfl⟩) | (go_at_call 66; refine (Hletters.out _).mono ?_; clear Hletters; rintro e V0 ⟨rfl, rfl⟩) | fail)
  go_ret
  exact ⟨rfl, HB.out⟩
set_option maxRecDepth 100000 in
set_option maxHeartbeats 2000000 in
theorem may_5 (version uts stds leaps times types letters : Nat) (w : World) (htypes : inI types 1 255 = true) (htimes : times ≤ 4000) (hletters : inI letters 1 4096 = true) (hleaps : leaps ≤ 1000) (hs0 : ¬ stds = 0) (hs1 : ¬ stds = types) : Calls Try.prog 54 #[hdVal ⟨version, uts, stds, leaps, times, types, letters⟩] w fun e w' => e = .returned (.bool false) ∧ Below w.heap.size w w' := by
  unfold hdVal
  simp only
  have Htypes : Hid (∀ V, Calls Try.prog 66 #[.int .i64 types, .int .i64 1, .int .i64 255] V fun e w' => e = .returned (.bool true) ∧ V = w') := Lib.hid fun V => by have := within_i64 types 1 255 V; rwa [htypes] at this
  clear htypes
  have Hletters : Hid (∀ V, Calls Try.prog 66 #[.int .i64 letters, .int .i64 1, .int .i64 4096] V fun e w' => e = .returned (.bool true) ∧ V = w') := Lib.hid fun V => by have := within_i64 letters 1 4096 V; rwa [hletters] at this
  clear hletters
  have dtimes : decide ((times : Int) ≤ 4000) = true := by simp; omega
  have dleaps : decide ((leaps : Int) ≤ 1000) = true := by simp; omega
  have ds0 : decide ((stds : Int) = (0 : Int)) = false := by simp; omega
  have es0 : ((stds : Int) == (0 : Int)) = false := by simp; omega
  have ds1 : decide ((stds : Int) = (types : Int)) = false := by simp; omega
  have es1 : ((stds : Int) == (types : Int)) = false := by simp; omega
  clear htimes hleaps hs0 hs1
  have HB : Hid (Below w.heap.size w (w.alloc (.cells #[.int .u8 version, .int .i64 uts, .int .i64 stds, .int .i64 leaps, .int .i64 times, .int .i64 types, .int .i64 letters] 60))) := Lib.hid ((Below.refl _ _).alloc (Nat.le_refl _) _)
  go_enter Try.func54, Try.ntmps54
  go_wp2_with (first | (go_at_call 66; refine (Htypes.out _).mono ?_; clear Htypes; rintro e V0 ⟨rfl, rfl⟩) | (go_at_call 66; refine (Hletters.out _).mono ?_; clear Hletters; rintro e V0 ⟨rfl, rfl⟩) | fail)
  go_ret
  exact ⟨rfl, HB.out⟩
set_option maxRecDepth 100000 in
set_option maxHeartbeats 2000000 in
theorem may_6 (version uts stds leaps times types letters : Nat) (w : World) (htypes : inI types 1 255 = true) (htimes : times ≤ 4000) (hletters : inI letters 1 4096 = true) (hleaps : leaps ≤ 1000) (hs0 : stds = 0) (hu0 : uts = 0) : Calls Try.prog 54 #[hdVal ⟨version, uts, stds, leaps, times, types, letters⟩] w fun e w' => e = .returned (.bool true) ∧ Below w.heap.size w w' := by
  unfold hdVal
  simp only
  have Htypes : Hid (∀ V, Calls Try.prog 66 #[.int .i64 types, .int .i64 1, .int .i64 255] V fun e w' => e = .returned (.bool true) ∧ V = w') := Lib.hid fun V => by have := within_i64 types 1 255 V; rwa [htypes] at this
  clear htypes
  have Hletters : Hid (∀ V, Calls Try.prog 66 #[.int .i64 letters, .int .i64 1, .int .i64 4096] V fun e w' => e = .returned (.bool true) ∧ V = w') := Lib.hid fun V => by have := within_i64 letters 1 4096 V; rwa [hletters] at this
  clear hletters
  have dtimes : decide ((times : Int) ≤ 4000) = true := by simp; omega
  have dleaps : decide ((leaps : Int) ≤ 1000) = true := by simp; omega
  have ds0 : decide ((stds : Int) = (0 : Int)) = true := by simp; omega
  have es0 : ((stds : Int) == (0 : Int)) = true := by simp; omega
  have du0 : decide ((uts : Int) = (0 : Int)) = true := by simp; omega
  have eu0 : ((uts : Int) == (0 : Int)) = true := by simp; omega
  clear htimes hleaps hs0 hu0
  have HB : Hid (Below w.heap.size w (w.alloc (.cells #[.int .u8 version, .int .i64 uts, .int .i64 stds, .int .i64 leaps, .int .i64 times, .int .i64 types, .int .i64 letters] 60))) := Lib.hid ((Below.refl _ _).alloc (Nat.le_refl _) _)
  go_enter Try.func54, Try.ntmps54
  go_wp2_with (first | (go_at_call 66; refine (Htypes.out _).mono ?_; clear Htypes; rintro e V0 ⟨rfl, rfl⟩) | (go_at_call 66; refine (Hletters.out _).mono ?_; clear Hletters; rintro e V0 ⟨rfl, rfl⟩) | fail)
  go_ret
  exact ⟨rfl, HB.out⟩
set_option maxRecDepth 100000 in
set_option maxHeartbeats 2000000 in
theorem may_7 (version uts stds leaps times types letters : Nat) (w : World) (htypes : inI types 1 255 = true) (htimes : times ≤ 4000) (hletters : inI letters 1 4096 = true) (hleaps : leaps ≤ 1000) (hs0 : stds = 0) (hu0 : ¬ uts = 0) (hu1 : uts = types) : Calls Try.prog 54 #[hdVal ⟨version, uts, stds, leaps, times, types, letters⟩] w fun e w' => e = .returned (.bool true) ∧ Below w.heap.size w w' := by
  unfold hdVal
  simp only
  have Htypes : Hid (∀ V, Calls Try.prog 66 #[.int .i64 types, .int .i64 1, .int .i64 255] V fun e w' => e = .returned (.bool true) ∧ V = w') := Lib.hid fun V => by have := within_i64 types 1 255 V; rwa [htypes] at this
  clear htypes
  have Hletters : Hid (∀ V, Calls Try.prog 66 #[.int .i64 letters, .int .i64 1, .int .i64 4096] V fun e w' => e = .returned (.bool true) ∧ V = w') := Lib.hid fun V => by have := within_i64 letters 1 4096 V; rwa [hletters] at this
  clear hletters
  have dtimes : decide ((times : Int) ≤ 4000) = true := by simp; omega
  have dleaps : decide ((leaps : Int) ≤ 1000) = true := by simp; omega
  have ds0 : decide ((stds : Int) = (0 : Int)) = true := by simp; omega
  have es0 : ((stds : Int) == (0 : Int)) = true := by simp; omega
  have du0 : decide ((uts : Int) = (0 : Int)) = false := by simp; omega
  have eu0 : ((uts : Int) == (0 : Int)) = false := by simp; omega
  have du1 : decide ((uts : Int) = (types : Int)) = true := by simp; omega
  have eu1 : ((uts : Int) == (types : Int)) = true := by simp; omega
  clear htimes hleaps hs0 hu0 hu1
  have HB : Hid (Below w.heap.size w (w.alloc (.cells #[.int .u8 version, .int .i64 uts, .int .i64 stds, .int .i64 leaps, .int .i64 times, .int .i64 types, .int .i64 letters] 60))) := Lib.hid ((Below.refl _ _).alloc (Nat.le_refl _) _)
  go_enter Try.func54, Try.ntmps54
  go_wp2_with (first | (go_at_call 66; refine (Htypes.out _).mono ?_; clear Htypes; rintro e V0 ⟨rfl, rfl⟩) | (go_at_call 66; refine (Hletters.out _).mono ?_; clear Hletters; rintro e V0 ⟨rfl, rfl⟩) | fail)
  go_ret
  exact ⟨rfl, HB.out⟩
set_option maxRecDepth 100000 in
set_option maxHeartbeats 2000000 in
theorem may_8 (version uts stds leaps times types letters : Nat) (w : World) (htypes : inI types 1 255 = true) (htimes : times ≤ 4000) (hletters : inI letters 1 4096 = true) (hleaps : leaps ≤ 1000) (hs0 : stds = 0) (hu0 : ¬ uts = 0) (hu1 : ¬ uts = types) : Calls Try.prog 54 #[hdVal ⟨version, uts, stds, leaps, times, types, letters⟩] w fun e w' => e = .returned (.bool false) ∧ Below w.heap.size w w' := by
  unfold hdVal
  simp only
  have Htypes : Hid (∀ V, Calls Try.prog 66 #[.int .i64 types, .int .i64 1, .int .i64 255] V fun e w' => e = .returned (.bool true) ∧ V = w') := Lib.hid fun V => by have := within_i64 types 1 255 V; rwa [htypes] at this
  clear htypes
  have Hletters : Hid (∀ V, Calls Try.prog 66 #[.int .i64 letters, .int .i64 1, .int .i64 4096] V fun e w' => e = .returned (.bool true) ∧ V = w') := Lib.hid fun V => by have := within_i64 letters 1 4096 V; rwa [hletters] at this
  clear hletters
  have dtimes : decide ((times : Int) ≤ 4000) = true := by simp; omega
  have dleaps : decide ((leaps : Int) ≤ 1000) = true := by simp; omega
  have ds0 : decide ((stds : Int) = (0 : Int)) = true := by simp; omega
  have es0 : ((stds : Int) == (0 : Int)) = true := by simp; omega
  have du0 : decide ((uts : Int) = (0 : Int)) = false := by simp; omega
  have eu0 : ((uts : Int) == (0 : Int)) = false := by simp; omega
  have du1 : decide ((uts : Int) = (types : Int)) = false := by simp; omega
  have eu1 : ((uts : Int) == (types : Int)) = false := by simp; omega
  clear htimes hleaps hs0 hu0 hu1
  have HB : Hid (Below w.heap.size w (w.alloc (.cells #[.int .u8 version, .int .i64 uts, .int .i64 stds, .int .i64 leaps, .int .i64 times, .int .i64 types, .int .i64 letters] 60))) := Lib.hid ((Below.refl _ _).alloc (Nat.le_refl _) _)
  go_enter Try.func54, Try.ntmps54
  go_wp2_with (first | (go_at_call 66; refine (Htypes.out _).mono ?_; clear Htypes; rintro e V0 ⟨rfl, rfl⟩) | (go_at_call 66; refine (Hletters.out _).mono ?_; clear Hletters; rintro e V0 ⟨rfl, rfl⟩) | fail)
  go_ret
  exact ⟨rfl, HB.out⟩
set_option maxRecDepth 100000 in
set_option maxHeartbeats 2000000 in
theorem may_9 (version uts stds leaps times types letters : Nat) (w : World) (htypes : inI types 1 255 = true) (htimes : times ≤ 4000) (hletters : inI letters 1 4096 = true) (hleaps : leaps ≤ 1000) (hs0 : ¬ stds = 0) (hs1 : stds = types) (hu0 : uts = 0) : Calls Try.prog 54 #[hdVal ⟨version, uts, stds, leaps, times, types, letters⟩] w fun e w' => e = .returned (.bool true) ∧ Below w.heap.size w w' := by
  unfold hdVal
  simp only
  have Htypes : Hid (∀ V, Calls Try.prog 66 #[.int .i64 types, .int .i64 1, .int .i64 255] V fun e w' => e = .returned (.bool true) ∧ V = w') := Lib.hid fun V => by have := within_i64 types 1 255 V; rwa [htypes] at this
  clear htypes
  have Hletters : Hid (∀ V, Calls Try.prog 66 #[.int .i64 letters, .int .i64 1, .int .i64 4096] V fun e w' => e = .returned (.bool true) ∧ V = w') := Lib.hid fun V => by have := within_i64 letters 1 4096 V; rwa [hletters] at this
  clear hletters
  have dtimes : decide ((times : Int) ≤ 4000) = true := by simp; omega
  have dleaps : decide ((leaps : Int) ≤ 1000) = true := by simp; omega
  have ds0 : decide ((stds : Int) = (0 : Int)) = false := by simp; omega
  have es0 : ((stds : Int) == (0 : Int)) = false := by simp; omega
  have ds1 : decide ((stds : Int) = (types : Int)) = true := by simp; omega
  have es1 : ((stds : Int) == (types : Int)) = true := by simp; omega
  have du0 : decide ((uts : Int) = (0 : Int)) = true := by simp; omega
  have eu0 : ((uts : Int) == (0 : Int)) = true := by simp; omega
  clear htimes hleaps hs0 hs1 hu0
  have HB : Hid (Below w.heap.size w (w.alloc (.cells #[.int .u8 version, .int .i64 uts, .int .i64 stds, .int .i64 leaps, .int .i64 times, .int .i64 types, .int .i64 letters] 60))) := Lib.hid ((Below.refl _ _).alloc (Nat.le_refl _) _)
  go_enter Try.func54, Try.ntmps54
  go_wp2_with (first | (go_at_call 66; refine (Htypes.out _).mono ?_; clear Htypes; rintro e V0 ⟨rfl, rfl⟩) | (go_at_call 66; refine (Hletters.out _).mono ?_; clear Hletters; rintro e V0 ⟨rfl, rfl⟩) | fail)
  go_ret
  exact ⟨rfl, HB.out⟩
set_option maxRecDepth 100000 in
set_option maxHeartbeats 2000000 in
theorem may_10 (version uts stds leaps times types letters : Nat) (w : World) (htypes : inI types 1 255 = true) (htimes : times ≤ 4000) (hletters : inI letters 1 4096 = true) (hleaps : leaps ≤ 1000) (hs0 : ¬ stds = 0) (hs1 : stds = types) (hu0 : ¬ uts = 0) (hu1 : uts = types) : Calls Try.prog 54 #[hdVal ⟨version, uts, stds, leaps, times, types, letters⟩] w fun e w' => e = .returned (.bool true) ∧ Below w.heap.size w w' := by
  unfold hdVal
  simp only
  have Htypes : Hid (∀ V, Calls Try.prog 66 #[.int .i64 types, .int .i64 1, .int .i64 255] V fun e w' => e = .returned (.bool true) ∧ V = w') := Lib.hid fun V => by have := within_i64 types 1 255 V; rwa [htypes] at this
  clear htypes
  have Hletters : Hid (∀ V, Calls Try.prog 66 #[.int .i64 letters, .int .i64 1, .int .i64 4096] V fun e w' => e = .returned (.bool true) ∧ V = w') := Lib.hid fun V => by have := within_i64 letters 1 4096 V; rwa [hletters] at this
  clear hletters
  have dtimes : decide ((times : Int) ≤ 4000) = true := by simp; omega
  have dleaps : decide ((leaps : Int) ≤ 1000) = true := by simp; omega
  have ds0 : decide ((stds : Int) = (0 : Int)) = false := by simp; omega
  have es0 : ((stds : Int) == (0 : Int)) = false := by simp; omega
  have ds1 : decide ((stds : Int) = (types : Int)) = true := by simp; omega
  have es1 : ((stds : Int) == (types : Int)) = true := by simp; omega
  have du0 : decide ((uts : Int) = (0 : Int)) = false := by simp; omega
  have eu0 : ((uts : Int) == (0 : Int)) = false := by simp; omega
  have du1 : decide ((uts : Int) = (types : Int)) = true := by simp; omega
  have eu1 : ((uts : Int) == (types : Int)) = true := by simp; omega
  clear htimes hleaps hs0 hs1 hu0 hu1
  have HB : Hid (Below w.heap.size w (w.alloc (.cells #[.int .u8 version, .int .i64 uts, .int .i64 stds, .int .i64 leaps, .int .i64 times, .int .i64 types, .int .i64 letters] 60))) := Lib.hid ((Below.refl _ _).alloc (Nat.le_refl _) _)
  go_enter Try.func54, Try.ntmps54
  go_wp2_with (first | (go_at_call 66; refine (Htypes.out _).mono ?_; clear Htypes; rintro e V0 ⟨rfl, rfl⟩) | (go_at_call 66; refine (Hletters.out _).mono ?_; clear Hletters; rintro e V0 ⟨rfl, rfl⟩) | fail)
  go_ret
  exact ⟨rfl, HB.out⟩
set_option maxRecDepth 100000 in
set_option maxHeartbeats 2000000 in
theorem may_11 (version uts stds leaps times types letters : Nat) (w : World) (htypes : inI types 1 255 = true) (htimes : times ≤ 4000) (hletters : inI letters 1 4096 = true) (hleaps : leaps ≤ 1000) (hs0 : ¬ stds = 0) (hs1 : stds = types) (hu0 : ¬ uts = 0) (hu1 : ¬ uts = types) : Calls Try.prog 54 #[hdVal ⟨version, uts, stds, leaps, times, types, letters⟩] w fun e w' => e = .returned (.bool false) ∧ Below w.heap.size w w' := by
  unfold hdVal
  simp only
  have Htypes : Hid (∀ V, Calls Try.prog 66 #[.int .i64 types, .int .i64 1, .int .i64 255] V fun e w' => e = .returned (.bool true) ∧ V = w') := Lib.hid fun V => by have := within_i64 types 1 255 V; rwa [htypes] at this
  clear htypes
  have Hletters : Hid (∀ V, Calls Try.prog 66 #[.int .i64 letters, .int .i64 1, .int .i64 4096] V fun e w' => e = .returned (.bool true) ∧ V = w') := Lib.hid fun V => by have := within_i64 letters 1 4096 V; rwa [hletters] at this
  clear hletters
  have dtimes : decide ((times : Int) ≤ 4000) = true := by simp; omega
  have dleaps : decide ((leaps : Int) ≤ 1000) = true := by simp; omega
  have ds0 : decide ((stds : Int) = (0 : Int)) = false := by simp; omega
  have es0 : ((stds : Int) == (0 : Int)) = false := by simp; omega
  have ds1 : decide ((stds : Int) = (types : Int)) = true := by simp; omega
  have es1 : ((stds : Int) == (types : Int)) = true := by simp; omega
  have du0 : decide ((uts : Int) = (0 : Int)) = false := by simp; omega
  have eu0 : ((uts : Int) == (0 : Int)) = false := by simp; omega
  have du1 : decide ((uts : Int) = (types : Int)) = false := by simp; omega
  have eu1 : ((uts : Int) == (types : Int)) = false := by simp; omega
  clear htimes hleaps hs0 hs1 hu0 hu1
  have HB : Hid (Below w.heap.size w (w.alloc (.cells #[.int .u8 version, .int .i64 uts, .int .i64 stds, .int .i64 leaps, .int .i64 times, .int .i64 types, .int .i64 letters] 60))) := Lib.hid ((Below.refl _ _).alloc (Nat.le_refl _) _)
  go_enter Try.func54, Try.ntmps54
  go_wp2_with (first | (go_at_call 66; refine (Htypes.out _).mono ?_; clear Htypes; rintro e V0 ⟨rfl, rfl⟩) | (go_at_call 66; refine (Hletters.out _).mono ?_; clear Hletters; rintro e V0 ⟨rfl, rfl⟩) | fail)
  go_ret
  exact ⟨rfl, HB.out⟩
theorem mayBe_any (h : Hd) (w : World) : Calls Try.prog 54 #[hdVal h] w fun e w' => e = .returned (.bool (mayB h)) ∧ Below w.heap.size w w' := by
  obtain ⟨version, uts, stds, leaps, times, types, letters⟩ := h
  cases h1 : inI types 1 255 with
  | false => rw [show mayB ⟨version, uts, stds, leaps, times, types, letters⟩ = false by simp [mayB, h1]]; exact may_1 version uts stds leaps times types letters w h1
  | true =>
    by_cases h2 : times ≤ 4000
    · cases h3 : inI letters 1 4096 with
      | false => rw [show mayB ⟨version, uts, stds, leaps, times, types, letters⟩ = false by simp [mayB, h3]]; exact may_3 version uts stds leaps times types letters w h1 h2 h3
      | true =>
        by_cases h4 : leaps ≤ 1000
        · by_cases h5 : stds = 0
          · by_cases h7 : uts = 0
            · rw [show mayB ⟨version, uts, stds, leaps, times, types, letters⟩ = true by simp [mayB, h1, h2, h3, h4, h5, h7]]; exact may_6 version uts stds leaps times types letters w h1 h2 h3 h4 h5 h7
            · by_cases h8 : uts = types
              · rw [show mayB ⟨version, uts, stds, leaps, times, types, letters⟩ = true by simp [mayB, h1, h2, h3, h4, h5, h8]]; exact may_7 version uts stds leaps times types letters w h1 h2 h3 h4 h5 h7 h8
              · rw [show mayB ⟨version, uts, stds, leaps, times, types, letters⟩ = false by simp [mayB, h7, h8]]; exact may_8 version uts stds leaps times types letters w h1 h2 h3 h4 h5 h7 h8
          · by_cases h6 : stds = types
            · by_cases h7 : uts = 0
              · rw [show mayB ⟨version, uts, stds, leaps, times, types, letters⟩ = true by simp [mayB, h1, h2, h3, h4, h6, h7]]; exact may_9 version uts stds leaps times types letters w h1 h2 h3 h4 h5 h6 h7
              · by_cases h8 : uts = types
                · rw [show mayB ⟨version, uts, stds, leaps, times, types, letters⟩ = true by simp [mayB, h1, h2, h3, h4, h6, h8]]; exact may_10 version uts stds leaps times types letters w h1 h2 h3 h4 h5 h6 h7 h8
                · rw [show mayB ⟨version, uts, stds, leaps, times, types, letters⟩ = false by simp [mayB, h7, h8]]; exact may_11 version uts stds leaps times types letters w h1 h2 h3 h4 h5 h6 h7 h8
            · rw [show mayB ⟨version, uts, stds, leaps, times, types, letters⟩ = false by simp [mayB, h5, h6]]; exact may_5 version uts stds leaps times types letters w h1 h2 h3 h4 h5 h6
        · rw [show mayB ⟨version, uts, stds, leaps, times, types, letters⟩ = false by simp [mayB, h4]]; exact may_4 version uts stds leaps times types letters w h1 h2 h3 h4
    · rw [show mayB ⟨version, uts, stds, leaps, times, types, letters⟩ = false by simp [mayB, h2]]; exact may_2 version uts stds leaps times types letters w h1 h2
end Go.Proofs.Ytljkcnoicdhchaa.Tz
