/-
  Layer 6 (tzif): blocks that the document refuses: written by gen_kf6.py.
-/
import Derived.Test.YtohpdpcjhmopbaaTzKf
namespace Go.Proofs.Ytohpdpcjhmopbaa.Tz
open Go.RowKit

set_option maxRecDepth 100000 in
set_option maxHeartbeats 1000000 in
theorem rblock_f1 (h : Hd) (l : List Nat) (A : Option Addr) (B n c : Nat) (w : World) (hs : SB w B A n c l) (hB : B ≤ w.heap.size) (h0 : h.types < 1) :
    Calls Try.prog 51 #[.slice A n c, hdArr h, .int .i64 8] w fun e w' => e = .returned (.tuple #[noZone, .bool false]) ∧ Below w.heap.size w w' := by
  have K0 := Lib.hid (Rk.start (h := h) hs hB)
  unfold hdArr
  obtain ⟨X, hX⟩ : ∃ X, ((w.alloc (.cells #[.int .i64 h.uts, .int .i64 h.stds, .int .i64 h.leaps, .int .i64 h.times, .int .i64 h.types, .int .i64 h.letters] 96)).alloc (.cells #[.slice none 0 0, .slice none 0 0, .slice none 0 0, .string ⟨#[]⟩] 31)).alloc (.cells #[.slice none 0 0, .slice none 0 0, .slice none 0 0, .string ⟨#[]⟩] 31) = X := ⟨_, rfl⟩
  rw [hX] at K0
  have Z0 : Hid (ZnBox X (w.heap.size + 2) (.slice none 0 0) (.slice none 0 0) (.slice none 0 0) (.string ⟨#[]⟩)) := Lib.hid (by rw [← hX]; exact ZnBox.new _ _ (by simp) _ _ _ _ _)
  have i2 : (h.types : Int) < 1 := by omega
  have g0 := h0
  clear hs hB h0 g0
  have q0 := K0.out.d0
  have q1 := K0.out.d1
  have q2 := K0.out.d2
  have q3 := K0.out.d3
  have q4 := K0.out.d4
  have q5 := K0.out.d5
  have z0 := Z0.out.c0
  have z1 := Z0.out.c1
  have z2 := Z0.out.c2
  have z3 := Z0.out.c3
  have k0 := K0.out.rb.c0
  have k1 := K0.out.rb.c1
  have k2 := K0.out.rb.c2
  have k3 := K0.out.rb.c3
  have f0 := K0.out.rb.fr 0
  have f1 := K0.out.rb.fr 1
  have f2 := K0.out.rb.fr 2
  have f3 := K0.out.rb.fr 3
  have HS1 := K0.out.rb.lt
  go_enter Try.func51, Try.ntmps51
  go_wp2_with fail
  exact bodyPost_ret (v := .tuple #[noZone, .bool false]) (by simp [results, Try.results51, go_sem, noZone, k0, k1, k2, k3]) rfl ⟨rfl, K0.out.bl.trans (((((Below.refl w.heap.size X).setCell (Nat.le_succ _) _).setCell (Nat.le_succ _) _).setCell (Nat.le_succ _) _).setCell (Nat.le_succ _) _)⟩
set_option maxRecDepth 100000 in
set_option maxHeartbeats 1000000 in
theorem rblock_f2 (h : Hd) (l : List Nat) (A : Option Addr) (B n c : Nat) (w : World) (hs : SB w B A n c l) (hB : B ≤ w.heap.size) (h0 : 1 ≤ h.types) (h1 : 255 < h.types) :
    Calls Try.prog 51 #[.slice A n c, hdArr h, .int .i64 8] w fun e w' => e = .returned (.tuple #[noZone, .bool false]) ∧ Below w.heap.size w w' := by
  have K0 := Lib.hid (Rk.start (h := h) hs hB)
  unfold hdArr
  obtain ⟨X, hX⟩ : ∃ X, ((w.alloc (.cells #[.int .i64 h.uts, .int .i64 h.stds, .int .i64 h.leaps, .int .i64 h.times, .int .i64 h.types, .int .i64 h.letters] 96)).alloc (.cells #[.slice none 0 0, .slice none 0 0, .slice none 0 0, .string ⟨#[]⟩] 31)).alloc (.cells #[.slice none 0 0, .slice none 0 0, .slice none 0 0, .string ⟨#[]⟩] 31) = X := ⟨_, rfl⟩
  rw [hX] at K0
  have Z0 : Hid (ZnBox X (w.heap.size + 2) (.slice none 0 0) (.slice none 0 0) (.slice none 0 0) (.string ⟨#[]⟩)) := Lib.hid (by rw [← hX]; exact ZnBox.new _ _ (by simp) _ _ _ _ _)
  have i2 : ¬ (h.types : Int) < 1 := by omega
  have i3 : (255 : Int) < (h.types : Int) := by omega
  have g0 := h0
  have g1 := h1
  clear hs hB h0 g0 h1 g1
  have q0 := K0.out.d0
  have q1 := K0.out.d1
  have q2 := K0.out.d2
  have q3 := K0.out.d3
  have q4 := K0.out.d4
  have q5 := K0.out.d5
  have z0 := Z0.out.c0
  have z1 := Z0.out.c1
  have z2 := Z0.out.c2
  have z3 := Z0.out.c3
  have k0 := K0.out.rb.c0
  have k1 := K0.out.rb.c1
  have k2 := K0.out.rb.c2
  have k3 := K0.out.rb.c3
  have f0 := K0.out.rb.fr 0
  have f1 := K0.out.rb.fr 1
  have f2 := K0.out.rb.fr 2
  have f3 := K0.out.rb.fr 3
  have HS1 := K0.out.rb.lt
  go_enter Try.func51, Try.ntmps51
  go_wp2_with fail
  exact bodyPost_ret (v := .tuple #[noZone, .bool false]) (by simp [results, Try.results51, go_sem, noZone, k0, k1, k2, k3]) rfl ⟨rfl, K0.out.bl.trans (((((Below.refl w.heap.size X).setCell (Nat.le_succ _) _).setCell (Nat.le_succ _) _).setCell (Nat.le_succ _) _).setCell (Nat.le_succ _) _)⟩
set_option maxRecDepth 100000 in
set_option maxHeartbeats 1000000 in
theorem rblock_f3 (h : Hd) (l : List Nat) (A : Option Addr) (B n c : Nat) (w : World) (hs : SB w B A n c l) (hB : B ≤ w.heap.size) (h0 : 1 ≤ h.types) (h1 : h.types ≤ 255) (h2 : 4000 < h.times) :
    Calls Try.prog 51 #[.slice A n c, hdArr h, .int .i64 8] w fun e w' => e = .returned (.tuple #[noZone, .bool false]) ∧ Below w.heap.size w w' := by
  have K0 := Lib.hid (Rk.start (h := h) hs hB)
  unfold hdArr
  obtain ⟨X, hX⟩ : ∃ X, ((w.alloc (.cells #[.int .i64 h.uts, .int .i64 h.stds, .int .i64 h.leaps, .int .i64 h.times, .int .i64 h.types, .int .i64 h.letters] 96)).alloc (.cells #[.slice none 0 0, .slice none 0 0, .slice none 0 0, .string ⟨#[]⟩] 31)).alloc (.cells #[.slice none 0 0, .slice none 0 0, .slice none 0 0, .string ⟨#[]⟩] 31) = X := ⟨_, rfl⟩
  rw [hX] at K0
  have Z0 : Hid (ZnBox X (w.heap.size + 2) (.slice none 0 0) (.slice none 0 0) (.slice none 0 0) (.string ⟨#[]⟩)) := Lib.hid (by rw [← hX]; exact ZnBox.new _ _ (by simp) _ _ _ _ _)
  have i2 : ¬ (h.types : Int) < 1 := by omega
  have i3 : ¬ (255 : Int) < (h.types : Int) := by omega
  have i4 : (4000 : Int) < (h.times : Int) := by omega
  have g0 := h0
  have g1 := h1
  have g2 := h2
  clear hs hB h0 g0 h1 g1 h2 g2
  have q0 := K0.out.d0
  have q1 := K0.out.d1
  have q2 := K0.out.d2
  have q3 := K0.out.d3
  have q4 := K0.out.d4
  have q5 := K0.out.d5
  have z0 := Z0.out.c0
  have z1 := Z0.out.c1
  have z2 := Z0.out.c2
  have z3 := Z0.out.c3
  have k0 := K0.out.rb.c0
  have k1 := K0.out.rb.c1
  have k2 := K0.out.rb.c2
  have k3 := K0.out.rb.c3
  have f0 := K0.out.rb.fr 0
  have f1 := K0.out.rb.fr 1
  have f2 := K0.out.rb.fr 2
  have f3 := K0.out.rb.fr 3
  have HS1 := K0.out.rb.lt
  go_enter Try.func51, Try.ntmps51
  go_wp2_with fail
  exact bodyPost_ret (v := .tuple #[noZone, .bool false]) (by simp [results, Try.results51, go_sem, noZone, k0, k1, k2, k3]) rfl ⟨rfl, K0.out.bl.trans (((((Below.refl w.heap.size X).setCell (Nat.le_succ _) _).setCell (Nat.le_succ _) _).setCell (Nat.le_succ _) _).setCell (Nat.le_succ _) _)⟩
set_option maxRecDepth 100000 in
set_option maxHeartbeats 1000000 in
theorem rblock_f4 (h : Hd) (l : List Nat) (A : Option Addr) (B n c : Nat) (w : World) (hs : SB w B A n c l) (hB : B ≤ w.heap.size) (h0 : 1 ≤ h.types) (h1 : h.types ≤ 255) (h2 : h.times ≤ 4000) (h3 : h.letters < 1) :
    Calls Try.prog 51 #[.slice A n c, hdArr h, .int .i64 8] w fun e w' => e = .returned (.tuple #[noZone, .bool false]) ∧ Below w.heap.size w w' := by
  have K0 := Lib.hid (Rk.start (h := h) hs hB)
  unfold hdArr
  obtain ⟨X, hX⟩ : ∃ X, ((w.alloc (.cells #[.int .i64 h.uts, .int .i64 h.stds, .int .i64 h.leaps, .int .i64 h.times, .int .i64 h.types, .int .i64 h.letters] 96)).alloc (.cells #[.slice none 0 0, .slice none 0 0, .slice none 0 0, .string ⟨#[]⟩] 31)).alloc (.cells #[.slice none 0 0, .slice none 0 0, .slice none 0 0, .string ⟨#[]⟩] 31) = X := ⟨_, rfl⟩
  rw [hX] at K0
  have Z0 : Hid (ZnBox X (w.heap.size + 2) (.slice none 0 0) (.slice none 0 0) (.slice none 0 0) (.string ⟨#[]⟩)) := Lib.hid (by rw [← hX]; exact ZnBox.new _ _ (by simp) _ _ _ _ _)
  have i2 : ¬ (h.types : Int) < 1 := by omega
  have i3 : ¬ (255 : Int) < (h.types : Int) := by omega
  have i4 : ¬ (4000 : Int) < (h.times : Int) := by omega
  have i5 : (h.letters : Int) < 1 := by omega
  have g0 := h0
  have g1 := h1
  have g2 := h2
  have g3 := h3
  clear hs hB h0 g0 h1 g1 h2 g2 h3 g3
  have q0 := K0.out.d0
  have q1 := K0.out.d1
  have q2 := K0.out.d2
  have q3 := K0.out.d3
  have q4 := K0.out.d4
  have q5 := K0.out.d5
  have z0 := Z0.out.c0
  have z1 := Z0.out.c1
  have z2 := Z0.out.c2
  have z3 := Z0.out.c3
  have k0 := K0.out.rb.c0
  have k1 := K0.out.rb.c1
  have k2 := K0.out.rb.c2
  have k3 := K0.out.rb.c3
  have f0 := K0.out.rb.fr 0
  have f1 := K0.out.rb.fr 1
  have f2 := K0.out.rb.fr 2
  have f3 := K0.out.rb.fr 3
  have HS1 := K0.out.rb.lt
  go_enter Try.func51, Try.ntmps51
  go_wp2_with fail
  exact bodyPost_ret (v := .tuple #[noZone, .bool false]) (by simp [results, Try.results51, go_sem, noZone, k0, k1, k2, k3]) rfl ⟨rfl, K0.out.bl.trans (((((Below.refl w.heap.size X).setCell (Nat.le_succ _) _).setCell (Nat.le_succ _) _).setCell (Nat.le_succ _) _).setCell (Nat.le_succ _) _)⟩
set_option maxRecDepth 100000 in
set_option maxHeartbeats 1000000 in
theorem rblock_f5 (h : Hd) (l : List Nat) (A : Option Addr) (B n c : Nat) (w : World) (hs : SB w B A n c l) (hB : B ≤ w.heap.size) (h0 : 1 ≤ h.types) (h1 : h.types ≤ 255) (h2 : h.times ≤ 4000) (h3 : 1 ≤ h.letters) (h4 : 4096 < h.letters) :
    Calls Try.prog 51 #[.slice A n c, hdArr h, .int .i64 8] w fun e w' => e = .returned (.tuple #[noZone, .bool false]) ∧ Below w.heap.size w w' := by
  have K0 := Lib.hid (Rk.start (h := h) hs hB)
  unfold hdArr
  obtain ⟨X, hX⟩ : ∃ X, ((w.alloc (.cells #[.int .i64 h.uts, .int .i64 h.stds, .int .i64 h.leaps, .int .i64 h.times, .int .i64 h.types, .int .i64 h.letters] 96)).alloc (.cells #[.slice none 0 0, .slice none 0 0, .slice none 0 0, .string ⟨#[]⟩] 31)).alloc (.cells #[.slice none 0 0, .slice none 0 0, .slice none 0 0, .string ⟨#[]⟩] 31) = X := ⟨_, rfl⟩
  rw [hX] at K0
  have Z0 : Hid (ZnBox X (w.heap.size + 2) (.slice none 0 0) (.slice none 0 0) (.slice none 0 0) (.string ⟨#[]⟩)) := Lib.hid (by rw [← hX]; exact ZnBox.new _ _ (by simp) _ _ _ _ _)
  have i2 : ¬ (h.types : Int) < 1 := by omega
  have i3 : ¬ (255 : Int) < (h.types : Int) := by omega
  have i4 : ¬ (4000 : Int) < (h.times : Int) := by omega
  have i5 : ¬ (h.letters : Int) < 1 := by omega
  have i6 : (4096 : Int) < (h.letters : Int) := by omega
  have g0 := h0
  have g1 := h1
  have g2 := h2
  have g3 := h3
  have g4 := h4
  clear hs hB h0 g0 h1 g1 h2 g2 h3 g3 h4 g4
  have q0 := K0.out.d0
  have q1 := K0.out.d1
  have q2 := K0.out.d2
  have q3 := K0.out.d3
  have q4 := K0.out.d4
  have q5 := K0.out.d5
  have z0 := Z0.out.c0
  have z1 := Z0.out.c1
  have z2 := Z0.out.c2
  have z3 := Z0.out.c3
  have k0 := K0.out.rb.c0
  have k1 := K0.out.rb.c1
  have k2 := K0.out.rb.c2
  have k3 := K0.out.rb.c3
  have f0 := K0.out.rb.fr 0
  have f1 := K0.out.rb.fr 1
  have f2 := K0.out.rb.fr 2
  have f3 := K0.out.rb.fr 3
  have HS1 := K0.out.rb.lt
  go_enter Try.func51, Try.ntmps51
  go_wp2_with fail
  exact bodyPost_ret (v := .tuple #[noZone, .bool false]) (by simp [results, Try.results51, go_sem, noZone, k0, k1, k2, k3]) rfl ⟨rfl, K0.out.bl.trans (((((Below.refl w.heap.size X).setCell (Nat.le_succ _) _).setCell (Nat.le_succ _) _).setCell (Nat.le_succ _) _).setCell (Nat.le_succ _) _)⟩
set_option maxRecDepth 100000 in
set_option maxHeartbeats 1000000 in
theorem rblock_f6 (h : Hd) (l : List Nat) (A : Option Addr) (B n c : Nat) (w : World) (hs : SB w B A n c l) (hB : B ≤ w.heap.size) (h0 : 1 ≤ h.types) (h1 : h.types ≤ 255) (h2 : h.times ≤ 4000) (h3 : 1 ≤ h.letters) (h4 : h.letters ≤ 4096) (h5 : 1000 < h.leaps) :
    Calls Try.prog 51 #[.slice A n c, hdArr h, .int .i64 8] w fun e w' => e = .returned (.tuple #[noZone, .bool false]) ∧ Below w.heap.size w w' := by
  have K0 := Lib.hid (Rk.start (h := h) hs hB)
  unfold hdArr
  obtain ⟨X, hX⟩ : ∃ X, ((w.alloc (.cells #[.int .i64 h.uts, .int .i64 h.stds, .int .i64 h.leaps, .int .i64 h.times, .int .i64 h.types, .int .i64 h.letters] 96)).alloc (.cells #[.slice none 0 0, .slice none 0 0, .slice none 0 0, .string ⟨#[]⟩] 31)).alloc (.cells #[.slice none 0 0, .slice none 0 0, .slice none 0 0, .string ⟨#[]⟩] 31) = X := ⟨_, rfl⟩
  rw [hX] at K0
  have Z0 : Hid (ZnBox X (w.heap.size + 2) (.slice none 0 0) (.slice none 0 0) (.slice none 0 0) (.string ⟨#[]⟩)) := Lib.hid (by rw [← hX]; exact ZnBox.new _ _ (by simp) _ _ _ _ _)
  have i2 : ¬ (h.types : Int) < 1 := by omega
  have i3 : ¬ (255 : Int) < (h.types : Int) := by omega
  have i4 : ¬ (4000 : Int) < (h.times : Int) := by omega
  have i5 : ¬ (h.letters : Int) < 1 := by omega
  have i6 : ¬ (4096 : Int) < (h.letters : Int) := by omega
  have i7 : (1000 : Int) < (h.leaps : Int) := by omega
  have g0 := h0
  have g1 := h1
  have g2 := h2
  have g3 := h3
  have g4 := h4
  have g5 := h5
  clear hs hB h0 g0 h1 g1 h2 g2 h3 g3 h4 g4 h5 g5
  have q0 := K0.out.d0
  have q1 := K0.out.d1
  have q2 := K0.out.d2
  have q3 := K0.out.d3
  have q4 := K0.out.d4
  have q5 := K0.out.d5
  have z0 := Z0.out.c0
  have z1 := Z0.out.c1
  have z2 := Z0.out.c2
  have z3 := Z0.out.c3
  have k0 := K0.out.rb.c0
  have k1 := K0.out.rb.c1
  have k2 := K0.out.rb.c2
  have k3 := K0.out.rb.c3
  have f0 := K0.out.rb.fr 0
  have f1 := K0.out.rb.fr 1
  have f2 := K0.out.rb.fr 2
  have f3 := K0.out.rb.fr 3
  have HS1 := K0.out.rb.lt
  go_enter Try.func51, Try.ntmps51
  go_wp2_with fail
  exact bodyPost_ret (v := .tuple #[noZone, .bool false]) (by simp [results, Try.results51, go_sem, noZone, k0, k1, k2, k3]) rfl ⟨rfl, K0.out.bl.trans (((((Below.refl w.heap.size X).setCell (Nat.le_succ _) _).setCell (Nat.le_succ _) _).setCell (Nat.le_succ _) _).setCell (Nat.le_succ _) _)⟩
set_option maxRecDepth 100000 in
set_option maxHeartbeats 1000000 in
theorem rblock_f7 (h : Hd) (l : List Nat) (A : Option Addr) (B n c : Nat) (w : World) (hs : SB w B A n c l) (hB : B ≤ w.heap.size) (h0 : 1 ≤ h.types) (h1 : h.types ≤ 255) (h2 : h.times ≤ 4000) (h3 : 1 ≤ h.letters) (h4 : h.letters ≤ 4096) (h5 : h.leaps ≤ 1000) (h6 : h.stds ≠ 0 ∧ h.stds ≠ h.types) :
    Calls Try.prog 51 #[.slice A n c, hdArr h, .int .i64 8] w fun e w' => e = .returned (.tuple #[noZone, .bool false]) ∧ Below w.heap.size w w' := by
  have K0 := Lib.hid (Rk.start (h := h) hs hB)
  unfold hdArr
  obtain ⟨X, hX⟩ : ∃ X, ((w.alloc (.cells #[.int .i64 h.uts, .int .i64 h.stds, .int .i64 h.leaps, .int .i64 h.times, .int .i64 h.types, .int .i64 h.letters] 96)).alloc (.cells #[.slice none 0 0, .slice none 0 0, .slice none 0 0, .string ⟨#[]⟩] 31)).alloc (.cells #[.slice none 0 0, .slice none 0 0, .slice none 0 0, .string ⟨#[]⟩] 31) = X := ⟨_, rfl⟩
  rw [hX] at K0
  have Z0 : Hid (ZnBox X (w.heap.size + 2) (.slice none 0 0) (.slice none 0 0) (.slice none 0 0) (.string ⟨#[]⟩)) := Lib.hid (by rw [← hX]; exact ZnBox.new _ _ (by simp) _ _ _ _ _)
  have i2 : ¬ (h.types : Int) < 1 := by omega
  have i3 : ¬ (255 : Int) < (h.types : Int) := by omega
  have i4 : ¬ (4000 : Int) < (h.times : Int) := by omega
  have i5 : ¬ (h.letters : Int) < 1 := by omega
  have i6 : ¬ (4096 : Int) < (h.letters : Int) := by omega
  have i7 : ¬ (1000 : Int) < (h.leaps : Int) := by omega
  have s1 : ((h.stds : Int) != 0) = true := by simp; omega
  have s1b : ((h.stds : Int) != (h.types : Int)) = true := by simp; omega
  have s1c : (h.stds != h.types) = true := by simp; omega
  have g0 := h0
  have g1 := h1
  have g2 := h2
  have g3 := h3
  have g4 := h4
  have g5 := h5
  have g6 := h6
  clear hs hB h0 g0 h1 g1 h2 g2 h3 g3 h4 g4 h5 g5 h6 g6
  have q0 := K0.out.d0
  have q1 := K0.out.d1
  have q2 := K0.out.d2
  have q3 := K0.out.d3
  have q4 := K0.out.d4
  have q5 := K0.out.d5
  have z0 := Z0.out.c0
  have z1 := Z0.out.c1
  have z2 := Z0.out.c2
  have z3 := Z0.out.c3
  have k0 := K0.out.rb.c0
  have k1 := K0.out.rb.c1
  have k2 := K0.out.rb.c2
  have k3 := K0.out.rb.c3
  have f0 := K0.out.rb.fr 0
  have f1 := K0.out.rb.fr 1
  have f2 := K0.out.rb.fr 2
  have f3 := K0.out.rb.fr 3
  have HS1 := K0.out.rb.lt
  go_enter Try.func51, Try.ntmps51
  go_wp2_with fail
  exact bodyPost_ret (v := .tuple #[noZone, .bool false]) (by simp [results, Try.results51, go_sem, noZone, k0, k1, k2, k3]) rfl ⟨rfl, K0.out.bl.trans (((((Below.refl w.heap.size X).setCell (Nat.le_succ _) _).setCell (Nat.le_succ _) _).setCell (Nat.le_succ _) _).setCell (Nat.le_succ _) _)⟩
set_option maxRecDepth 100000 in
set_option maxHeartbeats 1000000 in
theorem rblock_f8 (h : Hd) (l : List Nat) (A : Option Addr) (B n c : Nat) (w : World) (hs : SB w B A n c l) (hB : B ≤ w.heap.size) (h0 : 1 ≤ h.types) (h1 : h.types ≤ 255) (h2 : h.times ≤ 4000) (h3 : 1 ≤ h.letters) (h4 : h.letters ≤ 4096) (h5 : h.leaps ≤ 1000) (h6 : h.stds = 0) (h7 : h.uts ≠ 0 ∧ h.uts ≠ h.types) :
    Calls Try.prog 51 #[.slice A n c, hdArr h, .int .i64 8] w fun e w' => e = .returned (.tuple #[noZone, .bool false]) ∧ Below w.heap.size w w' := by
  have K0 := Lib.hid (Rk.start (h := h) hs hB)
  unfold hdArr
  obtain ⟨X, hX⟩ : ∃ X, ((w.alloc (.cells #[.int .i64 h.uts, .int .i64 h.stds, .int .i64 h.leaps, .int .i64 h.times, .int .i64 h.types, .int .i64 h.letters] 96)).alloc (.cells #[.slice none 0 0, .slice none 0 0, .slice none 0 0, .string ⟨#[]⟩] 31)).alloc (.cells #[.slice none 0 0, .slice none 0 0, .slice none 0 0, .string ⟨#[]⟩] 31) = X := ⟨_, rfl⟩
  rw [hX] at K0
  have Z0 : Hid (ZnBox X (w.heap.size + 2) (.slice none 0 0) (.slice none 0 0) (.slice none 0 0) (.string ⟨#[]⟩)) := Lib.hid (by rw [← hX]; exact ZnBox.new _ _ (by simp) _ _ _ _ _)
  have i2 : ¬ (h.types : Int) < 1 := by omega
  have i3 : ¬ (255 : Int) < (h.types : Int) := by omega
  have i4 : ¬ (4000 : Int) < (h.times : Int) := by omega
  have i5 : ¬ (h.letters : Int) < 1 := by omega
  have i6 : ¬ (4096 : Int) < (h.letters : Int) := by omega
  have i7 : ¬ (1000 : Int) < (h.leaps : Int) := by omega
  have s1 : ((h.stds : Int) != 0) = false := by simp; omega
  have s2 : ((h.uts : Int) != 0) = true := by simp; omega
  have s2b : ((h.uts : Int) != (h.types : Int)) = true := by simp; omega
  have s2c : (h.uts != h.types) = true := by simp; omega
  have g0 := h0
  have g1 := h1
  have g2 := h2
  have g3 := h3
  have g4 := h4
  have g5 := h5
  have g6 := h6
  have g7 := h7
  clear hs hB h0 g0 h1 g1 h2 g2 h3 g3 h4 g4 h5 g5 h6 g6 h7 g7
  have q0 := K0.out.d0
  have q1 := K0.out.d1
  have q2 := K0.out.d2
  have q3 := K0.out.d3
  have q4 := K0.out.d4
  have q5 := K0.out.d5
  have z0 := Z0.out.c0
  have z1 := Z0.out.c1
  have z2 := Z0.out.c2
  have z3 := Z0.out.c3
  have k0 := K0.out.rb.c0
  have k1 := K0.out.rb.c1
  have k2 := K0.out.rb.c2
  have k3 := K0.out.rb.c3
  have f0 := K0.out.rb.fr 0
  have f1 := K0.out.rb.fr 1
  have f2 := K0.out.rb.fr 2
  have f3 := K0.out.rb.fr 3
  have HS1 := K0.out.rb.lt
  go_enter Try.func51, Try.ntmps51
  go_wp2_with fail
  exact bodyPost_ret (v := .tuple #[noZone, .bool false]) (by simp [results, Try.results51, go_sem, noZone, k0, k1, k2, k3]) rfl ⟨rfl, K0.out.bl.trans (((((Below.refl w.heap.size X).setCell (Nat.le_succ _) _).setCell (Nat.le_succ _) _).setCell (Nat.le_succ _) _).setCell (Nat.le_succ _) _)⟩
set_option maxRecDepth 100000 in
set_option maxHeartbeats 1000000 in
theorem rblock_f9 (h : Hd) (l : List Nat) (A : Option Addr) (B n c : Nat) (w : World) (hs : SB w B A n c l) (hB : B ≤ w.heap.size) (h0 : 1 ≤ h.types) (h1 : h.types ≤ 255) (h2 : h.times ≤ 4000) (h3 : 1 ≤ h.letters) (h4 : h.letters ≤ 4096) (h5 : h.leaps ≤ 1000) (h6 : h.stds ≠ 0 ∧ h.stds = h.types) (h7 : h.uts ≠ 0 ∧ h.uts ≠ h.types) :
    Calls Try.prog 51 #[.slice A n c, hdArr h, .int .i64 8] w fun e w' => e = .returned (.tuple #[noZone, .bool false]) ∧ Below w.heap.size w w' := by
  have K0 := Lib.hid (Rk.start (h := h) hs hB)
  unfold hdArr
  obtain ⟨X, hX⟩ : ∃ X, ((w.alloc (.cells #[.int .i64 h.uts, .int .i64 h.stds, .int .i64 h.leaps, .int .i64 h.times, .int .i64 h.types, .int .i64 h.letters] 96)).alloc (.cells #[.slice none 0 0, .slice none 0 0, .slice none 0 0, .string ⟨#[]⟩] 31)).alloc (.cells #[.slice none 0 0, .slice none 0 0, .slice none 0 0, .string ⟨#[]⟩] 31) = X := ⟨_, rfl⟩
  rw [hX] at K0
  have Z0 : Hid (ZnBox X (w.heap.size + 2) (.slice none 0 0) (.slice none 0 0) (.slice none 0 0) (.string ⟨#[]⟩)) := Lib.hid (by rw [← hX]; exact ZnBox.new _ _ (by simp) _ _ _ _ _)
  have i2 : ¬ (h.types : Int) < 1 := by omega
  have i3 : ¬ (255 : Int) < (h.types : Int) := by omega
  have i4 : ¬ (4000 : Int) < (h.times : Int) := by omega
  have i5 : ¬ (h.letters : Int) < 1 := by omega
  have i6 : ¬ (4096 : Int) < (h.letters : Int) := by omega
  have i7 : ¬ (1000 : Int) < (h.leaps : Int) := by omega
  have s1 : ((h.stds : Int) != 0) = true := by simp; omega
  have s1b : ((h.stds : Int) != (h.types : Int)) = false := by simp; omega
  have s1c : (h.stds != h.types) = false := by simp; omega
  have s2 : ((h.uts : Int) != 0) = true := by simp; omega
  have s2b : ((h.uts : Int) != (h.types : Int)) = true := by simp; omega
  have s2c : (h.uts != h.types) = true := by simp; omega
  have g0 := h0
  have g1 := h1
  have g2 := h2
  have g3 := h3
  have g4 := h4
  have g5 := h5
  have g6 := h6
  have g7 := h7
  clear hs hB h0 g0 h1 g1 h2 g2 h3 g3 h4 g4 h5 g5 h6 g6 h7 g7
  have q0 := K0.out.d0
  have q1 := K0.out.d1
  have q2 := K0.out.d2
  have q3 := K0.out.d3
  have q4 := K0.out.d4
  have q5 := K0.out.d5
  have z0 := Z0.out.c0
  have z1 := Z0.out.c1
  have z2 := Z0.out.c2
  have z3 := Z0.out.c3
  have k0 := K0.out.rb.c0
  have k1 := K0.out.rb.c1
  have k2 := K0.out.rb.c2
  have k3 := K0.out.rb.c3
  have f0 := K0.out.rb.fr 0
  have f1 := K0.out.rb.fr 1
  have f2 := K0.out.rb.fr 2
  have f3 := K0.out.rb.fr 3
  have HS1 := K0.out.rb.lt
  go_enter Try.func51, Try.ntmps51
  go_wp2_with fail
  exact bodyPost_ret (v := .tuple #[noZone, .bool false]) (by simp [results, Try.results51, go_sem, noZone, k0, k1, k2, k3]) rfl ⟨rfl, K0.out.bl.trans (((((Below.refl w.heap.size X).setCell (Nat.le_succ _) _).setCell (Nat.le_succ _) _).setCell (Nat.le_succ _) _).setCell (Nat.le_succ _) _)⟩
end Go.Proofs.Ytohpdpcjhmopbaa.Tz
