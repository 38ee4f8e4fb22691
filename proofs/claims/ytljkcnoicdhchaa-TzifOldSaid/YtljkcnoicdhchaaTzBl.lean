/-
  Layer 6 (tzif): a block that may not be.
-/
import Derived.Test.YtljkcnoicdhchaaTzBk
namespace Go.Proofs.Ytljkcnoicdhchaa.Tz
open Go.RowKit

set_option maxRecDepth 100000 in
set_option maxHeartbeats 400000 in
theorem block_a (h : Hd) (wd : Nat) (g : Nat) (w : World) (hm : mayB h = false) :
    Calls Try.prog 45 #[.pointer (some ⟨g, 0, none⟩), hdVal h, .int .i64 wd] w fun e w' => e = .returned (.tuple #[noZone, .bool false]) ∧ Below w.heap.size w w' := by
  have HM : Hid (∀ V, Calls Try.prog 54 #[hdVal h] V fun e w' => e = .returned (.bool false) ∧ Below V.heap.size V w') := Lib.hid fun V => by have := mayBe_any h V; rwa [hm] at this
  clear hm
  obtain ⟨version, uts, stds, leaps, times, types, letters⟩ := h
  unfold hdVal at HM ⊢
  simp only at HM ⊢
  obtain ⟨X, hX⟩ : ∃ X, (w.alloc (.cells #[.int .u8 version, .int .i64 uts, .int .i64 stds, .int .i64 leaps, .int .i64 times, .int .i64 types, .int .i64 letters] 60)).alloc (.cells #[.slice none 0 0, .slice none 0 0, .slice none 0 0, .string ⟨#[]⟩] 26) = X := ⟨_, rfl⟩
  have HB0 : Hid (Below w.heap.size w X) := Lib.hid (by rw [← hX]; exact ((Below.refl _ _).alloc (Nat.le_refl _) _).alloc (by simp) _)
  have HS : Hid (w.heap.size + 1 < X.heap.size) := Lib.hid (by rw [← hX]; simp)
  have HZ : Hid (∀ i u, (#[.slice none 0 0, .slice none 0 0, .slice none 0 0, .string ⟨#[]⟩] : Array Value)[i]? = some u → X.cell? ⟨w.heap.size + 1, i, none⟩ = some u) := Lib.hid fun i u hu => by rw [← hX]; exact cell_new _ _ _ _ i u (by simp) hu
  have HF : Hid (∀ i, X.frozen? ⟨w.heap.size + 1, i, none⟩ = false) := Lib.hid fun i => by rw [← hX]; exact frozen_of_row _ _ i _ _ (by have := heap_alloc_new (w.alloc (.cells #[.int .u8 version, .int .i64 uts, .int .i64 stds, .int .i64 leaps, .int .i64 times, .int .i64 types, .int .i64 letters] 60)) (.cells #[.slice none 0 0, .slice none 0 0, .slice none 0 0, .string ⟨#[]⟩] 26); simpa using this)
  have hq : ∀ i u, (#[.int .u8 version, .int .i64 uts, .int .i64 stds, .int .i64 leaps, .int .i64 times, .int .i64 types, .int .i64 letters] : Array Value)[i]? = some u → X.cell? ⟨w.heap.size, i, none⟩ = some u := fun i u hu => by
    rw [← hX]
    have h1 : Below (w.heap.size + 1) (w.alloc (.cells #[.int .u8 version, .int .i64 uts, .int .i64 stds, .int .i64 leaps, .int .i64 times, .int .i64 types, .int .i64 letters] 60)) ((w.alloc (.cells #[.int .u8 version, .int .i64 uts, .int .i64 stds, .int .i64 leaps, .int .i64 times, .int .i64 types, .int .i64 letters] 60)).alloc (.cells #[.slice none 0 0, .slice none 0 0, .slice none 0 0, .string ⟨#[]⟩] 26)) := (Below.refl _ _).alloc (by simp) _
    exact (h1.cell (p := ⟨w.heap.size, i, none⟩) (Nat.lt_succ_self _)).trans (cell_new w _ _ _ i u rfl hu)
  have q0 := hq 0 _ rfl
  have q1 := hq 1 _ rfl
  have q2 := hq 2 _ rfl
  have q3 := hq 3 _ rfl
  have q4 := hq 4 _ rfl
  have q5 := hq 5 _ rfl
  have q6 := hq 6 _ rfl
  clear hq
  go_enter Try.func45, Try.ntmps45
  go_wp2_with (first
    | (go_at_call 54; (try rw [hX]); refine (HM.out _).mono ?_; clear HM; rintro e V ⟨rfl, hb⟩; have HB1 := Lib.hid (HB0.out.trans (hb.mono HB0.out.size)); have k0 := cells_at (w.heap.size + 1) hb HS.out (HZ.out 0 _ rfl); have k1 := cells_at (w.heap.size + 1) hb HS.out (HZ.out 1 _ rfl); have k2 := cells_at (w.heap.size + 1) hb HS.out (HZ.out 2 _ rfl); have k3 := cells_at (w.heap.size + 1) hb HS.out (HZ.out 3 _ rfl); have HS1 := (Nat.lt_of_lt_of_le HS.out hb.size); have hf : ∀ o, V.frozen? ⟨w.heap.size + 1, o, none⟩ = false := (fun o => (hb.frozen (p := ⟨w.heap.size + 1, o, none⟩) HS.out).trans (HF.out o)); have f0 := hf 0; have f1 := hf 1; have f2 := hf 2; have f3 := hf 3; clear hb hf; clear hX q0 q1 q2 q3 q4 q5 q6)
    | fail)
  exact bodyPost_ret (v := .tuple #[noZone, .bool false]) (by simp [results, Try.results45, go_sem, noZone, k0, k1, k2, k3]) rfl ⟨rfl, ((((HB1.out.setCell (by simp) _).setCell (by simp) _).setCell (by simp) _).setCell (by simp) _)⟩
set_option maxRecDepth 100000 in
set_option maxHeartbeats 400000 in
theorem block_b (h : Hd) (wd : Nat) (l : List Nat) (B g : Nat) (w : World) (hr : Rd w B g l) (hw : wd = 4 ∨ wd = 8) (ho : HdOk h) (hm : mayB h = true) (hl : l.length < longN h wd) :
    Calls Try.prog 45 #[.pointer (some ⟨g, 0, none⟩), hdVal h, .int .i64 wd] w fun e w' => e = .returned (.tuple #[noZone, .bool false]) ∧ Below w.heap.size w w' := by
  have HM : Hid (∀ V, Calls Try.prog 54 #[hdVal h] V fun e w' => e = .returned (.bool true) ∧ Below V.heap.size V w') := Lib.hid fun V => by have := mayBe_any h V; rwa [hm] at this
  obtain ⟨N, hN⟩ : ∃ N, longN h wd = N := ⟨_, rfl⟩
  have HL : Hid (∀ V, Calls Try.prog 23 #[hdVal h, .int .i64 wd] V fun e w' => e = .returned (.int .i64 N) ∧ Below V.heap.size V w') := Lib.hid fun V => by have := blockLong_any h wd hw ho V; rwa [hN] at this
  rw [hN] at hl
  have HH : Hid (∀ V, Below w.heap.size w V → Calls Try.prog 46 #[.pointer (some ⟨g, 0, none⟩), .int .i64 N] V fun e w' => e = .returned (.bool false) ∧ V = w') := Lib.hid fun V hb => by
    have := has_any l B g N V (hr.below hb hr.lt)
    rwa [show decide ((N : Int) ≤ (l.length : Int)) = false by simp; omega] at this
  clear hm hr hl ho hN hw
  obtain ⟨version, uts, stds, leaps, times, types, letters⟩ := h
  unfold hdVal at HM HL ⊢
  simp only at HM HL ⊢
  obtain ⟨X, hX⟩ : ∃ X, (w.alloc (.cells #[.int .u8 version, .int .i64 uts, .int .i64 stds, .int .i64 leaps, .int .i64 times, .int .i64 types, .int .i64 letters] 60)).alloc (.cells #[.slice none 0 0, .slice none 0 0, .slice none 0 0, .string ⟨#[]⟩] 26) = X := ⟨_, rfl⟩
  have HB0 : Hid (Below w.heap.size w X) := Lib.hid (by rw [← hX]; exact ((Below.refl _ _).alloc (Nat.le_refl _) _).alloc (by simp) _)
  have HS : Hid (w.heap.size + 1 < X.heap.size) := Lib.hid (by rw [← hX]; simp)
  have HZ : Hid (∀ i u, (#[.slice none 0 0, .slice none 0 0, .slice none 0 0, .string ⟨#[]⟩] : Array Value)[i]? = some u → X.cell? ⟨w.heap.size + 1, i, none⟩ = some u) := Lib.hid fun i u hu => by rw [← hX]; exact cell_new _ _ _ _ i u (by simp) hu
  have HF : Hid (∀ i, X.frozen? ⟨w.heap.size + 1, i, none⟩ = false) := Lib.hid fun i => by rw [← hX]; exact frozen_of_row _ _ i _ _ (by have := heap_alloc_new (w.alloc (.cells #[.int .u8 version, .int .i64 uts, .int .i64 stds, .int .i64 leaps, .int .i64 times, .int .i64 types, .int .i64 letters] 60)) (.cells #[.slice none 0 0, .slice none 0 0, .slice none 0 0, .string ⟨#[]⟩] 26); simpa using this)
  have hq : ∀ i u, (#[.int .u8 version, .int .i64 uts, .int .i64 stds, .int .i64 leaps, .int .i64 times, .int .i64 types, .int .i64 letters] : Array Value)[i]? = some u → X.cell? ⟨w.heap.size, i, none⟩ = some u := fun i u hu => by
    rw [← hX]
    have h1 : Below (w.heap.size + 1) (w.alloc (.cells #[.int .u8 version, .int .i64 uts, .int .i64 stds, .int .i64 leaps, .int .i64 times, .int .i64 types, .int .i64 letters] 60)) ((w.alloc (.cells #[.int .u8 version, .int .i64 uts, .int .i64 stds, .int .i64 leaps, .int .i64 times, .int .i64 types, .int .i64 letters] 60)).alloc (.cells #[.slice none 0 0, .slice none 0 0, .slice none 0 0, .string ⟨#[]⟩] 26)) := (Below.refl _ _).alloc (by simp) _
    exact (h1.cell (p := ⟨w.heap.size, i, none⟩) (Nat.lt_succ_self _)).trans (cell_new w _ _ _ i u rfl hu)
  have q0 := hq 0 _ rfl
  have q1 := hq 1 _ rfl
  have q2 := hq 2 _ rfl
  have q3 := hq 3 _ rfl
  have q4 := hq 4 _ rfl
  have q5 := hq 5 _ rfl
  have q6 := hq 6 _ rfl
  clear hq
  go_enter Try.func45, Try.ntmps45
  go_wp2_with (first
    | (go_at_call 54; (try rw [hX]); refine (HM.out _).mono ?_; clear HM; rintro e V ⟨rfl, hb⟩; have HB1 := Lib.hid (HB0.out.trans (hb.mono HB0.out.size)); have HB2 := Lib.hid hb; have q0b := cells_at w.heap.size hb (Nat.lt_of_succ_lt HS.out) q0; have q1b := cells_at w.heap.size hb (Nat.lt_of_succ_lt HS.out) q1; have q2b := cells_at w.heap.size hb (Nat.lt_of_succ_lt HS.out) q2; have q3b := cells_at w.heap.size hb (Nat.lt_of_succ_lt HS.out) q3; have q4b := cells_at w.heap.size hb (Nat.lt_of_succ_lt HS.out) q4; have q5b := cells_at w.heap.size hb (Nat.lt_of_succ_lt HS.out) q5; have q6b := cells_at w.heap.size hb (Nat.lt_of_succ_lt HS.out) q6; clear hb hX q0 q1 q2 q3 q4 q5 q6)
    | (go_at_call 23; refine (HL.out _).mono ?_; clear HL; rintro e V2 ⟨rfl, hb⟩; have HB3 := Lib.hid (HB1.out.trans (hb.mono HB1.out.size)); have HB4 := Lib.hid (HB2.out.trans (hb.mono HB2.out.size)); clear hb)
    | (go_at_call 46; refine (HH.out _ HB3.out).mono ?_; clear HH; rintro e V ⟨rfl, rfl⟩; have hb := HB4.out; have k0 := cells_at (w.heap.size + 1) hb HS.out (HZ.out 0 _ rfl); have k1 := cells_at (w.heap.size + 1) hb HS.out (HZ.out 1 _ rfl); have k2 := cells_at (w.heap.size + 1) hb HS.out (HZ.out 2 _ rfl); have k3 := cells_at (w.heap.size + 1) hb HS.out (HZ.out 3 _ rfl); have HS1 := (Nat.lt_of_lt_of_le HS.out hb.size); have hf : ∀ o, V2.frozen? ⟨w.heap.size + 1, o, none⟩ = false := (fun o => (hb.frozen (p := ⟨w.heap.size + 1, o, none⟩) HS.out).trans (HF.out o)); have f0 := hf 0; have f1 := hf 1; have f2 := hf 2; have f3 := hf 3; clear hb hf)
    | fail)
  exact bodyPost_ret (v := .tuple #[noZone, .bool false]) (by simp [results, Try.results45, go_sem, noZone, k0, k1, k2, k3]) rfl ⟨rfl, ((((HB3.out.setCell (by simp) _).setCell (by simp) _).setCell (by simp) _).setCell (by simp) _)⟩
end Go.Proofs.Ytljkcnoicdhchaa.Tz
