/-
  Layer 7 (footer): the document's own switch.
-/
import Derived.Test.YtkfhipkcnocokaaDoorFoDoc1
namespace Go.Proofs.YtkfhipkcnocokaaDoor.Fo
open Go.RowKit
set_option maxRecDepth 100000

theorem bg_num (y : Int) : bg y = Cv.num y 1 1 := by unfold bg Cv.num; rw [Cv.cum_one]; omega
/-- What the document's Switch keeps: the day. -/
structure Dq (w V : World) (d : Dy) : Prop where
  d : DyAt V w.heap.size d
  b : Below w.heap.size w V
theorem Dq.start (w : World) (d : Dy) (ty : TypeId) : Dq w (w.alloc (.cells #[.int .u8 d.kind, .int .i64 d.month, .int .i64 d.week, .int .i64 d.day, .int .i64 d.time] ty)) d :=
  ⟨DyAt.new w d ty, (Below.refl w.heap.size w).alloc (Nat.le_refl _) _⟩
set_option maxHeartbeats 1600000 in
theorem dswitch_j (mo wk dd tt y : Int) (h0 : 1 ≤ y) (h1 : y ≤ 9999) (d0 : 1 ≤ dd) (d1 : dd ≤ 365) (t0 : -604799 ≤ tt) (t1 : tt ≤ 604799) (c : Bool) (hc : Cv.leap y = c) (n : Int) (hn : n = if c && decide (59 < dd) then bg y + dd else bg y + dd - 1) (w : World) :
    Calls Tryd.prog 20 #[dyV ⟨1, mo, wk, dd, tt⟩, .int .i64 y] w fun e w' => e = .returned (.int .i64 (n * 86400 + tt)) ∧ Below w.heap.size w w' := by
  have K := Lib.hid (Dq.start w ⟨1, mo, wk, dd, tt⟩ 27)
  have hb := bg_bd (y := y) (by omega) (by omega)
  have HB := Lib.hid (begins_any y (by omega) (by omega))
  have HL := Lib.hid (dleap_at y c (by omega) hc)
  generalize bg y = g at *
  have w1 : wrap64 (g + dd) = g + dd := w_id (by omega) (by omega)
  have w2 : wrap64 (g + dd - 1) = g + dd - 1 := w_id (by omega) (by omega)
  have w3 : wrap64 (g + dd - 1 + 1) = g + dd := by rw [show g + dd - 1 + 1 = g + dd by omega]; exact w1
  clear hc
  cases c with
  | false =>
    obtain rfl : n = g + dd - 1 := hn
    have w4 : wrap64 ((g + dd - 1) * 86400) = (g + dd - 1) * 86400 := w_id (by omega) (by omega)
    have w5 : wrap64 ((g + dd - 1) * 86400 + tt) = (g + dd - 1) * 86400 + tt := w_id (by omega) (by omega)
    go_enter Tryd.func20, Tryd.ntmps20
    go_wp2_with (first
      | (go_at_call 46; refine (HB.out _).mono ?_; clear HB; rintro e V ⟨rfl, rfl⟩)
      | (go_at_call 47; refine (HL.out _).mono ?_; clear HL; rintro e V ⟨rfl, rfl⟩)
      | fail)
    go_ret
    exact ⟨rfl, K.out.b⟩
  | true =>
    by_cases h59 : 59 < dd
    · obtain rfl : n = g + dd := by rw [hn]; simp [h59]
      have w4 : wrap64 ((g + dd) * 86400) = (g + dd) * 86400 := w_id (by omega) (by omega)
      have w5 : wrap64 ((g + dd) * 86400 + tt) = (g + dd) * 86400 + tt := w_id (by omega) (by omega)
      clear hn
      go_enter Tryd.func20, Tryd.ntmps20
      go_wp2_with (first
        | (go_at_call 46; refine (HB.out _).mono ?_; clear HB; rintro e V ⟨rfl, rfl⟩)
        | (go_at_call 47; refine (HL.out _).mono ?_; clear HL; rintro e V ⟨rfl, rfl⟩)
        | fail)
      go_ret
      exact ⟨rfl, K.out.b⟩
    · obtain rfl : n = g + dd - 1 := by rw [hn]; simp [h59]
      have w4 : wrap64 ((g + dd - 1) * 86400) = (g + dd - 1) * 86400 := w_id (by omega) (by omega)
      have w5 : wrap64 ((g + dd - 1) * 86400 + tt) = (g + dd - 1) * 86400 + tt := w_id (by omega) (by omega)
      clear hn
      go_enter Tryd.func20, Tryd.ntmps20
      go_wp2_with (first
        | (go_at_call 46; refine (HB.out _).mono ?_; clear HB; rintro e V ⟨rfl, rfl⟩)
        | (go_at_call 47; refine (HL.out _).mono ?_; clear HL; rintro e V ⟨rfl, rfl⟩)
        | fail)
      go_ret
      exact ⟨rfl, K.out.b⟩
set_option maxHeartbeats 1600000 in
theorem dswitch_z (mo wk dd tt y : Int) (h0 : 1 ≤ y) (h1 : y ≤ 9999) (d0 : 0 ≤ dd) (d1 : dd ≤ 365) (t0 : -604799 ≤ tt) (t1 : tt ≤ 604799) (w : World) :
    Calls Tryd.prog 20 #[dyV ⟨2, mo, wk, dd, tt⟩, .int .i64 y] w fun e w' => e = .returned (.int .i64 ((bg y + dd) * 86400 + tt)) ∧ Below w.heap.size w w' := by
  have K := Lib.hid (Dq.start w ⟨2, mo, wk, dd, tt⟩ 27)
  have hb := bg_bd (y := y) (by omega) (by omega)
  have HB := Lib.hid (begins_any y (by omega) (by omega))
  generalize bg y = g at *
  have w1 : wrap64 (g + dd) = g + dd := w_id (by omega) (by omega)
  have w4 : wrap64 ((g + dd) * 86400) = (g + dd) * 86400 := w_id (by omega) (by omega)
  have w5 : wrap64 ((g + dd) * 86400 + tt) = (g + dd) * 86400 + tt := w_id (by omega) (by omega)
  go_enter Tryd.func20, Tryd.ntmps20
  go_wp2_with (first
    | (go_at_call 46; refine (HB.out _).mono ?_; clear HB; rintro e V ⟨rfl, rfl⟩)
    | fail)
  go_ret
  exact ⟨rfl, K.out.b⟩
/-- The first such day of a month; how many there are ahead of a day; the last one of them that is asked for. -/
def fst7 (n dd : Int) : Int := (dd + 7 - Cv.wday n) % 7
def cnt7 (f k : Int) : Int := (k + 6 - f) / 7
def at7 (n f wk k : Int) : Int := if min wk (cnt7 f k) ≤ 0 then -1 else n + f + 7 * (min wk (cnt7 f k) - 1)
theorem week_is (n dd k : Int) (d0 : 0 ≤ dd) (d1 : dd ≤ 6) (k0 : 0 ≤ k) : ((n + k + 4).tmod 7 + 7).tmod 7 = dd ↔ (fst7 n dd ≤ k ∧ (k - fst7 n dd) % 7 = 0) := by
  have h1 := Int.mul_tdiv_add_tmod (n + k + 4) 7
  have h2 := Int.lt_tmod_of_pos (n + k + 4) (show (0 : Int) < 7 by decide)
  have h3 := Int.tmod_lt_of_pos (n + k + 4) (show (0 : Int) < 7 by decide)
  rw [tm_pos (show (0 : Int) ≤ (n + k + 4).tmod 7 + 7 by omega)]
  unfold fst7 Cv.wday
  omega
end Go.Proofs.YtkfhipkcnocokaaDoor.Fo
