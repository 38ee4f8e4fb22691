/-
  The document's own answer for the calendar: what its functions tell, by counting.
-/
import Derived.Test.YtcllimfaoajapabDoorCvFrom
import Derived.Deep.RegionHeld3
namespace Go.Proofs.YtcllimfaoajapabDoor.Cv
open Go.RowKit

set_option maxHeartbeats 400000 in
theorem rlong_y0 (y m : Int) (w : World) (h : y < 1) :
    Calls Tryd.prog 14 #[.int .i64 y, .int .i64 m] w fun e w' => e = .returned (.int .i64 0) ∧ Below w.heap.size w w' := by
  go_enter Tryd.func14, Tryd.ntmps14
  go_wp2
  go_ret
  exact ⟨rfl, Below.refl _ _⟩
set_option maxHeartbeats 400000 in
theorem rlong_y1 (y m : Int) (w : World) (h0 : ¬ y < 1) (h : 9999 < y) :
    Calls Tryd.prog 14 #[.int .i64 y, .int .i64 m] w fun e w' => e = .returned (.int .i64 0) ∧ Below w.heap.size w w' := by
  go_enter Tryd.func14, Tryd.ntmps14
  go_wp2
  go_ret
  exact ⟨rfl, Below.refl _ _⟩
set_option maxHeartbeats 400000 in
theorem rlong_m0 (y m : Int) (w : World) (h0 : ¬ y < 1) (h : ¬ 9999 < y) (h2 : m < 1) :
    Calls Tryd.prog 14 #[.int .i64 y, .int .i64 m] w fun e w' => e = .returned (.int .i64 0) ∧ Below w.heap.size w w' := by
  go_enter Tryd.func14, Tryd.ntmps14
  go_wp2
  go_ret
  exact ⟨rfl, Below.refl _ _⟩
set_option maxHeartbeats 400000 in
theorem rlong_m1 (y m : Int) (w : World) (h0 : ¬ y < 1) (h : ¬ 9999 < y) (h2 : ¬ m < 1) (h3 : 12 < m) :
    Calls Tryd.prog 14 #[.int .i64 y, .int .i64 m] w fun e w' => e = .returned (.int .i64 0) ∧ Below w.heap.size w w' := by
  go_enter Tryd.func14, Tryd.ntmps14
  go_wp2
  go_ret
  exact ⟨rfl, Below.refl _ _⟩
set_option maxHeartbeats 400000 in
theorem rlong_feb (y : Int) (w : World) (h0 : ¬ y < 1) (h : ¬ 9999 < y) :
    Calls Tryd.prog 14 #[.int .i64 y, .int .i64 2] w fun e w' => e = .returned (.int .i64 (28 + lp y)) ∧ Below w.heap.size w w' := by
  cases hl : leap y
  · have HL := Lib.hid hl
    clear hl
    go_enter Tryd.func14, Tryd.ntmps14
    go_wp2_with fail
    refine (rleap_at y false _ (by omega) (by omega) HL.out).mono ?_
    rintro e w' ⟨rfl, rfl⟩
    go_wp2
    go_ret
    exact ⟨ret_int (by unfold lp; rw [HL.out]; rfl), (Below.refl _ _).alloc (Nat.le_refl _) _⟩
  · have HL := Lib.hid hl
    clear hl
    go_enter Tryd.func14, Tryd.ntmps14
    go_wp2_with fail
    refine (rleap_at y true _ (by omega) (by omega) HL.out).mono ?_
    rintro e w' ⟨rfl, rfl⟩
    go_wp2
    go_ret
    exact ⟨ret_int (by unfold lp; rw [HL.out]; rfl), Below.refl _ _⟩
set_option maxHeartbeats 4000000 in
theorem rlong_else (y m : Int) (w : World) (h0 : ¬ y < 1) (h : ¬ 9999 < y) (hm : m = 1 ∨ m = 3 ∨ m = 4 ∨ m = 5 ∨ m = 6 ∨ m = 7 ∨ m = 8 ∨ m = 9 ∨ m = 10 ∨ m = 11 ∨ m = 12) :
    Calls Tryd.prog 14 #[.int .i64 y, .int .i64 m] w fun e w' => e = .returned (.int .i64 (mtab m)) ∧ Below w.heap.size w w' := by
  rcases hm with rfl | rfl | rfl | rfl | rfl | rfl | rfl | rfl | rfl | rfl | rfl
  all_goals
    go_enter Tryd.func14, Tryd.ntmps14
    go_wp2
    go_ret
    exact ⟨rfl, (Below.refl _ _).alloc (Nat.le_refl _) _⟩
theorem rlong_any (y m : Int) (w : World) :
    Calls Tryd.prog 14 #[.int .i64 y, .int .i64 m] w fun e w' => e = .returned (.int .i64 (long y m)) ∧ Below w.heap.size w w' := by
  by_cases h : 1 ≤ y ∧ y ≤ 9999 ∧ 1 ≤ m ∧ m ≤ 12
  · rw [long_in h]
    unfold ml
    by_cases h3 : m = 2
    · rw [if_pos h3, h3]; exact rlong_feb y w (by omega) (by omega)
    · rw [if_neg h3]; exact rlong_else y m w (by omega) (by omega) (by omega)
  · rw [long_out h]
    by_cases h1 : y < 1
    · exact rlong_y0 y m w h1
    · by_cases h2 : 9999 < y
      · exact rlong_y1 y m w h1 h2
      · by_cases h3 : m < 1
        · exact rlong_m0 y m w h1 h2 h3
        · exact rlong_m1 y m w h1 h2 h3 (by omega)
theorem rlong_at (y m v : Int) (w : World) (h : long y m = v) :
    Calls Tryd.prog 14 #[.int .i64 y, .int .i64 m] w fun e w' => e = .returned (.int .i64 v) ∧ Below w.heap.size w w' := by
  subst h; exact rlong_any y m w

set_option maxHeartbeats 400000 in
theorem ryear_any (y : Int) (w : World) (h0 : 1 ≤ y) (h1 : y ≤ 9999) :
    Calls Tryd.prog 28 #[.int .i64 y] w fun e w' => e = .returned (.int .i64 (yl y)) ∧ w = w' := by
  cases hl : leap y
  all_goals
    have HL := Lib.hid hl
    clear hl
    go_enter Tryd.func28, Tryd.ntmps28
    go_wp2_with fail
    refine (rleap_at y _ _ h0 h1 HL.out).mono ?_
    rintro e w' ⟨rfl, rfl⟩
    go_wp2
    go_ret
    exact ⟨ret_int (by unfold yl lp; rw [HL.out]; rfl), rfl⟩

set_option maxHeartbeats 400000 in
theorem rwday (n : Int) (w : World) (h : -719162 ≤ n ∧ n ≤ 2932896) :
    Calls Tryd.prog 18 #[.int .i64 n] w fun e w' => e = .returned (.int .i64 (wday n)) ∧ w = w' := by
  have hr : n.tmod 7 = if 0 ≤ n then n % 7 else - ((-n) % 7) := by
    split
    · exact Int.tmod_eq_emod_of_nonneg ‹_›
    · rw [show n = - (-n) by omega, Int.neg_tmod, Int.tmod_eq_emod_of_nonneg (by omega)]; simp
  have hb : -7 < n.tmod 7 ∧ n.tmod 7 < 7 := by rw [hr]; split <;> omega
  have HW := Lib.hid (show (n.tmod 7 + 7 + 3) % 7 + 1 = wday n by rw [hr]; unfold wday; split <;> omega)
  clear hr
  obtain ⟨hb1, hb2⟩ := hb
  go_enter Tryd.func18, Tryd.ntmps18
  go_wp2
  go_ret
  exact ⟨ret_int HW.out, rfl⟩

set_option maxHeartbeats 400000 in
theorem plain_any (y m d : Int) (w : World) :
    Calls Tryd.prog 9 #[dv y m d] w fun e w' => e = .returned (dv y m d) ∧ Below w.heap.size w w' := by
  go_enter Tryd.func9, Tryd.ntmps9
  go_wp2
  exact bodyPost_ret (v := dv y m d) (by simp [results, Tryd.results9, go_sem]) rfl ⟨rfl, ((Below.refl _ _).alloc (Nat.le_refl _) _).alloc (by simp) _⟩

/-- The cells of a date in a block. -/
def DateAt (B : Nat) (y m d : Int) (w : World) : Prop :=
  w.cell? ⟨B, 0, none⟩ = some (.int .i64 y) ∧ w.cell? ⟨B, 1, none⟩ = some (.int .i64 m) ∧ w.cell? ⟨B, 2, none⟩ = some (.int .i64 d)
theorem DateAt.below {B C : Nat} {y m d : Int} {w w' : World} (k : DateAt B y m d w) (hb : Below C w w') (hB : B < C) : DateAt B y m d w' := by
  unfold DateAt at k ⊢
  rw [hb.cell (p := ⟨B, 0, none⟩) hB, hb.cell (p := ⟨B, 1, none⟩) hB, hb.cell (p := ⟨B, 2, none⟩) hB]
  exact k
theorem date_new (y m d : Int) (w : World) (t : TypeId) : DateAt w.heap.size y m d (w.alloc (.cells #[.int .i64 y, .int .i64 m, .int .i64 d] t)) := by
  unfold DateAt; simp [go_sem]
theorem DateAt.out {B : Nat} {y m d : Int} {W u : World} (k : DateAt B y m d W) (hB : B < W.heap.size) (hb : Below W.heap.size W u) :
    u.cell? ⟨B, 0, none⟩ = some (.int .i64 y) ∧ u.cell? ⟨B, 1, none⟩ = some (.int .i64 m) ∧ u.cell? ⟨B, 2, none⟩ = some (.int .i64 d) ∧ Below W.heap.size W u := by
  obtain ⟨a, b, c⟩ := k.below hb hB
  exact ⟨a, b, c, hb⟩
theorem rlong_k (W u : World) (y m : Int) (hk : Below W.heap.size W u) :
    Calls Tryd.prog 14 #[.int .i64 y, .int .i64 m] u fun e w' => e = .returned (.int .i64 (long y m)) ∧ Below W.heap.size W w' :=
  (rlong_any y m u).mono fun _ _ ⟨he, hb⟩ => ⟨he, hk.trans (hb.mono hk.size)⟩

set_option maxHeartbeats 400000 in
theorem rright_low (y m d : Int) (w : World) (h : decide (1 ≤ d) = false) :
    Calls Tryd.prog 12 #[dv y m d] w fun e w' => e = .returned (.bool false) ∧ Below w.heap.size w w' := by
  go_enter Tryd.func12, Tryd.ntmps12
  go_wp2_with fail
  go_quiet (fail)
  go_wp2
  go_ret
  exact ⟨rfl, below_drewN ((Below.refl _ _).alloc (Nat.le_refl _) _) _⟩
set_option maxHeartbeats 400000 in
theorem rright_high (y m d : Int) (w : World) (h : decide (1 ≤ d) = true) (r : Bool) (hr : decide (d ≤ long y m) = r) :
    Calls Tryd.prog 12 #[dv y m d] w fun e w' => e = .returned (.bool r) ∧ Below w.heap.size w w' := by
  have HR := Lib.hid hr
  have hw0 := date_new y m d w 24
  have hwb := (Below.refl w.heap.size w).alloc (Nat.le_refl _) (.cells #[.int .i64 y, .int .i64 m, .int .i64 d] 24)
  have hsz : w.heap.size < (w.alloc (.cells #[.int .i64 y, .int .i64 m, .int .i64 d] 24)).heap.size := by simp
  clear hr
  go_enter Tryd.func12, Tryd.ntmps12
  go_wp2_with fail
  generalize w.alloc (.cells #[.int .i64 y, .int .i64 m, .int .i64 d] 24) = W at *
  have HW := Lib.hid hw0
  have HB := Lib.hid hwb
  have HS := Lib.hid hsz
  clear hw0 hwb hsz
  go_region_held3 (fun u => u.cell? ⟨w.heap.size, 0, none⟩ = some (.int .i64 y) ∧ u.cell? ⟨w.heap.size, 1, none⟩ = some (.int .i64 m) ∧ u.cell? ⟨w.heap.size, 2, none⟩ = some (.int .i64 d) ∧ Below W.heap.size W u)
    (first | exact DateAt.out HW.out HS.out (by assumption) | exact DateAt.out HW.out HS.out (Below.refl _ _).drew)
    (first | (go_at_call 14; (with_reducible refine (rlong_k W _ y m (by first | assumption | exact (Below.refl _ _).drew)).mono ?_); rintro e w' ⟨rfl, hk⟩))
  go_wp2
  go_ret
  exact ⟨by rw [HR.out]; rfl, HB.out.trans (hk.mono (Nat.le_of_lt HS.out))⟩
theorem rright_at (y m d : Int) (c : Bool) (w : World) (h : right y m d = c) :
    Calls Tryd.prog 12 #[dv y m d] w fun e w' => e = .returned (.bool c) ∧ Below w.heap.size w w' := by
  unfold right at h
  by_cases k : 1 ≤ d
  · rw [decide_eq_true k, Bool.true_and] at h; exact rright_high y m d w (decide_eq_true k) c h
  · rw [decide_eq_false k, Bool.false_and] at h; subst h; exact rright_low y m d w (decide_eq_false k)
end Go.Proofs.YtcllimfaoajapabDoor.Cv
