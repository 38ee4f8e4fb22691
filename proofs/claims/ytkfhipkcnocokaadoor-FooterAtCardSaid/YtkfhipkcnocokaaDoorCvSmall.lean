/-
  The small calls of package civil, and of the document's own answer: which year has a day more, how long a month is, and so on.
-/
import Derived.Test.YtkfhipkcnocokaaDoorRows
import Derived.Test.YtkfhipkcnocokaaDoorCvPlain
import Derived.WalkKit
import Derived.WalkSpells
import Derived.WalkLawsBesides
import Derived.Deep.QuietTactic
import Derived.BigQuiet
import Derived.Lib.Hide
import Derived.Lib.LaidTab
import Derived.LoopTactic
import Derived.Outline
import Derived.ProofKit
namespace Go.Proofs.YtkfhipkcnocokaaDoor.Cv
open Go.RowKit

theorem quiet_mine {P : Program} {f : FuncId} {args : Array Value} {w : World} {n : Nat} {v : Value}
    (h : Calls P f args (w.drewN n) fun e w' => e = .returned v ∧ w.drewN n = w') : Calls P f args (w.drewN n) fun e w'' => e = .returned v ∧ ∃ m, w'' = w.drewN m :=
  h.mono fun _ _ ⟨he, hm⟩ => ⟨he, n, hm.symm⟩
theorem below_drewN {B : Nat} {a w : World} (h : Below B a w) : ∀ m, Below B a (w.drewN m)
  | 0 => h
  | m + 1 => (below_drewN h m).drew
theorem ret_int {k : IntKind} {a b : Int} (h : a = b) : Ending.returned (.int k a) = .returned (.int k b) := by rw [h]

set_option maxHeartbeats 400000 in
theorem within_low (n a b : Int) (w : World) (h : decide (a ≤ n) = false) :
    Calls Tryd.prog 81 #[.int .i64 n, .int .i64 a, .int .i64 b] w fun e w' => e = .returned (.bool false) ∧ w = w' := by
  go_enter Tryd.func81, Tryd.ntmps81
  go_wp2
  go_ret
  exact ⟨rfl, rfl⟩
set_option maxHeartbeats 400000 in
theorem within_at (n a b : Int) (c : Bool) (w : World) (h : decide (a ≤ n) = true) (h2 : decide (n ≤ b) = c) :
    Calls Tryd.prog 81 #[.int .i64 n, .int .i64 a, .int .i64 b] w fun e w' => e = .returned (.bool c) ∧ w = w' := by
  subst h2
  go_enter Tryd.func81, Tryd.ntmps81
  go_wp2
  go_ret
  exact ⟨rfl, rfl⟩
theorem within_any (n a b : Int) (w : World) :
    Calls Tryd.prog 81 #[.int .i64 n, .int .i64 a, .int .i64 b] w fun e w' => e = .returned (.bool (decide (a ≤ n) && decide (n ≤ b))) ∧ w = w' := by
  by_cases h : a ≤ n
  · have := within_at n a b (decide (n ≤ b)) w (decide_eq_true h) rfl
    rw [decide_eq_true h]; exact this
  · have := within_low n a b w (decide_eq_false h)
    rw [decide_eq_false h]; exact this
theorem within_yes (n a b : Int) (w : World) (h : a ≤ n ∧ n ≤ b) :
    Calls Tryd.prog 81 #[.int .i64 n, .int .i64 a, .int .i64 b] w fun e w' => e = .returned (.bool true) ∧ w = w' :=
  within_at n a b true w (decide_eq_true h.1) (decide_eq_true h.2)
theorem within_no (n a b : Int) (w : World) (h : ¬ (a ≤ n ∧ n ≤ b)) :
    Calls Tryd.prog 81 #[.int .i64 n, .int .i64 a, .int .i64 b] w fun e w' => e = .returned (.bool false) ∧ w = w' := by
  by_cases k : a ≤ n
  · exact within_at n a b false w (decide_eq_true k) (decide_eq_false fun q => h ⟨k, q⟩)
  · exact within_low n a b w (decide_eq_false k)

set_option maxHeartbeats 400000 in
theorem more_a (y : Int) (w : World) (h0 : 1 ≤ y) (h1 : y ≤ 9999) (h : (y % 4 == 0) = false) :
    Calls Tryd.prog 82 #[.int .i64 y] w fun e w' => e = .returned (.bool false) ∧ w = w' := by
  go_enter Tryd.func82, Tryd.ntmps82
  go_wp2
  go_ret
  exact ⟨rfl, rfl⟩
set_option maxHeartbeats 400000 in
theorem more_b (y : Int) (w : World) (h0 : 1 ≤ y) (h1 : y ≤ 9999) (h : (y % 4 == 0) = true) (h2 : (y % 100 != 0) = true) :
    Calls Tryd.prog 82 #[.int .i64 y] w fun e w' => e = .returned (.bool true) ∧ w = w' := by
  go_enter Tryd.func82, Tryd.ntmps82
  go_wp2
  go_ret
  exact ⟨rfl, rfl⟩
set_option maxHeartbeats 400000 in
theorem more_c (y : Int) (c : Bool) (w : World) (h0 : 1 ≤ y) (h1 : y ≤ 9999) (h : (y % 4 == 0) = true) (h2 : (y % 100 != 0) = false) (h3 : (y % 400 == 0) = c) :
    Calls Tryd.prog 82 #[.int .i64 y] w fun e w' => e = .returned (.bool c) ∧ w = w' := by
  go_enter Tryd.func82, Tryd.ntmps82
  go_wp2
  go_ret
  exact ⟨rfl, rfl⟩
theorem more_any (y : Int) (w : World) (h0 : 1 ≤ y) (h1 : y ≤ 9999) :
    Calls Tryd.prog 82 #[.int .i64 y] w fun e w' => e = .returned (.bool (leap y)) ∧ w = w' := by
  unfold leap
  cases h : (y % 4 == 0)
  · exact more_a y w h0 h1 h
  · cases h2 : (y % 100 != 0)
    · exact more_c y _ w h0 h1 h h2 rfl
    · exact more_b y w h0 h1 h h2

theorem more_at (y : Int) (c : Bool) (w : World) (h0 : 1 ≤ y) (h1 : y ≤ 9999) (h : leap y = c) :
    Calls Tryd.prog 82 #[.int .i64 y] w fun e w' => e = .returned (.bool c) ∧ w = w' := by
  subst h; exact more_any y w h0 h1
/-! How long a month is. -/
def tab : List Int := [31, 28, 31, 30, 31, 30, 31, 31, 30, 31, 30, 31]
/-- The table lies as its text lays it. -/
def Tab (w : World) : Prop := Lib.TabIs Tryd.prog w "clepsydra/civil.lengths" .i64 tab
theorem gTab : Tryd.prog.globalNamed "clepsydra/civil.lengths" = some 0 := by kernel_rfl
theorem Tab.at {w : World} (h : Tab w) (i : Nat) (hi : i < 12) : w.cell? ⟨0, i, none⟩ = some (.int .i64 (tab.getD i 0)) :=
  Lib.TabIs.cell h gTab i hi
theorem Tab.below {w w' : World} (h : Tab w) {B : Nat} (hb : Below B w w') (hB : w.heap.size ≤ B) : Tab w' := by
  unfold Tab Lib.TabIs World.var? at h ⊢
  rw [gTab] at h ⊢
  simp only [Option.bind_some] at h ⊢
  have hlt : 0 < w.heap.size := by
    rcases Nat.lt_or_ge 0 w.heap.size with h' | h'
    · exact h'
    · rw [Array.getElem?_eq_none h'] at h; cases h
  rw [hb.block 0 (by omega)]
  exact h
theorem Tab.drewN {w : World} (h : Tab w) (n : Nat) : Tab (w.drewN n) := h.below (below_drewN (Below.refl w.heap.size w) n) (Nat.le_refl _)
theorem mtab_tab : ∀ k : Nat, k < 12 → tab.getD k 0 = mtab ((k : Int) + 1) := by decide

set_option maxHeartbeats 400000 in
theorem long_noyear (y m : Int) (w : World) (h : ¬ (1 ≤ y ∧ y ≤ 9999)) :
    Calls Tryd.prog 67 #[.int .i64 y, .int .i64 m] w fun e w' => e = .returned (.int .i64 0) ∧ w = w' := by
  have H := Lib.hid h
  clear h
  go_enter Tryd.func67, Tryd.ntmps67
  go_wp2_with fail
  refine (within_no _ _ _ _ H.out).mono ?_
  rintro e w' ⟨rfl, rfl⟩
  go_wp2
  go_ret
  exact ⟨rfl, rfl⟩
set_option maxHeartbeats 400000 in
theorem long_nomonth (y m : Int) (w : World) (h : 1 ≤ y ∧ y ≤ 9999) (h2 : ¬ (1 ≤ m ∧ m ≤ 12)) :
    Calls Tryd.prog 67 #[.int .i64 y, .int .i64 m] w fun e w' => e = .returned (.int .i64 0) ∧ w = w' := by
  have H := Lib.hid h
  have H2 := Lib.hid h2
  clear h h2
  go_enter Tryd.func67, Tryd.ntmps67
  go_wp2_with fail
  refine (within_yes _ _ _ _ H.out).mono ?_
  rintro e w' ⟨rfl, rfl⟩
  go_wp2_with fail
  refine (within_no _ _ _ _ H2.out).mono ?_
  rintro e w' ⟨rfl, rfl⟩
  go_wp2
  go_ret
  exact ⟨rfl, rfl⟩
set_option maxHeartbeats 400000 in
theorem long_feb (y : Int) (w : World) (h : 1 ≤ y ∧ y ≤ 9999) (ht : Tab w) :
    Calls Tryd.prog 67 #[.int .i64 y, .int .i64 2] w fun e w' => e = .returned (.int .i64 (28 + lp y)) ∧ w = w' := by
  have hc := ht.at 1 (by omega)
  rw [show tab.getD 1 0 = 28 from rfl] at hc
  have H := Lib.hid h
  clear h ht
  cases hl : leap y
  all_goals
    have HL := Lib.hid hl
    clear hl
    go_enter Tryd.func67, Tryd.ntmps67
    go_wp2_with fail
    refine (within_yes _ _ _ _ H.out).mono ?_
    rintro e w' ⟨rfl, rfl⟩
    go_wp2_with fail
    refine (within_yes _ _ _ _ (by omega)).mono ?_
    rintro e w' ⟨rfl, rfl⟩
    go_wp2_with fail
    refine (more_at _ _ _ H.out.1 H.out.2 HL.out).mono ?_
    rintro e w' ⟨rfl, rfl⟩
    go_wp2
    go_ret
    exact ⟨ret_int (by unfold lp; rw [HL.out]; rfl), rfl⟩
set_option maxHeartbeats 400000 in
theorem long_else (y : Int) (k : Nat) (w : World) (h : 1 ≤ y ∧ y ≤ 9999) (hk : k < 12) (h2 : ((k : Int) + 1 == 2) = false) (ht : Tab w) :
    Calls Tryd.prog 67 #[.int .i64 y, .int .i64 ((k : Int) + 1)] w fun e w' => e = .returned (.int .i64 (mtab ((k : Int) + 1))) ∧ w = w' := by
  have hc := ht.at k hk
  rw [mtab_tab k hk] at hc
  generalize hv : mtab ((k : Int) + 1) = v at hc ⊢
  clear hv
  have H := Lib.hid h
  clear h ht
  go_enter Tryd.func67, Tryd.ntmps67
  go_wp2_with fail
  refine (within_yes _ _ _ _ H.out).mono ?_
  rintro e w' ⟨rfl, rfl⟩
  go_wp2_with fail
  refine (within_yes _ _ _ _ (by omega)).mono ?_
  rintro e w' ⟨rfl, rfl⟩
  go_wp2
  go_ret
  exact ⟨rfl, rfl⟩
theorem long_any (y m : Int) (w : World) (ht : Tab w) :
    Calls Tryd.prog 67 #[.int .i64 y, .int .i64 m] w fun e w' => e = .returned (.int .i64 (long y m)) ∧ w = w' := by
  by_cases h : 1 ≤ y ∧ y ≤ 9999
  · by_cases h2 : 1 ≤ m ∧ m ≤ 12
    · rw [long_in ⟨h.1, h.2, h2.1, h2.2⟩]
      unfold ml
      by_cases h3 : m = 2
      · rw [if_pos h3, h3]; exact long_feb y w h ht
      · rw [if_neg h3]
        obtain ⟨k, rfl⟩ : ∃ k : Nat, m = (k : Int) + 1 := ⟨(m - 1).toNat, by omega⟩
        exact long_else y k w h (by omega) (beq_eq_false_iff_ne.2 h3) ht
    · rw [long_out (by omega)]; exact long_nomonth y m w h h2
  · rw [long_out (by omega)]; exact long_noyear y m w h
theorem long_at (y m v : Int) (w : World) (h : long y m = v) (ht : Tab w) :
    Calls Tryd.prog 67 #[.int .i64 y, .int .i64 m] w fun e w' => e = .returned (.int .i64 v) ∧ w = w' := by
  subst h; exact long_any y m w ht
end Go.Proofs.YtkfhipkcnocokaaDoor.Cv
