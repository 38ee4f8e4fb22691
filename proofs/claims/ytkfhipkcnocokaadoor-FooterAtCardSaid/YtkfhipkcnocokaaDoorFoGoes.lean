/-
  Layer 7 (footer): which runes go with a run; strings.Clone.
-/
import Derived.Test.YtkfhipkcnocokaaDoorFoRune
namespace Go.Proofs.YtkfhipkcnocokaaDoor.Fo
open Go.RowKit

theorem index_any (s : ByteArray) (hs : Low s) (hz : s.size ≤ 1000) (r : Nat) (h : 128 ≤ r) (h2 : r ≤ 1114111) (w : World) :
    Calls Tryd.prog 84 #[.string s, .int .i32 r] w fun e w' => e = .returned (.int .i64 (-1)) ∧ Below w.heap.size w w' := by
  by_cases he : r = 65533
  · subst he; exact index_err s hs w
  · cases hv : Lib.validRune (r : Int) with
    | false => exact index_bad s r h hv he w
    | true => exact index_in s hs hz r h h2 hv he w
set_option maxHeartbeats 400000 in
theorem contains_high (s : ByteArray) (hs : Low s) (hz : s.size ≤ 1000) (r : Nat) (h : 128 ≤ r) (h2 : r ≤ 1114111) (w : World) :
    Calls Tryd.prog 72 #[.string s, .int .i32 r] w fun e w' => e = .returned (.bool false) ∧ Below w.heap.size w w' := by
  have HI : Hid (∀ V, Calls Tryd.prog 84 #[.string s, .int .i32 r] V fun e w' => e = .returned (.int .i64 (-1)) ∧ Below V.heap.size V w') := Lib.hid fun V => index_any s hs hz r h h2 V
  clear hs hz h h2
  go_enter Tryd.func72, Tryd.ntmps72
  go_wp2_with (first
    | (go_at_call 84; refine (HI.out _).mono ?_; rintro e V1 ⟨rfl, hb⟩; have HB := Lib.hid hb; clear hb)
    | fail)
  go_ret
  exact ⟨rfl, HB.out⟩
theorem contains_any (s : ByteArray) (hs : Low s) (hz : s.size ≤ 1000) (q : Nat → Bool) (hq : ∀ r, r < 128 → decide (0 ≤ Lib.indexByte s.data.toList r.toUInt8) = q r) (hh : ∀ r, 128 ≤ r → q r = false) (r : Nat) (h2 : r ≤ 1114111) (w : World) :
    Calls Tryd.prog 72 #[.string s, .int .i32 r] w fun e w' => e = .returned (.bool (q r)) ∧ Below w.heap.size w w' := by
  by_cases h : r < 128
  · refine (Tryd.strings_ContainsRune_ascii s (r : Int) w (by omega) (by omega)).mono ?_
    rintro e w' ⟨rfl, rfl⟩
    rw [Int.toNat_natCast, hq r h]
    exact ⟨rfl, Below.refl _ _⟩
  · rw [hh r (by omega)]
    exact contains_high s hs hz r (by omega) h2 w
/-- None; digits, + and -. -/
def mk0 : ByteArray := ⟨#[]⟩
def mk1 : ByteArray := ⟨#[48, 49, 50, 51, 52, 53, 54, 55, 56, 57, 43, 45]⟩
def dgm (r : Nat) : Bool := dgt r || (decide (r = 43) || decide (r = 45))
set_option maxRecDepth 100000 in
theorem mk1_at : ∀ r : Fin 128, decide (0 ≤ Lib.indexByte mk1.data.toList r.val.toUInt8) = dgm r.val := by decide +kernel
theorem contains_0 (r : Nat) (h : r ≤ 1114111) (w : World) : Calls Tryd.prog 72 #[.string ⟨#[]⟩, .int .i32 r] w fun e w' => e = .returned (.bool false) ∧ Below w.heap.size w w' :=
  contains_any ⟨#[]⟩ (fun b hb => by simp at hb) (by decide) (fun _ => false) (fun r _ => rfl) (fun _ _ => rfl) r h w
theorem contains_1 (r : Nat) (h : r ≤ 1114111) (w : World) : Calls Tryd.prog 72 #[.string ⟨#[48, 49, 50, 51, 52, 53, 54, 55, 56, 57, 43, 45]⟩, .int .i32 r] w fun e w' => e = .returned (.bool (dgm r)) ∧ Below w.heap.size w w' :=
  contains_any mk1 (by unfold Low mk1; decide) (by decide) dgm (fun r hr => mk1_at ⟨r, hr⟩) (fun r hr => by unfold dgm dgt; simp; omega) r h w
/-- The function literal of letterOr, its text in block B. -/
theorem goes_pays (o : ByteArray) (q : Nat → Bool) (B : Nat) (w : World) (hB : B < w.heap.size) (hc : w.cell? ⟨B, 0, none⟩ = some (.string o))
    (hq : ∀ r : Nat, r ≤ 1114111 → ∀ V, Calls Tryd.prog 72 #[.string o, .int .i32 (r : Int)] V fun e w' => e = .returned (.bool (q r)) ∧ Below V.heap.size V w') :
    PredGrows Tryd.prog 70 #[.pointer (some ⟨B, 0, none⟩)] (fun r => ltr r || q r) w := fun W x hx hb => by
  have hcW := cells_at B hb hB hc
  have HQ : Hid (∀ V, Calls Tryd.prog 72 #[.string o, .int .i32 (x : Int)] V fun e w' => e = .returned (.bool (q x)) ∧ Below V.heap.size V w') := Lib.hid (hq x hx)
  have HW1 : Hid (∀ V, Calls Tryd.prog 71 #[.int .i32 (x : Int), .int .i32 65, .int .i32 90] V fun e w' => e = .returned (.bool (decide (65 ≤ x ∧ x ≤ 90))) ∧ V = w') := Lib.hid fun V => by
    have := withinR_any (x : Int) 65 90 V
    rwa [show inB (x : Int) 65 90 = decide (65 ≤ x ∧ x ≤ 90) from inB_nat x 65 90] at this
  have HW2 : Hid (∀ V, Calls Tryd.prog 71 #[.int .i32 (x : Int), .int .i32 97, .int .i32 122] V fun e w' => e = .returned (.bool (decide (97 ≤ x ∧ x ≤ 122))) ∧ V = w') := Lib.hid fun V => by
    have := withinR_any (x : Int) 97 122 V
    rwa [show inB (x : Int) 97 122 = decide (97 ≤ x ∧ x ≤ 122) from inB_nat x 97 122] at this
  show Calls Tryd.prog 70 #[.int .i32 (x : Int), .pointer (some ⟨B, 0, none⟩)] W _
  show Calls _ _ _ _ fun e w' => e = .returned (.bool (ltr x || q x)) ∧ _
  unfold ltr
  clear hq hc hb
  generalize decide (65 ≤ x ∧ x ≤ 90) = b1 at *
  generalize decide (97 ≤ x ∧ x ≤ 122) = b2 at *
  generalize q x = b3 at *
  cases b1 with
  | true =>
    go_enter Tryd.func70, Tryd.ntmps70
    go_wp2_with (first
      | (go_at_call 71; refine (HW1.out _).mono ?_; clear HW1; rintro e V1 ⟨rfl, rfl⟩)
      | fail)
    go_ret
    exact ⟨rfl, Below.refl _ _⟩
  | false =>
    cases b2 with
    | true =>
      go_enter Tryd.func70, Tryd.ntmps70
      go_wp2_with (first
        | (go_at_call 71; refine (HW1.out _).mono ?_; clear HW1; rintro e V1 ⟨rfl, rfl⟩)
        | (go_at_call 71; refine (HW2.out _).mono ?_; clear HW2; rintro e V2 ⟨rfl, rfl⟩)
        | fail)
      go_ret
      exact ⟨rfl, Below.refl _ _⟩
    | false =>
      go_enter Tryd.func70, Tryd.ntmps70
      go_wp2_with (first
        | (go_at_call 71; refine (HW1.out _).mono ?_; clear HW1; rintro e V1 ⟨rfl, rfl⟩)
        | (go_at_call 71; refine (HW2.out _).mono ?_; clear HW2; rintro e V2 ⟨rfl, rfl⟩)
        | (go_at_call 72; refine (HQ.out _).mono ?_; clear HQ; rintro e V3 ⟨rfl, hb⟩; have HB := Lib.hid hb; clear hb)
        | fail)
      go_ret
      exact ⟨rfl, HB.out⟩
theorem ltr_0 (w : World) (B : Nat) (hB : B < w.heap.size) (hc : w.cell? ⟨B, 0, none⟩ = some (.string ⟨#[]⟩)) : PredGrows Tryd.prog 70 #[.pointer (some ⟨B, 0, none⟩)] ltr w := by
  have := goes_pays ⟨#[]⟩ (fun _ => false) B w hB hc contains_0
  rwa [show (fun r => ltr r || false) = ltr from funext fun r => Bool.or_false _] at this
theorem mrk_1 (w : World) (B : Nat) (hB : B < w.heap.size) (hc : w.cell? ⟨B, 0, none⟩ = some (.string ⟨#[48, 49, 50, 51, 52, 53, 54, 55, 56, 57, 43, 45]⟩)) : PredGrows Tryd.prog 70 #[.pointer (some ⟨B, 0, none⟩)] mrk w :=
  goes_pays ⟨#[48, 49, 50, 51, 52, 53, 54, 55, 56, 57, 43, 45]⟩ dgm B w hB hc contains_1
set_option maxHeartbeats 400000 in
theorem letterOr_any (o : ByteArray) (w : World) : Calls Tryd.prog 50 #[.string o] w fun e w' => e = .returned (.func (.func 70) #[] #[.pointer (some ⟨w.heap.size, 0, none⟩)]) ∧ w' = w.alloc (.cells #[.string o] 9) := by
  go_enter Tryd.func50, Tryd.ntmps50
  go_wp2_with fail
  go_ret
  exact ⟨rfl, rfl⟩
set_option maxHeartbeats 400000 in
theorem clone_any (s : ByteArray) (hs : s.size ≤ 100000) (w : World) : Calls Tryd.prog 86 #[.string s] w fun e w' => e = .returned (.string s) ∧ Below w.heap.size w w' := by
  have HC : Hid (∀ V, Calls Tryd.prog 101 #[.string s] V fun e w' => e = .returned (.string s) ∧ Below V.heap.size V w') := Lib.hid fun V => Tryd.stringslite_Clone s V (by omega)
  clear hs
  go_enter Tryd.func86, Tryd.ntmps86
  go_wp2_with (first
    | (go_at_call 101; refine (HC.out _).mono ?_; rintro e V1 ⟨rfl, hb⟩; have HB := Lib.hid hb; clear hb)
    | fail)
  go_ret
  exact ⟨rfl, HB.out⟩
end Go.Proofs.YtkfhipkcnocokaaDoor.Fo
