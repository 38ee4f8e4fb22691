/-
  Layer 7 (footer): the document's own names, as they are put.
-/
import Derived.Test.YtkfhipkcnocokaaDoorFoRef
import Derived.Test.YtkfhipkcnocokaaDoorFoText4
namespace Go.Proofs.YtkfhipkcnocokaaDoor.Fo
open Go.RowKit
set_option maxRecDepth 100000

set_option maxHeartbeats 400000 in
theorem rput_any (l : List UInt8) (hl : l.length ≤ 100) (w : World) : Calls Tryd.prog 31 #[.string (bs l)] w fun e w' => e = .returned (.string (bs (namL l))) ∧ w = w' := by
  have HP : Hid (∀ V, Calls Tryd.prog 55 #[.string (bs l)] V fun e w' => e = .returned (.bool (l.all fun b => ltr b.toNat)) ∧ V = w') := Lib.hid fun V => by
    have := rplain_any (bs l) (by rw [bs_size]; omega) V
    rwa [bs_list] at this
  have a1 : ∀ W, (Op.stringOp .add (bs [60]) (bs l)).run Tryd.prog W = .ok (.string (bs (60 :: l))) W := add_bs [60] _ _ rfl (by simp only [List.length_cons]; omega)
  have a2 : ∀ W, (Op.stringOp .add (bs (60 :: l)) (bs [62])).run Tryd.prog W = .ok (.string (bs (60 :: l ++ [62]))) W := add_bs _ [62] _ rfl (by simp only [List.length_cons, List.length_append, List.length_nil]; omega)
  unfold namL
  clear hl
  generalize (l.all fun b => ltr b.toNat) = c at *
  cases c with
  | true =>
    simp only [if_true]
    generalize bs l = S at *
    go_enter Tryd.func31, Tryd.ntmps31
    go_wp2_with (first
      | (go_at_call 55; refine (HP.out _).mono ?_; clear HP; rintro e V2 ⟨rfl, rfl⟩)
      | fail)
    go_ret
    exact ⟨rfl, rfl⟩
  | false =>
    simp only [Bool.false_eq_true, if_false]
    generalize bs (60 :: l ++ [62]) = S2 at *
    generalize bs (60 :: l) = S1 at *
    generalize bs l = S at *
    go_enter Tryd.func31, Tryd.ntmps31
    go_wp2_with (first
      | (go_at_call 55; refine (HP.out _).mono ?_; clear HP; rintro e V2 ⟨rfl, rfl⟩)
      | fail)
    go_ret
    exact ⟨rfl, rfl⟩
set_option maxHeartbeats 400000 in
theorem roff_any (n : Int) (w : World) : Calls Tryd.prog 26 #[.int .i64 n] w fun e w' => e = .returned (.bool (offB n)) ∧ w = w' := by
  unfold offB inB
  by_cases h : (-89999 : Int) ≤ n
  · rw [decide_eq_true h, Bool.true_and]
    go_enter Tryd.func26, Tryd.ntmps26
    go_wp2
    go_ret
    exact ⟨rfl, rfl⟩
  · rw [decide_eq_false h, Bool.false_and]
    go_enter Tryd.func26, Tryd.ntmps26
    go_wp2
    go_ret
    exact ⟨rfl, rfl⟩
end Go.Proofs.YtkfhipkcnocokaaDoor.Fo
