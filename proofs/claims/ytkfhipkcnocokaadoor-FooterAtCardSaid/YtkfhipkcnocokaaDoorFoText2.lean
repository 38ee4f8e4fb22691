/-
  Layer 7 (footer): numbers and times as texts, on (ways by gen_fo7x.py).
-/
import Derived.Test.YtkfhipkcnocokaaDoorFoText
namespace Go.Proofs.YtkfhipkcnocokaaDoor.Fo
open Go.RowKit
set_option maxRecDepth 100000
set_option maxHeartbeats 800000 in
theorem tput_b (n : Nat) (hn : n ≤ 700000) (h1 : n % 3600 ≠ 0) (h2 : n % 60 = 0) (w : World) (hp : Pw w) : Calls Tryd.prog 23 #[.int .i64 n] w fun e w' => e = .returned (.string (bs (absL n))) ∧ Below w.heap.size w w' := by
  have L0 := dec_len 2 (n / 3600) (by omega)
  have L1 := six_len (n := n % 3600 / 60) (by omega)
  have L2 := six_len (n := n % 60) (by omega)
  have H0 : Hid (∀ V, Pw V → Calls Tryd.prog 51 #[.int .i64 ((n / 3600 : Nat) : Int)] V fun e w' => e = .returned (.string (bs (dec (n / 3600)))) ∧ Below V.heap.size V w') := Lib.hid fun V hV => itoa_any _ (by omega) V hV
  have H1 : Hid (∀ V, Pw V → Calls Tryd.prog 52 #[.int .i64 ((n % 3600 / 60 : Nat) : Int)] V fun e w' => e = .returned (.string (bs (sixL (n % 3600 / 60)))) ∧ Below V.heap.size V w') := Lib.hid fun V hV => sixtieth_put _ (by omega) V hV
  have H2 : Hid (∀ V, Pw V → Calls Tryd.prog 52 #[.int .i64 ((n % 60 : Nat) : Int)] V fun e w' => e = .returned (.string (bs (sixL (n % 60)))) ∧ Below V.heap.size V w') := Lib.hid fun V hV => sixtieth_put _ (by omega) V hV
  have q1 : (n : Int).tdiv 3600 = ((n / 3600 : Nat) : Int) := by rw [Int.tdiv_eq_ediv_of_nonneg (by omega)]; rfl
  have q2 : (n : Int).tmod 3600 = ((n % 3600 : Nat) : Int) := by rw [Int.tmod_eq_emod_of_nonneg (by omega)]; rfl
  have q3 : ((n % 3600 : Nat) : Int).tdiv 60 = ((n % 3600 / 60 : Nat) : Int) := by rw [Int.tdiv_eq_ediv_of_nonneg (by omega)]; rfl
  have q4 : (n : Int).tmod 60 = ((n % 60 : Nat) : Int) := by rw [Int.tmod_eq_emod_of_nonneg (by omega)]; rfl
  have c0 : ¬ ((n : Nat) : Int) < 0 := Int.not_lt.mpr (Int.natCast_nonneg n)
  have c1 : (((n % 3600 : Nat) : Int) != 0) = true := bne_iff_ne.mpr (by omega)
  have c2 : (((n % 60 : Nat) : Int) != 0) = false := (congrArg (fun x : Int => x != 0) (show ((n % 60 : Nat) : Int) = 0 by omega)).trans rfl
  have W1 : wrap64 ((n / 3600 : Nat) : Int) = ((n / 3600 : Nat) : Int) := w_id (by omega) (by omega)
  have W2 : wrap64 ((n % 3600 / 60 : Nat) : Int) = ((n % 3600 / 60 : Nat) : Int) := w_id (by omega) (by omega)
  have E : absL n = dec (n / 3600) ++ sixL (n % 3600 / 60) := by unfold absL; rw [if_neg (by omega), if_pos (by omega)]; simp
  rw [E]
  have a1 : ∀ W, (Op.stringOp .add (bs (dec (n / 3600))) (bs (sixL (n % 3600 / 60)))).run Tryd.prog W = .ok (.string (bs (dec (n / 3600) ++ sixL (n % 3600 / 60)))) W := add_bs _ _ _ rfl (by rw [List.length_append]; omega)
  have HP := Lib.hid hp
  clear hp L0 L1 L2 E
  generalize bs ((dec (n / 3600) ++ sixL (n % 3600 / 60)) ++ sixL (n % 60)) = S4 at *
  generalize bs (dec (n / 3600) ++ sixL (n % 3600 / 60)) = S3 at *
  generalize bs (sixL (n % 3600 / 60)) = S1 at *
  generalize bs (sixL (n % 60)) = S2 at *
  generalize bs (dec (n / 3600)) = S0 at *
  generalize n % 3600 / 60 = k1 at *
  generalize n % 3600 = k2 at *
  generalize n % 60 = k3 at *
  generalize n / 3600 = k0 at *
  go_enter Tryd.func23, Tryd.ntmps23
  go_wp2_with (first
    | (go_at_call 51; refine (H0.out _ HP.out).mono ?_; clear H0; rintro e V0 ⟨rfl, hb⟩; have B0 := Lib.hid hb; clear hb)
    | (go_at_call 52; refine (H1.out _ (HP.out.keep B0.out)).mono ?_; clear H1; rintro e V1 ⟨rfl, hb⟩; have B1 := Lib.hid (B0.out.trans (hb.mono B0.out.size)); clear hb)
    | fail)
  go_ret
  exact ⟨rfl, B1.out⟩
end Go.Proofs.YtkfhipkcnocokaaDoor.Fo
