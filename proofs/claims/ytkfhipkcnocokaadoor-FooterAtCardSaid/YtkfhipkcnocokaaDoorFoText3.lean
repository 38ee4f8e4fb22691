/-
  Layer 7 (footer): numbers and times as texts, on (ways by gen_fo7x.py).
-/
import Derived.Test.YtkfhipkcnocokaaDoorFoText2
namespace Go.Proofs.YtkfhipkcnocokaaDoor.Fo
open Go.RowKit
set_option maxRecDepth 100000
theorem tm_facts (n : Nat) (hn : n ≤ 700000) : n / 3600 < 10 ^ (2 + 1) ∧ n % 3600 / 60 ≤ 59 ∧ n % 60 ≤ 59 ∧ n / 3600 ≤ 1000000 := by refine ⟨?_, ?_, ?_, ?_⟩ <;> omega
theorem tm_wrap (m : Nat) (h : m ≤ 1000000) : wrap64 (m : Int) = (m : Int) := w_id (by omega) (by omega)
theorem tm_zero {n : Nat} (h : n % 60 ≠ 0) : n % 3600 ≠ 0 := by omega
theorem td_nat (a b : Nat) : (a : Int).tdiv (b : Int) = ((a / b : Nat) : Int) := by rw [Int.tdiv_eq_ediv_of_nonneg (Int.natCast_nonneg a)]; rfl
theorem tm_nat (a b : Nat) : (a : Int).tmod (b : Int) = ((a % b : Nat) : Int) := by rw [Int.tmod_eq_emod_of_nonneg (Int.natCast_nonneg a)]; rfl
theorem ne_bne {m : Nat} (h : m ≠ 0) : ((m : Int) != 0) = true := bne_iff_ne.mpr (by omega)
set_option maxHeartbeats 800000 in
theorem tput_c (n : Nat) (hn : n ≤ 700000) (h2 : n % 60 ≠ 0) (w : World) (hp : Pw w) : Calls Tryd.prog 23 #[.int .i64 n] w fun e w' => e = .returned (.string (bs (absL n))) ∧ Below w.heap.size w w' := by
  obtain ⟨f0, f1, f2, f3⟩ := tm_facts n hn
  have L0 := dec_len 2 (n / 3600) f0
  have L1 := six_len f1
  have L2 := six_len f2
  have H0 : Hid (∀ V, Pw V → Calls Tryd.prog 51 #[.int .i64 ((n / 3600 : Nat) : Int)] V fun e w' => e = .returned (.string (bs (dec (n / 3600)))) ∧ Below V.heap.size V w') := Lib.hid fun V hV => itoa_any _ f3 V hV
  have H1 : Hid (∀ V, Pw V → Calls Tryd.prog 52 #[.int .i64 ((n % 3600 / 60 : Nat) : Int)] V fun e w' => e = .returned (.string (bs (sixL (n % 3600 / 60)))) ∧ Below V.heap.size V w') := Lib.hid fun V hV => sixtieth_put _ f1 V hV
  have H2 : Hid (∀ V, Pw V → Calls Tryd.prog 52 #[.int .i64 ((n % 60 : Nat) : Int)] V fun e w' => e = .returned (.string (bs (sixL (n % 60)))) ∧ Below V.heap.size V w') := Lib.hid fun V hV => sixtieth_put _ f2 V hV
  have q1 : (n : Int).tdiv 3600 = ((n / 3600 : Nat) : Int) := td_nat _ _
  have q2 : (n : Int).tmod 3600 = ((n % 3600 : Nat) : Int) := tm_nat _ _
  have q3 : ((n % 3600 : Nat) : Int).tdiv 60 = ((n % 3600 / 60 : Nat) : Int) := td_nat _ _
  have q4 : (n : Int).tmod 60 = ((n % 60 : Nat) : Int) := tm_nat _ _
  have c0 : ¬ ((n : Nat) : Int) < 0 := Int.not_lt.mpr (Int.natCast_nonneg n)
  have c1 : (((n % 3600 : Nat) : Int) != 0) = true := ne_bne (tm_zero h2)
  have c2 : (((n % 60 : Nat) : Int) != 0) = true := ne_bne h2
  have W1 : wrap64 ((n / 3600 : Nat) : Int) = ((n / 3600 : Nat) : Int) := tm_wrap _ f3
  have W2 : wrap64 ((n % 3600 / 60 : Nat) : Int) = ((n % 3600 / 60 : Nat) : Int) := tm_wrap _ (Nat.le_trans f1 (by decide))
  have E : absL n = (dec (n / 3600) ++ sixL (n % 3600 / 60)) ++ sixL (n % 60) := by unfold absL; rw [if_neg (tm_zero h2), if_neg h2]; simp
  rw [E]
  have a1 : ∀ W, (Op.stringOp .add (bs (dec (n / 3600))) (bs (sixL (n % 3600 / 60)))).run Tryd.prog W = .ok (.string (bs (dec (n / 3600) ++ sixL (n % 3600 / 60)))) W := add_bs _ _ _ rfl (by rw [List.length_append]; omega)
  have a2 : ∀ W, (Op.stringOp .add (bs (dec (n / 3600) ++ sixL (n % 3600 / 60))) (bs (sixL (n % 60)))).run Tryd.prog W = .ok (.string (bs ((dec (n / 3600) ++ sixL (n % 3600 / 60)) ++ sixL (n % 60)))) W := add_bs _ _ _ rfl (by rw [List.length_append, List.length_append]; omega)
  have HP := Lib.hid hp
  clear hp L0 L1 L2 E f0 f1 f2 f3
  generalize bs ((dec (n / 3600) ++ sixL (n % 3600 / 60)) ++ sixL (n % 60)) = S4 at *
  generalize bs (dec (n / 3600) ++ sixL (n % 3600 / 60)) = S3 at *
  generalize bs (sixL (n % 3600 / 60)) = S1 at *
  generalize bs (sixL (n % 60)) = S2 at *
  generalize bs (dec (n / 3600)) = S0 at *
  generalize n % 3600 / 60 = k1 at *
  generalize n % 3600 = k2 at *
  generalize n % 60 = k3 at *
  generalize n / 3600 = k0 at *
  go_enter Tryd.func23, Tryd.ntmps23
  go_wp2_with (first
    | (go_at_call 51; refine (H0.out _ HP.out).mono ?_; clear H0; rintro e V0 ⟨rfl, hb⟩; have B0 := Lib.hid hb; clear hb)
    | (go_at_call 52; refine (H1.out _ (HP.out.keep B0.out)).mono ?_; clear H1; rintro e V1 ⟨rfl, hb⟩; have B1 := Lib.hid (B0.out.trans (hb.mono B0.out.size)); clear hb)
    | (go_at_call 52; refine (H2.out _ (HP.out.keep B1.out)).mono ?_; clear H2; rintro e V2 ⟨rfl, hb⟩; have B2 := Lib.hid (B1.out.trans (hb.mono B1.out.size)); clear hb)
    | fail)
  go_ret
  exact ⟨rfl, B2.out⟩
end Go.Proofs.YtkfhipkcnocokaaDoor.Fo
