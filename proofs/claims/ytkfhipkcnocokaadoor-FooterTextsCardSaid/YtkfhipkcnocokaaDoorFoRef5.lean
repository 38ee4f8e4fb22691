/-
  Layer 7 (footer): the document's own numbers and times as texts (ways by gen_fo7g.py).
-/
import Derived.Test.YtkfhipkcnocokaaDoorFoRef4
namespace Go.Proofs.YtkfhipkcnocokaaDoor.Fo
open Go.RowKit
set_option maxRecDepth 100000

/-- The last so many digits. -/
def sfx (n : Nat) : Nat → List UInt8
  | 0 => []
  | j + 1 => dig (n / 10 ^ j % 10) :: sfx n j
theorem sfx_len (n : Nat) : ∀ j, (sfx n j).length = j
  | 0 => rfl
  | j + 1 => by show (sfx n j).length + 1 = j + 1; rw [sfx_len n j]
theorem step10 (n j : Nat) : n / 10 ^ (j + 1) = n / 10 ^ j / 10 := by rw [Nat.pow_succ, Nat.div_div_eq_div_mul]
theorem rd_of (n j : Nat) (hn : n < 1000) (hj : j < 3) : Dgr ((n / 10 ^ j : Nat) : Int) ((n / 10 ^ (j + 1) : Nat) : Int) ((n / 10 ^ j % 10 : Nat) : Int) (bs [dig (n / 10 ^ j % 10)]) (bs (sfx n j)) (bs (sfx n (j + 1))) := by
  have hs := sfx_len n j
  have ha : ∀ W, (Op.stringOp .add (bs [dig (n / 10 ^ j % 10)]) (bs (sfx n j))).run Tryd.prog W = .ok (.string (bs (sfx n (j + 1)))) W := add_bs [_] _ _ rfl (by rw [sfx_len]; omega)
  have hq1 : n / 10 ^ j < 1000 := Nat.lt_of_le_of_lt (Nat.div_le_self _ _) hn
  have h2 := step10 n j
  generalize bs (sfx n (j + 1)) = S2 at *
  generalize n / 10 ^ (j + 1) = q2 at *
  generalize n / 10 ^ j = q at *
  have hd : q % 10 < 10 := Nat.mod_lt _ (by decide)
  refine ⟨tm_nat _ 10, ?_, w_id (by omega) (by omega), tm_wrap _ (by omega), u8_dig _ hd, conv_dig _ hd, ha⟩
  rw [h2]; exact td_nat _ 10
theorem rdigits_go (n many r : Nat) (hn : n < 1000) (hr : r ≤ 3) (hend : n / 10 ^ r = 0) (hmr : many ≤ r) (hgo : ∀ j, j < r → 0 < n / 10 ^ j ∨ j < many) (w : World) :
    Calls Tryd.prog 56 #[.int .i64 n, .int .i64 many] w fun e w' => e = .returned (.string (bs (sfx n r))) ∧ Below w.heap.size w w' := by
  have := rdigits_walk many r (fun j => ((n / 10 ^ j : Nat) : Int)) (fun j => ((n / 10 ^ j % 10 : Nat) : Int)) (fun j => bs [dig (n / 10 ^ j % 10)]) (fun j => bs (sfx n j))
    (fun j hj => by
      rcases hgo j hj with h | h
      · exact Or.inl (Int.natCast_pos.mpr h)
      · exact Or.inr (by exact_mod_cast h))
    ⟨by simp only [hend]; decide, by omega⟩ (fun j _ => by rw [bs_size, sfx_len]) rfl (fun j hj => rd_of n j hn (by omega)) w
  have e0 : n / 10 ^ 0 = n := by rw [Nat.pow_zero, Nat.div_one]
  simp only [e0] at this
  exact this
theorem p1 : (10 : Nat) ^ 1 = 10 := rfl
theorem p2 : (10 : Nat) ^ 2 = 100 := rfl
theorem p3 : (10 : Nat) ^ 3 = 1000 := rfl
theorem p0 : (10 : Nat) ^ 0 = 1 := rfl
/-- Numbers of at least one digit; of two. -/
theorem rdec (n : Nat) (hn : n < 1000) (w : World) : Calls Tryd.prog 56 #[.int .i64 n, .int .i64 1] w fun e w' => e = .returned (.string (bs (dec n))) ∧ Below w.heap.size w w' := by
  by_cases h1 : n < 10
  · have := rdigits_go n 1 1 hn (by omega) (by rw [p1]; omega) (by omega) (fun j hj => Or.inr hj) w
    rw [dec_one n h1]
    have e : sfx n 1 = [dig n] := by show [dig (n / 10 ^ 0 % 10)] = _; rw [p0, Nat.div_one, Nat.mod_eq_of_lt h1]
    rwa [e] at this
  · by_cases h2 : n < 100
    · have := rdigits_go n 1 2 hn (by omega) (by rw [p2]; omega) (by omega) (fun j hj => Or.inl (by
        have hc : j = 0 ∨ j = 1 := by omega
        rcases hc with rfl | rfl
        · rw [p0]; omega
        · rw [p1]; omega)) w
      have e : sfx n 2 = dec n := by
        show [dig (n / 10 ^ 1 % 10), dig (n / 10 ^ 0 % 10)] = _
        rw [p0, p1, Nat.div_one]
        unfold dec
        rw [Lib.decDigits, dif_neg h1, Lib.decDigits, dif_pos (by omega), show n / 10 % 10 = n / 10 by omega]
        rfl
      rwa [e] at this
    · have := rdigits_go n 1 3 hn (by omega) (by rw [p3]; omega) (by omega) (fun j hj => Or.inl (by
        have hc : j = 0 ∨ j = 1 ∨ j = 2 := by omega
        rcases hc with rfl | rfl | rfl
        · rw [p0]; omega
        · rw [p1]; omega
        · rw [p2]; omega)) w
      have e : sfx n 3 = dec n := by
        show [dig (n / 10 ^ 2 % 10), dig (n / 10 ^ 1 % 10), dig (n / 10 ^ 0 % 10)] = _
        rw [p0, p1, p2, Nat.div_one]
        unfold dec
        rw [Lib.decDigits, dif_neg h1, Lib.decDigits, dif_neg (by omega), Lib.decDigits, dif_pos (by omega), show n / 100 % 10 = n / 10 / 10 by omega]
        rfl
      rwa [e] at this
def twoL (n : Nat) : List UInt8 := dec (n / 10) ++ dec (n % 10)
theorem six_two (n : Nat) : sixL n = 58 :: twoL n := rfl
theorem rtwo (n : Nat) (hn : n ≤ 59) (w : World) : Calls Tryd.prog 56 #[.int .i64 n, .int .i64 2] w fun e w' => e = .returned (.string (bs (twoL n))) ∧ Below w.heap.size w w' := by
  have := rdigits_go n 2 2 (by omega) (by omega) (by rw [p2]; omega) (by omega) (fun j hj => Or.inr hj) w
  have e : sfx n 2 = twoL n := by
    show [dig (n / 10 ^ 1 % 10), dig (n / 10 ^ 0 % 10)] = _
    rw [p0, p1, Nat.div_one]
    unfold twoL
    rw [dec_one _ (by omega), dec_one _ (by omega), show n / 10 % 10 = n / 10 by omega]
    rfl
  rwa [e] at this
theorem two_len {n : Nat} (h : n ≤ 59) : (twoL n).length ≤ 9 := by have := six_len h; rw [six_two, List.length_cons] at this; omega
theorem sixty (n : Nat) : n / 60 % 60 = n % 3600 / 60 := by omega
theorem bne_z {m : Nat} (h : m = 0) : ((m : Int) != 0) = false := by subst h; rfl
set_option maxHeartbeats 800000 in
theorem rhours_a (n : Nat) (hn : n ≤ 700000) (h1 : n % 3600 = 0) (h2 : n % 60 = 0) (w : World) : Calls Tryd.prog 32 #[.int .i64 n] w fun e w' => e = .returned (.string (bs (absL n))) ∧ Below w.heap.size w w' := by
  obtain ⟨f0, f1, f2, f3⟩ := tm_facts n hn
  have L0 := dec_len 2 (n / 3600) f0
  have L1 := two_len f1
  have L2 := two_len f2
  have H0 : Hid (∀ V, Calls Tryd.prog 56 #[.int .i64 ((n / 3600 : Nat) : Int), .int .i64 1] V fun e w' => e = .returned (.string (bs (dec (n / 3600)))) ∧ Below V.heap.size V w') := Lib.hid fun V => rdec _ f0 V
  have H1 : Hid (∀ V, Calls Tryd.prog 56 #[.int .i64 ((n % 3600 / 60 : Nat) : Int), .int .i64 2] V fun e w' => e = .returned (.string (bs (twoL (n % 3600 / 60)))) ∧ Below V.heap.size V w') := Lib.hid fun V => rtwo _ f1 V
  have H2 : Hid (∀ V, Calls Tryd.prog 56 #[.int .i64 ((n % 60 : Nat) : Int), .int .i64 2] V fun e w' => e = .returned (.string (bs (twoL (n % 60)))) ∧ Below V.heap.size V w') := Lib.hid fun V => rtwo _ f2 V
  have q1 : (n : Int).tdiv 3600 = ((n / 3600 : Nat) : Int) := td_nat _ _
  have q2 : (n : Int).tmod 3600 = ((n % 3600 : Nat) : Int) := tm_nat _ _
  have q3 : (n : Int).tdiv 60 = ((n / 60 : Nat) : Int) := td_nat _ _
  have q5 : ((n / 60 : Nat) : Int).tmod 60 = ((n % 3600 / 60 : Nat) : Int) := (tm_nat _ _).trans (congrArg (fun m : Nat => (m : Int)) (sixty n))
  have q4 : (n : Int).tmod 60 = ((n % 60 : Nat) : Int) := tm_nat _ _
  have c0 : ¬ ((n : Nat) : Int) < 0 := Int.not_lt.mpr (Int.natCast_nonneg n)
  have c1 : (((n % 3600 : Nat) : Int) != 0) = false := bne_z h1
  have c2 : (((n % 60 : Nat) : Int) != 0) = false := bne_z h2
  have W1 : wrap64 ((n / 3600 : Nat) : Int) = ((n / 3600 : Nat) : Int) := tm_wrap _ f3
  have W2 : wrap64 ((n / 60 : Nat) : Int) = ((n / 60 : Nat) : Int) := tm_wrap _ (Nat.le_trans (Nat.div_le_self _ _) (Nat.le_trans hn (by decide)))
  have E : absL n = dec (n / 3600) := by unfold absL; rw [if_pos h1, if_pos h2]; simp
  rw [E]
  clear L0 L1 L2 E f0 f1 f2 f3
  generalize bs (twoL (n % 3600 / 60)) = S1 at *
  generalize bs (twoL (n % 60)) = S2 at *
  generalize bs (dec (n / 3600)) = S0 at *
  generalize n % 3600 / 60 = k1 at *
  generalize n % 3600 = k2 at *
  generalize n % 60 = k3 at *
  generalize n / 3600 = k0 at *
  generalize n / 60 = k4 at *
  go_enter Tryd.func32, Tryd.ntmps32
  go_wp2_with (first
    | (go_at_call 56; refine (H0.out _).mono ?_; clear H0; rintro e V0 ⟨rfl, hb⟩; have B0 := Lib.hid hb; clear hb)
    | fail)
  go_ret
  exact ⟨rfl, B0.out⟩
set_option maxHeartbeats 800000 in
theorem rhours_b (n : Nat) (hn : n ≤ 700000) (h1 : n % 3600 ≠ 0) (h2 : n % 60 = 0) (w : World) : Calls Tryd.prog 32 #[.int .i64 n] w fun e w' => e = .returned (.string (bs (absL n))) ∧ Below w.heap.size w w' := by
  obtain ⟨f0, f1, f2, f3⟩ := tm_facts n hn
  have L0 := dec_len 2 (n / 3600) f0
  have L1 := two_len f1
  have L2 := two_len f2
  have H0 : Hid (∀ V, Calls Tryd.prog 56 #[.int .i64 ((n / 3600 : Nat) : Int), .int .i64 1] V fun e w' => e = .returned (.string (bs (dec (n / 3600)))) ∧ Below V.heap.size V w') := Lib.hid fun V => rdec _ f0 V
  have H1 : Hid (∀ V, Calls Tryd.prog 56 #[.int .i64 ((n % 3600 / 60 : Nat) : Int), .int .i64 2] V fun e w' => e = .returned (.string (bs (twoL (n % 3600 / 60)))) ∧ Below V.heap.size V w') := Lib.hid fun V => rtwo _ f1 V
  have H2 : Hid (∀ V, Calls Tryd.prog 56 #[.int .i64 ((n % 60 : Nat) : Int), .int .i64 2] V fun e w' => e = .returned (.string (bs (twoL (n % 60)))) ∧ Below V.heap.size V w') := Lib.hid fun V => rtwo _ f2 V
  have q1 : (n : Int).tdiv 3600 = ((n / 3600 : Nat) : Int) := td_nat _ _
  have q2 : (n : Int).tmod 3600 = ((n % 3600 : Nat) : Int) := tm_nat _ _
  have q3 : (n : Int).tdiv 60 = ((n / 60 : Nat) : Int) := td_nat _ _
  have q5 : ((n / 60 : Nat) : Int).tmod 60 = ((n % 3600 / 60 : Nat) : Int) := (tm_nat _ _).trans (congrArg (fun m : Nat => (m : Int)) (sixty n))
  have q4 : (n : Int).tmod 60 = ((n % 60 : Nat) : Int) := tm_nat _ _
  have c0 : ¬ ((n : Nat) : Int) < 0 := Int.not_lt.mpr (Int.natCast_nonneg n)
  have c1 : (((n % 3600 : Nat) : Int) != 0) = true := ne_bne h1
  have c2 : (((n % 60 : Nat) : Int) != 0) = false := bne_z h2
  have W1 : wrap64 ((n / 3600 : Nat) : Int) = ((n / 3600 : Nat) : Int) := tm_wrap _ f3
  have W2 : wrap64 ((n / 60 : Nat) : Int) = ((n / 60 : Nat) : Int) := tm_wrap _ (Nat.le_trans (Nat.div_le_self _ _) (Nat.le_trans hn (by decide)))
  have E : absL n = (dec (n / 3600) ++ [58]) ++ twoL (n % 3600 / 60) := by unfold absL; rw [if_neg h1, if_pos h2, six_two]; simp
  rw [E]
  have a1 : ∀ W, (Op.stringOp .add (bs (dec (n / 3600))) (bs ([58]))).run Tryd.prog W = .ok (.string (bs (dec (n / 3600) ++ [58]))) W := add_bs _ _ _ rfl (by simp only [List.length_append, List.length_cons, List.length_nil]; omega)
  have a2 : ∀ W, (Op.stringOp .add (bs (dec (n / 3600) ++ [58])) (bs (twoL (n % 3600 / 60)))).run Tryd.prog W = .ok (.string (bs ((dec (n / 3600) ++ [58]) ++ twoL (n % 3600 / 60)))) W := add_bs _ _ _ rfl (by simp only [List.length_append, List.length_cons, List.length_nil]; omega)
  clear L0 L1 L2 E f0 f1 f2 f3
  generalize bs ((dec (n / 3600) ++ [58]) ++ twoL (n % 3600 / 60)) = S4 at *
  generalize bs (dec (n / 3600) ++ [58]) = S3 at *
  generalize bs (twoL (n % 3600 / 60)) = S1 at *
  generalize bs (twoL (n % 60)) = S2 at *
  generalize bs (dec (n / 3600)) = S0 at *
  generalize n % 3600 / 60 = k1 at *
  generalize n % 3600 = k2 at *
  generalize n % 60 = k3 at *
  generalize n / 3600 = k0 at *
  generalize n / 60 = k4 at *
  go_enter Tryd.func32, Tryd.ntmps32
  go_wp2_with (first
    | (go_at_call 56; refine (H0.out _).mono ?_; clear H0; rintro e V0 ⟨rfl, hb⟩; have B0 := Lib.hid hb; clear hb)
    | (go_at_call 56; refine (H1.out _).mono ?_; clear H1; rintro e V1 ⟨rfl, hb⟩; have B1 := Lib.hid (B0.out.trans (hb.mono B0.out.size)); clear hb)
    | fail)
  go_ret
  exact ⟨rfl, B1.out⟩
set_option maxHeartbeats 800000 in
theorem rhours_c (n : Nat) (hn : n ≤ 700000) (h1 : n % 3600 ≠ 0) (h2 : n % 60 ≠ 0) (w : World) : Calls Tryd.prog 32 #[.int .i64 n] w fun e w' => e = .returned (.string (bs (absL n))) ∧ Below w.heap.size w w' := by
  obtain ⟨f0, f1, f2, f3⟩ := tm_facts n hn
  have L0 := dec_len 2 (n / 3600) f0
  have L1 := two_len f1
  have L2 := two_len f2
  have H0 : Hid (∀ V, Calls Tryd.prog 56 #[.int .i64 ((n / 3600 : Nat) : Int), .int .i64 1] V fun e w' => e = .returned (.string (bs (dec (n / 3600)))) ∧ Below V.heap.size V w') := Lib.hid fun V => rdec _ f0 V
  have H1 : Hid (∀ V, Calls Tryd.prog 56 #[.int .i64 ((n % 3600 / 60 : Nat) : Int), .int .i64 2] V fun e w' => e = .returned (.string (bs (twoL (n % 3600 / 60)))) ∧ Below V.heap.size V w') := Lib.hid fun V => rtwo _ f1 V
  have H2 : Hid (∀ V, Calls Tryd.prog 56 #[.int .i64 ((n % 60 : Nat) : Int), .int .i64 2] V fun e w' => e = .returned (.string (bs (twoL (n % 60)))) ∧ Below V.heap.size V w') := Lib.hid fun V => rtwo _ f2 V
  have q1 : (n : Int).tdiv 3600 = ((n / 3600 : Nat) : Int) := td_nat _ _
  have q2 : (n : Int).tmod 3600 = ((n % 3600 : Nat) : Int) := tm_nat _ _
  have q3 : (n : Int).tdiv 60 = ((n / 60 : Nat) : Int) := td_nat _ _
  have q5 : ((n / 60 : Nat) : Int).tmod 60 = ((n % 3600 / 60 : Nat) : Int) := (tm_nat _ _).trans (congrArg (fun m : Nat => (m : Int)) (sixty n))
  have q4 : (n : Int).tmod 60 = ((n % 60 : Nat) : Int) := tm_nat _ _
  have c0 : ¬ ((n : Nat) : Int) < 0 := Int.not_lt.mpr (Int.natCast_nonneg n)
  have c1 : (((n % 3600 : Nat) : Int) != 0) = true := ne_bne h1
  have c2 : (((n % 60 : Nat) : Int) != 0) = true := ne_bne h2
  have W1 : wrap64 ((n / 3600 : Nat) : Int) = ((n / 3600 : Nat) : Int) := tm_wrap _ f3
  have W2 : wrap64 ((n / 60 : Nat) : Int) = ((n / 60 : Nat) : Int) := tm_wrap _ (Nat.le_trans (Nat.div_le_self _ _) (Nat.le_trans hn (by decide)))
  have E : absL n = (((dec (n / 3600) ++ [58]) ++ twoL (n % 3600 / 60)) ++ [58]) ++ twoL (n % 60) := by unfold absL; rw [if_neg h1, if_neg h2, six_two, six_two]; simp
  rw [E]
  have a1 : ∀ W, (Op.stringOp .add (bs (dec (n / 3600))) (bs ([58]))).run Tryd.prog W = .ok (.string (bs (dec (n / 3600) ++ [58]))) W := add_bs _ _ _ rfl (by simp only [List.length_append, List.length_cons, List.length_nil]; omega)
  have a2 : ∀ W, (Op.stringOp .add (bs (dec (n / 3600) ++ [58])) (bs (twoL (n % 3600 / 60)))).run Tryd.prog W = .ok (.string (bs ((dec (n / 3600) ++ [58]) ++ twoL (n % 3600 / 60)))) W := add_bs _ _ _ rfl (by simp only [List.length_append, List.length_cons, List.length_nil]; omega)
  have a3 : ∀ W, (Op.stringOp .add (bs ((dec (n / 3600) ++ [58]) ++ twoL (n % 3600 / 60))) (bs ([58]))).run Tryd.prog W = .ok (.string (bs (((dec (n / 3600) ++ [58]) ++ twoL (n % 3600 / 60)) ++ [58]))) W := add_bs _ _ _ rfl (by simp only [List.length_append, List.length_cons, List.length_nil]; omega)
  have a4 : ∀ W, (Op.stringOp .add (bs (((dec (n / 3600) ++ [58]) ++ twoL (n % 3600 / 60)) ++ [58])) (bs (twoL (n % 60)))).run Tryd.prog W = .ok (.string (bs ((((dec (n / 3600) ++ [58]) ++ twoL (n % 3600 / 60)) ++ [58]) ++ twoL (n % 60)))) W := add_bs _ _ _ rfl (by simp only [List.length_append, List.length_cons, List.length_nil]; omega)
  clear L0 L1 L2 E f0 f1 f2 f3
  generalize bs ((((dec (n / 3600) ++ [58]) ++ twoL (n % 3600 / 60)) ++ [58]) ++ twoL (n % 60)) = S6 at *
  generalize bs (((dec (n / 3600) ++ [58]) ++ twoL (n % 3600 / 60)) ++ [58]) = S5 at *
  generalize bs ((dec (n / 3600) ++ [58]) ++ twoL (n % 3600 / 60)) = S4 at *
  generalize bs (dec (n / 3600) ++ [58]) = S3 at *
  generalize bs (twoL (n % 3600 / 60)) = S1 at *
  generalize bs (twoL (n % 60)) = S2 at *
  generalize bs (dec (n / 3600)) = S0 at *
  generalize n % 3600 / 60 = k1 at *
  generalize n % 3600 = k2 at *
  generalize n % 60 = k3 at *
  generalize n / 3600 = k0 at *
  generalize n / 60 = k4 at *
  go_enter Tryd.func32, Tryd.ntmps32
  go_wp2_with (first
    | (go_at_call 56; refine (H0.out _).mono ?_; clear H0; rintro e V0 ⟨rfl, hb⟩; have B0 := Lib.hid hb; clear hb)
    | (go_at_call 56; refine (H1.out _).mono ?_; clear H1; rintro e V1 ⟨rfl, hb⟩; have B1 := Lib.hid (B0.out.trans (hb.mono B0.out.size)); clear hb)
    | (go_at_call 56; refine (H2.out _).mono ?_; clear H2; rintro e V2 ⟨rfl, hb⟩; have B2 := Lib.hid (B1.out.trans (hb.mono B1.out.size)); clear hb)
    | fail)
  go_ret
  exact ⟨rfl, B2.out⟩
theorem rhours_nat (n : Nat) (hn : n ≤ 700000) (w : World) : Calls Tryd.prog 32 #[.int .i64 n] w fun e w' => e = .returned (.string (bs (absL n))) ∧ Below w.heap.size w w' := by
  by_cases h1 : n % 3600 = 0
  · exact rhours_a n hn h1 (by omega) w
  · by_cases h2 : n % 60 = 0
    · exact rhours_b n hn h1 h2 w
    · exact rhours_c n hn h1 h2 w
set_option maxHeartbeats 400000 in
theorem rhours_neg (n : Nat) (hn : n ≤ 700000) (h : 0 < n) (w : World) : Calls Tryd.prog 32 #[.int .i64 (-(n : Int))] w fun e w' => e = .returned (.string (bs (45 :: absL n))) ∧ Below w.heap.size w w' := by
  have H0 : Hid (Calls Tryd.prog 32 #[.int .i64 (n : Int)] w fun e w' => e = .returned (.string (bs (absL n))) ∧ Below w.heap.size w w') := Lib.hid (rhours_nat n hn w)
  have a1 : ∀ W, (Op.stringOp .add (bs [45]) (bs (absL n))).run Tryd.prog W = .ok (.string (bs (45 :: absL n))) W := add_bs [45] _ _ rfl (neg_len n hn)
  have c0 := neg_test n h
  have c1 := neg_wrap n hn
  clear hn h
  generalize bs (45 :: absL n) = S1 at *
  generalize bs (absL n) = S0 at *
  generalize -(n : Int) = k at *
  generalize (n : Int) = m at *
  go_enter Tryd.func32, Tryd.ntmps32
  go_wp2_with (first
    | (go_at_call 32; refine H0.out.mono ?_; clear H0; rintro e V0 ⟨rfl, hb⟩; have B0 := Lib.hid hb; clear hb)
    | fail)
  go_ret
  exact ⟨rfl, B0.out⟩
theorem rhours_any (n : Int) (h1 : -700000 ≤ n) (h2 : n ≤ 700000) (w : World) : Calls Tryd.prog 32 #[.int .i64 n] w fun e w' => e = .returned (.string (bs (timL n))) ∧ Below w.heap.size w w' := by
  unfold timL
  by_cases h : n < 0
  · rw [if_pos h]
    have e : n = -((n.natAbs : Nat) : Int) := by omega
    have := rhours_neg n.natAbs (by omega) (by omega) w
    rwa [← e] at this
  · rw [if_neg h]
    have e : n = ((n.natAbs : Nat) : Int) := by omega
    have := rhours_nat n.natAbs (by omega) w
    rwa [← e] at this
end Go.Proofs.YtkfhipkcnocokaaDoor.Fo
