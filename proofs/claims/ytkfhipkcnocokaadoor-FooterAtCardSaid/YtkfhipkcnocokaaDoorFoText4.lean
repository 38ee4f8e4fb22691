/-
  Layer 7 (footer): times and names as texts.
-/
import Derived.Test.YtkfhipkcnocokaaDoorFoText3
namespace Go.Proofs.YtkfhipkcnocokaaDoor.Fo
open Go.RowKit
set_option maxRecDepth 100000

theorem tput_nat (n : Nat) (hn : n ≤ 700000) (w : World) (hp : Pw w) : Calls Tryd.prog 23 #[.int .i64 n] w fun e w' => e = .returned (.string (bs (absL n))) ∧ Below w.heap.size w w' := by
  by_cases h1 : n % 3600 = 0
  · exact tput_a n hn h1 w hp
  · by_cases h2 : n % 60 = 0
    · exact tput_b n hn h1 h2 w hp
    · exact tput_c n hn h2 w hp
theorem abs_len (n : Nat) (hn : n ≤ 700000) : (absL n).length ≤ 23 := by
  obtain ⟨f0, f1, f2, f3⟩ := tm_facts n hn
  have L0 := dec_len 2 (n / 3600) f0
  have L1 := six_len f1
  have L2 := six_len f2
  unfold absL
  rw [List.length_append, List.length_append]
  split <;> split <;> (try simp only [List.length_nil]) <;> omega
theorem neg_len (n : Nat) (hn : n ≤ 700000) : (45 :: absL n).length ≤ 1000000 := by
  have h0 := abs_len n hn
  simp only [List.length_cons]; omega
theorem neg_test (n : Nat) (h : 0 < n) : (-(n : Int)) < 0 := by omega
theorem neg_wrap (n : Nat) (hn : n ≤ 700000) : wrap64 (- -(n : Int)) = (n : Int) := by rw [Int.neg_neg]; exact w_id (by omega) (by omega)
set_option maxHeartbeats 400000 in
theorem tput_neg (n : Nat) (hn : n ≤ 700000) (h : 0 < n) (w : World) (hp : Pw w) : Calls Tryd.prog 23 #[.int .i64 (-(n : Int))] w fun e w' => e = .returned (.string (bs (45 :: absL n))) ∧ Below w.heap.size w w' := by
  have H0 : Hid (Calls Tryd.prog 23 #[.int .i64 (n : Int)] w fun e w' => e = .returned (.string (bs (absL n))) ∧ Below w.heap.size w w') := Lib.hid (tput_nat n hn w hp)
  have a1 : ∀ W, (Op.stringOp .add (bs [45]) (bs (absL n))).run Tryd.prog W = .ok (.string (bs (45 :: absL n))) W := add_bs [45] _ _ rfl (neg_len n hn)
  have c0 := neg_test n h
  have c1 := neg_wrap n hn
  clear hp hn h
  generalize bs (45 :: absL n) = S1 at *
  generalize bs (absL n) = S0 at *
  generalize -(n : Int) = k at *
  generalize (n : Int) = m at *
  go_enter Tryd.func23, Tryd.ntmps23
  go_wp2_with (first
    | (go_at_call 23; refine H0.out.mono ?_; clear H0; rintro e V0 ⟨rfl, hb⟩; have B0 := Lib.hid hb; clear hb)
    | fail)
  go_ret
  exact ⟨rfl, B0.out⟩
theorem tput_any (n : Int) (h1 : -700000 ≤ n) (h2 : n ≤ 700000) (w : World) (hp : Pw w) : Calls Tryd.prog 23 #[.int .i64 n] w fun e w' => e = .returned (.string (bs (timL n))) ∧ Below w.heap.size w w' := by
  unfold timL
  by_cases h : n < 0
  · rw [if_pos h]
    have e : n = -((n.natAbs : Nat) : Int) := by omega
    have := tput_neg n.natAbs (by omega) (by omega) w hp
    rwa [← e] at this
  · rw [if_neg h]
    have e : n = ((n.natAbs : Nat) : Int) := by omega
    have := tput_nat n.natAbs (by omega) w hp
    rwa [← e] at this
theorem tim_len (n : Int) (h1 : -700000 ≤ n) (h2 : n ≤ 700000) : (timL n).length ≤ 24 := by
  have := abs_len n.natAbs (by omega)
  unfold timL
  split
  · simp only [List.length_cons]; omega
  · omega
/-- A name. -/
def namL (l : List UInt8) : List UInt8 := if l.all (fun b => ltr b.toNat) then l else 60 :: l ++ [62]
set_option maxHeartbeats 800000 in
theorem nput_any (l : List UInt8) (hl : l.length ≤ 100) (w : World) : Calls Tryd.prog 22 #[.string (bs l)] w fun e w' => e = .returned (.string (bs (namL l))) ∧ Below w.heap.size w w' := by
  have HL : Hid (∀ V, Calls Tryd.prog 50 #[.string ⟨#[]⟩] V fun e w' => e = .returned (.func (.func 70) #[] #[.pointer (some ⟨V.heap.size, 0, none⟩)]) ∧ w' = V.alloc (.cells #[.string ⟨#[]⟩] 9)) := Lib.hid fun V => letterOr_any _ V
  have HO : Hid (∀ V, Calls Tryd.prog 49 #[.string (bs l), .func (.func 70) #[] #[.pointer (some ⟨V.heap.size, 0, none⟩)]] (V.alloc (.cells #[.string ⟨#[]⟩] 9)) fun e w' => e = .returned (.bool (l.all fun b => ltr b.toNat)) ∧ Below V.heap.size V w') := Lib.hid fun V =>
    (hasOnly_any _ _ ltr (fun _ => ltr_low) l _ (enters_of Tryd.func70 (by kernel_rfl) rfl) (ltr_0 _ V.heap.size (by simp) (cell_new V _ _ _ 0 _ rfl rfl))).mono fun _ _ ⟨he, hb⟩ => ⟨he, ((Below.refl V.heap.size V).alloc (Nat.le_refl _) _).trans (hb.mono (by simp))⟩
  have a1 : ∀ W, (Op.stringOp .add (bs [60]) (bs l)).run Tryd.prog W = .ok (.string (bs (60 :: l))) W := add_bs [60] _ _ rfl (by simp only [List.length_cons]; omega)
  have a2 : ∀ W, (Op.stringOp .add (bs (60 :: l)) (bs [62])).run Tryd.prog W = .ok (.string (bs (60 :: l ++ [62]))) W := add_bs _ [62] _ rfl (by simp only [List.length_cons, List.length_append, List.length_nil]; omega)
  unfold namL
  clear hl
  generalize (l.all fun b => ltr b.toNat) = c at *
  cases c with
  | true =>
    simp only [if_true]
    generalize bs l = S at *
    go_enter Tryd.func22, Tryd.ntmps22
    go_wp2_with (first
      | (go_at_call 50; refine (HL.out _).mono ?_; clear HL; rintro e V2 ⟨rfl, rfl⟩)
      | (go_at_call 49; refine (HO.out _).mono ?_; clear HO; rintro e V3 ⟨rfl, hb⟩; have HB := Lib.hid hb; clear hb)
      | fail)
    go_ret
    exact ⟨rfl, HB.out⟩
  | false =>
    simp only [Bool.false_eq_true, if_false]
    generalize bs (60 :: l ++ [62]) = S2 at *
    generalize bs (60 :: l) = S1 at *
    generalize bs l = S at *
    go_enter Tryd.func22, Tryd.ntmps22
    go_wp2_with (first
      | (go_at_call 50; refine (HL.out _).mono ?_; clear HL; rintro e V2 ⟨rfl, rfl⟩)
      | (go_at_call 49; refine (HO.out _).mono ?_; clear HO; rintro e V3 ⟨rfl, hb⟩; have HB := Lib.hid hb; clear hb)
      | fail)
    go_ret
    exact ⟨rfl, HB.out⟩
theorem nam_len (l : List UInt8) : (namL l).length ≤ l.length + 2 := by
  unfold namL
  split
  · omega
  · simp only [List.length_append, List.length_cons, List.length_nil]; omega
end Go.Proofs.YtkfhipkcnocokaaDoor.Fo
