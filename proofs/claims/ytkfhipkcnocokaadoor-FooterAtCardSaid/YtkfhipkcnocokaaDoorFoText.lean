/-
  Layer 7 (footer): numbers and times as texts.
-/
import Derived.Test.YtkfhipkcnocokaaDoorFoWhole
import Derived.Lib.LaidTab
namespace Go.Proofs.YtkfhipkcnocokaaDoor.Fo
open Go.RowKit
set_option maxRecDepth 100000

/-- The table of powers of ten lies. -/
def Pw (w : World) : Prop := Lib.TabIs Tryd.prog w "internal/strconv.uint64pow10" .u64 Lib.pow10Tab
theorem gPow : Tryd.prog.globalNamed "internal/strconv.uint64pow10" = some 2 := by kernel_rfl
theorem Pw.below {w w' : World} (h : Pw w) {B : Nat} (hb : Below B w w') (hB : w.heap.size ≤ B) : Pw w' := by
  unfold Pw Lib.TabIs World.var? at h ⊢
  rw [gPow] at h ⊢
  simp only [Option.bind_some] at h ⊢
  have hlt : 2 < w.heap.size := by
    rcases Nat.lt_or_ge 2 w.heap.size with h' | h'
    · exact h'
    · rw [Array.getElem?_eq_none h'] at h; cases h
  rw [hb.block 2 (by omega)]
  exact h
theorem Pw.keep {w w' : World} (h : Pw w) (hb : Below w.heap.size w w') : Pw w' := h.below hb (Nat.le_refl _)
theorem w_id {x : Int} (h1 : -9223372036854775808 ≤ x) (h2 : x < 9223372036854775808) : wrap64 x = x := by unfold wrap64; omega
theorem below_grow (W : World) (os : Array Obj) : Below W.heap.size W (Sort.grow W os) :=
  ⟨rfl, rfl, rfl, by show W.heap.size ≤ (W.heap ++ os).size; rw [Array.size_append]; omega, fun _ hj => Sort.heap_grow_old W os hj⟩
def dec (n : Nat) : List UInt8 := Lib.decDigits n
theorem itoa_any (n : Nat) (hn : n ≤ 1000000) (w : World) (hp : Pw w) : Calls Tryd.prog 51 #[.int .i64 n] w fun e w' => e = .returned (.string (bs (dec n))) ∧ Below w.heap.size w w' := by
  refine (Tryd.strconv_Itoa (n : Int) (by omega) (by omega) w hp).mono ?_
  rintro e w' ⟨rfl, k, os, rfl⟩
  refine ⟨?_, (below_drewN (Below.refl _ _) k).trans ((below_grow _ os).mono (by simp))⟩
  have : Lib.itoa (n : Int) = dec n := by unfold Lib.itoa; rw [if_neg (by omega), Int.toNat_natCast]; rfl
  rw [this]
theorem add_bs (a b c : List UInt8) (hc : a ++ b = c) (h : c.length ≤ 1000000) (W : World) : (Op.stringOp .add (bs a) (bs b)).run Tryd.prog W = .ok (.string (bs c)) W := by
  subst hc
  rw [run_string_add_sum W (bs a) (bs b) (by rw [bs_size, bs_size]; rw [List.length_append] at h; omega)]
  have e : bs a ++ bs b = bs (a ++ b) := by
    rw [← bs_of (bs a ++ bs b)]
    congr 1
  rw [e]
theorem dec_len : ∀ (k n : Nat), n < 10 ^ (k + 1) → (dec n).length ≤ k + 1
  | 0, n, h => by unfold dec; rw [Lib.decDigits, dif_pos (by simpa using h)]; simp
  | k + 1, n, h => by
    unfold dec
    rw [Lib.decDigits]
    split
    · simp
    · rw [List.length_append]
      have := dec_len k (n / 10) (by rw [Nat.pow_succ] at h; omega)
      unfold dec at this
      rw [List.length_singleton]
      exact Nat.add_le_add_right this 1
/-- Minutes, seconds; a time from 0 on; a time. -/
def sixL (n : Nat) : List UInt8 := 58 :: dec (n / 10) ++ dec (n % 10)
def absL (n : Nat) : List UInt8 := dec (n / 3600) ++ ((if n % 3600 = 0 then [] else sixL (n % 3600 / 60)) ++ (if n % 60 = 0 then [] else sixL (n % 60)))
def timL (n : Int) : List UInt8 := if n < 0 then 45 :: absL n.natAbs else absL n.natAbs
theorem six_len {n : Nat} (h : n ≤ 59) : (sixL n).length ≤ 10 := by
  have h1 := dec_len 0 (n / 10) (by omega)
  have h2 := dec_len 0 (n % 10) (by omega)
  unfold sixL
  simp
  omega
set_option maxHeartbeats 400000 in
theorem sixtieth_put (n : Nat) (hn : n ≤ 59) (w : World) (hp : Pw w) : Calls Tryd.prog 52 #[.int .i64 n] w fun e w' => e = .returned (.string (bs (sixL n))) ∧ Below w.heap.size w w' := by
  have h1 := dec_len 0 (n / 10) (by omega)
  have h2 := dec_len 0 (n % 10) (by omega)
  have H1 : Hid (∀ V, Pw V → Calls Tryd.prog 51 #[.int .i64 ((n / 10 : Nat) : Int)] V fun e w' => e = .returned (.string (bs (dec (n / 10)))) ∧ Below V.heap.size V w') := Lib.hid fun V hV => itoa_any _ (by omega) V hV
  have H2 : Hid (∀ V, Pw V → Calls Tryd.prog 51 #[.int .i64 ((n % 10 : Nat) : Int)] V fun e w' => e = .returned (.string (bs (dec (n % 10)))) ∧ Below V.heap.size V w') := Lib.hid fun V hV => itoa_any _ (by omega) V hV
  have q1 : (n : Int).tdiv 10 = ((n / 10 : Nat) : Int) := by rw [Int.tdiv_eq_ediv_of_nonneg (by omega)]; rfl
  have q2 : (n : Int).tmod 10 = ((n % 10 : Nat) : Int) := by rw [Int.tmod_eq_emod_of_nonneg (by omega)]; rfl
  have W1 : wrap64 ((n / 10 : Nat) : Int) = ((n / 10 : Nat) : Int) := w_id (by omega) (by omega)
  have a1 : ∀ W, (Op.stringOp .add (bs [58]) (bs (dec (n / 10)))).run Tryd.prog W = .ok (.string (bs (58 :: dec (n / 10)))) W := add_bs [58] _ _ rfl (by simp; omega)
  have a2 : ∀ W, (Op.stringOp .add (bs (58 :: dec (n / 10))) (bs (dec (n % 10)))).run Tryd.prog W = .ok (.string (bs (sixL n))) W := add_bs _ _ _ rfl (by have := six_len hn; omega)
  have n0 : (0 : Int) ≤ (n : Int) := by omega
  have n1 : (n : Int) ≤ 59 := by omega
  have HP := Lib.hid hp
  clear hp h1 h2 hn
  generalize bs (sixL n) = S3 at *
  generalize bs (58 :: dec (n / 10)) = S2 at *
  generalize bs (dec (n / 10)) = S1 at *
  generalize bs (dec (n % 10)) = S0 at *
  generalize hk1 : n / 10 = k1 at *
  generalize hk2 : n % 10 = k2 at *
  clear hk1 hk2
  go_enter Tryd.func52, Tryd.ntmps52
  go_wp2_with (first
    | (go_at_call 51; refine (H1.out _ HP.out).mono ?_; clear H1; rintro e V1 ⟨rfl, hb⟩; have B1 := Lib.hid hb; clear hb)
    | (go_at_call 51; refine (H2.out _ (HP.out.keep B1.out)).mono ?_; clear H2; rintro e V2 ⟨rfl, hb⟩; have B2 := Lib.hid (B1.out.trans (hb.mono B1.out.size)); clear hb)
    | fail)
  go_ret
  exact ⟨rfl, B2.out⟩
set_option maxHeartbeats 800000 in
theorem tput_a (n : Nat) (hn : n ≤ 700000) (h1 : n % 3600 = 0) (w : World) (hp : Pw w) : Calls Tryd.prog 23 #[.int .i64 n] w fun e w' => e = .returned (.string (bs (absL n))) ∧ Below w.heap.size w w' := by
  have L0 := dec_len 2 (n / 3600) (by omega)
  have L1 := six_len (n := n % 3600 / 60) (by omega)
  have L2 := six_len (n := n % 60) (by omega)
  have H0 : Hid (∀ V, Pw V → Calls Tryd.prog 51 #[.int .i64 ((n / 3600 : Nat) : Int)] V fun e w' => e = .returned (.string (bs (dec (n / 3600)))) ∧ Below V.heap.size V w') := Lib.hid fun V hV => itoa_any _ (by omega) V hV
  have H1 : Hid (∀ V, Pw V → Calls Tryd.prog 52 #[.int .i64 ((n % 3600 / 60 : Nat) : Int)] V fun e w' => e = .returned (.string (bs (sixL (n % 3600 / 60)))) ∧ Below V.heap.size V w') := Lib.hid fun V hV => sixtieth_put _ (by omega) V hV
  have H2 : Hid (∀ V, Pw V → Calls Tryd.prog 52 #[.int .i64 ((n % 60 : Nat) : Int)] V fun e w' => e = .returned (.string (bs (sixL (n % 60)))) ∧ Below V.heap.size V w') := Lib.hid fun V hV => sixtieth_put _ (by omega) V hV
  have q1 : (n : Int).tdiv 3600 = ((n / 3600 : Nat) : Int) := by rw [Int.tdiv_eq_ediv_of_nonneg (by omega)]; rfl
  have q2 : (n : Int).tmod 3600 = ((n % 3600 : Nat) : Int) := by rw [Int.tmod_eq_emod_of_nonneg (by omega)]; rfl
  have q3 : ((n % 3600 : Nat) : Int).tdiv 60 = ((n % 3600 / 60 : Nat) : Int) := by rw [Int.tdiv_eq_ediv_of_nonneg (by omega)]; rfl
  have q4 : (n : Int).tmod 60 = ((n % 60 : Nat) : Int) := by rw [Int.tmod_eq_emod_of_nonneg (by omega)]; rfl
  have c0 : ¬ ((n : Nat) : Int) < 0 := Int.not_lt.mpr (Int.natCast_nonneg n)
  have c1 : (((n % 3600 : Nat) : Int) != 0) = false := (congrArg (fun x : Int => x != 0) (show ((n % 3600 : Nat) : Int) = 0 by omega)).trans rfl
  have c2 : (((n % 60 : Nat) : Int) != 0) = false := (congrArg (fun x : Int => x != 0) (show ((n % 60 : Nat) : Int) = 0 by omega)).trans rfl
  have W1 : wrap64 ((n / 3600 : Nat) : Int) = ((n / 3600 : Nat) : Int) := w_id (by omega) (by omega)
  have W2 : wrap64 ((n % 3600 / 60 : Nat) : Int) = ((n % 3600 / 60 : Nat) : Int) := w_id (by omega) (by omega)
  have E : absL n = dec (n / 3600) := by unfold absL; rw [if_pos (by omega), if_pos (by omega)]; simp
  rw [E]
  have HP := Lib.hid hp
  clear hp L0 L1 L2 E
  generalize bs ((dec (n / 3600) ++ sixL (n % 3600 / 60)) ++ sixL (n % 60)) = S4 at *
  generalize bs (dec (n / 3600) ++ sixL (n % 3600 / 60)) = S3 at *
  generalize bs (sixL (n % 3600 / 60)) = S1 at *
  generalize bs (sixL (n % 60)) = S2 at *
  generalize bs (dec (n / 3600)) = S0 at *
  generalize n % 3600 / 60 = k1 at *
  generalize n % 3600 = k2 at *
  generalize n % 60 = k3 at *
  generalize n / 3600 = k0 at *
  go_enter Tryd.func23, Tryd.ntmps23
  go_wp2_with (first
    | (go_at_call 51; refine (H0.out _ HP.out).mono ?_; clear H0; rintro e V0 ⟨rfl, hb⟩; have B0 := Lib.hid hb; clear hb)
    | fail)
  go_ret
  exact ⟨rfl, B0.out⟩
end Go.Proofs.YtkfhipkcnocokaaDoor.Fo
