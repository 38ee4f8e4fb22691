/-
  Layer 7 (footer): what is parsed has a text that is no longer than what was read.
-/
import Derived.Test.YtakmnjlcnjkflaaDoorFoBack4
namespace Go.Proofs.YtakmnjlcnjkflaaDoor.Fo
open Go.RowKit

theorem dig_of {b : UInt8} (h : dgt b.toNat = true) : ∃ a : Fin 10, b = dig a := by
  unfold dgt at h
  simp only [decide_eq_true_eq] at h
  refine ⟨⟨b.toNat - 48, by omega⟩, ?_⟩
  unfold dig
  simp only
  rw [show 48 + (b.toNat - 48) = b.toNat by omega]
  simp
theorem at_1 : ∀ a : Fin 10, atoiV [dig a] = ((a : Nat) : Int) := by decide +kernel
theorem at_2 : ∀ a b : Fin 10, atoiV [dig a, dig b] = ((10 * a + b : Nat) : Int) := by decide +kernel
theorem at_3 : ∀ a b c : Fin 10, atoiV [dig a, dig b, dig c] = ((100 * a + 10 * b + c : Nat) : Int) := by decide +kernel
theorem atoi_c (l : List UInt8) (ha : l.all (fun b => dgt b.toNat) = true) (h1 : 1 ≤ l.length) (h3 : l.length ≤ 3) : ∃ v : Nat, atoiV l = (v : Int) ∧ v < 10 ^ l.length := by
  match l, ha, h1, h3 with
  | [a], ha, _, _ =>
    simp only [List.all_cons, Bool.and_eq_true] at ha
    obtain ⟨x, rfl⟩ := dig_of ha.1
    exact ⟨_, at_1 x, by have := x.isLt; simp⟩
  | [a, b], ha, _, _ =>
    simp only [List.all_cons, Bool.and_eq_true] at ha
    obtain ⟨x, rfl⟩ := dig_of ha.1
    obtain ⟨y, rfl⟩ := dig_of ha.2.1
    exact ⟨_, at_2 x y, by have := x.isLt; have := y.isLt; simp; omega⟩
  | [a, b, c], ha, _, _ =>
    simp only [List.all_cons, Bool.and_eq_true] at ha
    obtain ⟨x, rfl⟩ := dig_of ha.1
    obtain ⟨y, rfl⟩ := dig_of ha.2.1
    obtain ⟨z, rfl⟩ := dig_of ha.2.2.1
    exact ⟨_, at_3 x y z, by have := x.isLt; have := y.isLt; have := z.isLt; simp; omega⟩
  | _ :: _ :: _ :: _ :: _, _, _, h => simp at h
theorem all_take (p : Nat → Bool) : ∀ l : List UInt8, (l.takeWhile fun b => p b.toNat).all (fun b => p b.toNat) = true
  | [] => rfl
  | b :: l => by
    rw [List.takeWhile_cons]
    cases h : p b.toNat with
    | false => rfl
    | true => simp only [if_true, List.all_cons, h, Bool.true_and]; exact all_take p l
theorem run_len (p : Nat → Bool) (s : St) : (runV p s).length + (runS p s).left.length = s.left.length := by
  have := congrArg List.length (List.takeWhile_append_dropWhile (p := fun b : UInt8 => p b.toNat) (l := s.left))
  rw [List.length_append] at this
  exact this
theorem need_c {s : St} {b : Bool} (h : (s.need b).wrong = false) : s.wrong = false ∧ b = true := by
  unfold St.need at h
  simp only [Bool.or_eq_false_iff, Bool.not_eq_false'] at h
  exact h
theorem next_c {c : Nat} {s : St} (h : nextB c s = true) : (nextS c s).wrong = s.wrong ∧ (nextS c s).left.length + 1 = s.left.length := by
  unfold nextS
  rw [if_pos h]
  refine ⟨rfl, ?_⟩
  unfold nextB at h
  cases hl : s.left with
  | nil => rw [hl] at h; cases h
  | cons b t => simp
theorem next_w (c : Nat) (s : St) : (nextS c s).wrong = s.wrong := by
  unfold nextS; split <;> rfl
theorem num_c {few most : Nat} (h1 : 1 ≤ few) (h3 : most ≤ 3) {s : St} (h : (numS few most s).wrong = false) :
    s.wrong = false ∧ ∃ v : Nat, numV s = (v : Int) ∧ ∃ k : Nat, few ≤ k ∧ k ≤ most ∧ v < 10 ^ k ∧ k + (numS few most s).left.length = s.left.length := by
  unfold numS at h
  obtain ⟨hw, hb⟩ := need_c h
  unfold inB at hb
  simp only [Bool.and_eq_true, decide_eq_true_eq] at hb
  obtain ⟨v, hv, hl⟩ := atoi_c (runV dgt s) (all_take dgt s.left) (by omega) (by omega)
  exact ⟨hw, v, hv, (runV dgt s).length, by omega, by omega, hl, run_len dgt s⟩
theorem dec_c {v k : Nat} (h1 : 1 ≤ k) (h : v < 10 ^ k) : (dec v).length ≤ k := by
  obtain ⟨j, rfl⟩ : ∃ j, k = j + 1 := ⟨k - 1, by omega⟩
  exact dec_len j v h
theorem six_c {s : St} (h : (sixS s).wrong = false) : s.wrong = false ∧ ∃ v : Nat, numV s = (v : Int) ∧ v < 60 ∧ 2 + (sixS s).left.length = s.left.length := by
  unfold sixS at h
  obtain ⟨hw, hb⟩ := need_c h
  simp only [decide_eq_true_eq] at hb
  obtain ⟨hw2, v, hv, k, k1, k2, hk, hl⟩ := num_c (few := 2) (most := 2) (by decide) (by decide) hw
  refine ⟨hw2, v, hv, by omega, ?_⟩
  have : k = 2 := by omega
  subst this
  exact hl
theorem hms (h m s : Nat) (hm : m < 60) (hs : s < 60) : (3600 * h + 60 * m + s) / 3600 = h ∧ (3600 * h + 60 * m + s) % 3600 / 60 = m ∧ (3600 * h + 60 * m + s) % 60 = s := by
  refine ⟨?_, ?_, ?_⟩ <;> omega
theorem abs_hms (h m s : Nat) (hm : m < 60) (hs : s < 60) : (absL (3600 * h + 60 * m + s)).length ≤ (dec h).length + (if m = 0 ∧ s = 0 then 0 else 3) + (if s = 0 then 0 else 3) := by
  obtain ⟨e1, e2, e3⟩ := hms h m s hm hs
  have l2 := six_len3 hm
  have l3 := six_len3 hs
  unfold absL
  rw [e1, e2, e3, List.length_append, List.length_append]
  have z : (3600 * h + 60 * m + s) % 3600 = 0 ↔ m = 0 ∧ s = 0 := by omega
  by_cases hz : m = 0 ∧ s = 0
  · rw [if_pos (z.mpr hz), if_pos hz, if_pos hz.2, if_pos hz.2]; simp
  · rw [if_neg (fun x => hz (z.mp x)), if_neg hz]
    by_cases hs0 : s = 0
    · rw [if_pos hs0, if_pos hs0, l2]; simp
    · rw [if_neg hs0, if_neg hs0, l2, l3]; omega
theorem tim_c {s : St} (h : (timS s).wrong = false) : s.wrong = false ∧ ∃ n : Nat, timV s = (n : Int) ∧ n ≤ 4000000 ∧ (absL n).length + (timS s).left.length ≤ s.left.length := by
  unfold timS at h ⊢
  unfold timV
  simp only at h ⊢
  cases b1 : nextB 58 (numS 1 3 s) with
  | false =>
    simp only [b1, Bool.false_eq_true, if_false] at h ⊢
    obtain ⟨hw, v, hv, k, k1, k2, hk, hl⟩ := num_c (few := 1) (most := 3) (by decide) (by decide) h
    have hk3 : v < 1000 := Nat.lt_of_lt_of_le hk (Nat.pow_le_pow_right (by decide) k2)
    refine ⟨hw, 3600 * v + 60 * 0 + 0, ?_, by omega, ?_⟩
    · rw [hv, w64_id (by omega) (by omega)]; omega
    · have := abs_hms v 0 0 (by decide) (by decide)
      have := dec_c k1 hk
      simp at *; omega
  | true =>
    simp only [b1, if_true] at h ⊢
    obtain ⟨nw, nl⟩ := next_c b1
    cases b2 : nextB 58 (sixS (nextS 58 (numS 1 3 s))) with
    | false =>
      simp only [b2, Bool.false_eq_true, if_false] at h ⊢
      obtain ⟨hw6, m, hm, m60, ml⟩ := six_c h
      obtain ⟨hw, v, hv, k, k1, k2, hk, hl⟩ := num_c (few := 1) (most := 3) (by decide) (by decide) (nw.symm.trans hw6)
      have hk3 : v < 1000 := Nat.lt_of_lt_of_le hk (Nat.pow_le_pow_right (by decide) k2)
      have hl' : k + (numS 1 3 s).left.length = s.left.length := hl
      refine ⟨hw, 3600 * v + 60 * m + 0, ?_, by omega, ?_⟩
      · rw [hv, hm, w64_id (x := (v : Int) * 3600) (by omega) (by omega), w64_id (x := (m : Int) * 60) (by omega) (by omega), w64_id (by omega) (by omega)]; omega
      · have a := abs_hms v m 0 m60 (by decide)
        have b := dec_c k1 hk
        have c : (if m = 0 ∧ (0 : Nat) = 0 then 0 else 3) ≤ 3 := by split <;> omega
        have d : (if (0 : Nat) = 0 then 0 else 3) = 0 := rfl
        omega
    | true =>
      simp only [b2, if_true] at h ⊢
      obtain ⟨nw2, nl2⟩ := next_c b2
      obtain ⟨hw7, c, hc, c60, cl⟩ := six_c h
      obtain ⟨hw6, m, hm, m60, ml⟩ := six_c (nw2.symm.trans hw7)
      obtain ⟨hw, v, hv, k, k1, k2, hk, hl⟩ := num_c (few := 1) (most := 3) (by decide) (by decide) (nw.symm.trans hw6)
      have hk3 : v < 1000 := Nat.lt_of_lt_of_le hk (Nat.pow_le_pow_right (by decide) k2)
      have hl' : k + (numS 1 3 s).left.length = s.left.length := hl
      refine ⟨hw, 3600 * v + 60 * m + c, ?_, by omega, ?_⟩
      · rw [hv, hm, hc, w64_id (x := (v : Int) * 3600) (by omega) (by omega), w64_id (x := (m : Int) * 60) (by omega) (by omega), w64_id (x := (v : Int) * 3600 + (m : Int) * 60) (by omega) (by omega), w64_id (by omega) (by omega)]; omega
      · have a := abs_hms v m c m60 c60
        have b := dec_c k1 hk
        have c1 : (if m = 0 ∧ c = 0 then 0 else 3) ≤ 3 := by split <;> omega
        have d1 : (if c = 0 then 0 else 3) ≤ 3 := by split <;> omega
        omega
theorem sgn_c {s : St} (h : (sgnS s).wrong = false) : s.wrong = false ∧ -4000000 ≤ sgnV s ∧ sgnV s ≤ 4000000 ∧ (timL (sgnV s)).length + (sgnS s).left.length ≤ s.left.length := by
  unfold sgnS at h ⊢
  unfold sgnV
  cases b1 : nextB 45 s with
  | false =>
    simp only [b1, Bool.false_eq_true, if_false] at h ⊢
    obtain ⟨hw, n, hn, n4, hl⟩ := tim_c h
    rw [hn]
    unfold timL
    rw [if_neg (by omega), Int.natAbs_natCast]
    exact ⟨hw, by omega, by omega, hl⟩
  | true =>
    simp only [b1, if_true] at h ⊢
    obtain ⟨nw, nl⟩ := next_c b1
    obtain ⟨hw2, hb⟩ := need_c h
    obtain ⟨hw, n, hn, n4, hl⟩ := tim_c hw2
    rw [hn] at hb ⊢
    have n0 : 0 < n := by
      rcases Nat.eq_zero_or_pos n with h0 | h0
      · subst h0; cases hb
      · exact h0
    rw [w64_id (by omega) (by omega)]
    unfold timL
    rw [if_pos (by omega), Int.natAbs_neg, Int.natAbs_natCast, List.length_cons]
    have e : ((timS (nextS 45 s)).need ((n : Int) != 0)).left = (timS (nextS 45 s)).left := rfl
    rw [e]
    exact ⟨nw.symm.trans hw, by omega, by omega, by omega⟩
theorem off_c {s : St} (h : (offS s).wrong = false) : s.wrong = false ∧ (timL (-offV s)).length + (offS s).left.length ≤ s.left.length := by
  unfold offS at h ⊢
  unfold offV
  cases b1 : nextB 43 s with
  | false =>
    simp only [b1, Bool.false_eq_true, if_false] at h ⊢
    obtain ⟨hw, l1, l2, hl⟩ := sgn_c h
    rw [w64_id (by omega) (by omega), Int.neg_neg]
    exact ⟨hw, hl⟩
  | true =>
    simp only [b1, if_true] at h ⊢
    obtain ⟨nw, nl⟩ := next_c b1
    obtain ⟨hw, n, hn, n4, hl⟩ := tim_c h
    rw [hn, w64_id (by omega) (by omega), Int.neg_neg]
    unfold timL
    rw [if_neg (by omega), Int.natAbs_natCast]
    exact ⟨nw.symm.trans hw, by omega⟩
theorem nam_c {s : St} (h : (namS s).wrong = false) : s.wrong = false ∧ (namL (namV s)).length + (namS s).left.length ≤ s.left.length := by
  unfold namS at h ⊢
  unfold namV
  cases b1 : nextB 60 s with
  | false =>
    simp only [b1, Bool.false_eq_true, if_false] at h ⊢
    refine ⟨h, ?_⟩
    unfold namL
    rw [if_pos (show ((runV ltr s).all fun b => ltr b.toNat) = true from all_take ltr s.left)]
    have := run_len ltr s
    omega
  | true =>
    simp only [b1, if_true] at h ⊢
    obtain ⟨nw, nl⟩ := next_c b1
    obtain ⟨hw2, hb⟩ := need_c h
    obtain ⟨nw2, nl2⟩ := next_c hb
    have hw3 : (nextS 60 s).wrong = false := nw2.symm.trans hw2
    refine ⟨nw.symm.trans hw3, ?_⟩
    have e : ((nextS 62 (runS mrk (nextS 60 s))).need (nextB 62 (runS mrk (nextS 60 s)))).left = (nextS 62 (runS mrk (nextS 60 s))).left := rfl
    rw [e]
    have := run_len mrk (nextS 60 s)
    have := nam_len (runV mrk (nextS 60 s))
    omega
end Go.Proofs.YtakmnjlcnjkflaaDoor.Fo
