/-
  Layer 7 (footer): what is parsed has a text that is no longer: days, rules.
-/
import Derived.Test.YtakmnjlcnjkflaaDoorFoBack5
namespace Go.Proofs.YtakmnjlcnjkflaaDoor.Fo
open Go.RowKit

theorem num_n {few most : Nat} (h1 : 1 ≤ few) (h3 : most ≤ 3) {s : St} (h : (numS few most s).wrong = false) :
    s.wrong = false ∧ (dec (numV s).toNat).length + (numS few most s).left.length ≤ s.left.length := by
  obtain ⟨hw, v, hv, k, k1, k2, hk, hl⟩ := num_c h1 h3 h
  have := dec_c (by omega) hk
  rw [hv, Int.toNat_natCast]
  exact ⟨hw, by omega⟩
theorem head_c {s : St} (dd tt : Int) (h : (dayHead s).2.2.2.wrong = false) :
    s.wrong = false ∧ (datL ⟨(dayHead s).1, (dayHead s).2.1, (dayHead s).2.2.1, dd, tt⟩).length + (dayHead s).2.2.2.left.length ≤ s.left.length + (dec dd.toNat).length := by
  unfold dayHead at h ⊢
  cases b1 : nextB 77 s with
  | true =>
    simp only [b1, if_true] at h ⊢
    obtain ⟨nw, nl⟩ := next_c b1
    obtain ⟨h4, b4⟩ := need_c h
    obtain ⟨nw4, nl4⟩ := next_c b4
    obtain ⟨h3, l3⟩ := num_n (few := 1) (most := 1) (by decide) (by decide) (nw4.symm.trans h4)
    obtain ⟨h2, b2⟩ := need_c h3
    obtain ⟨nw2, nl2⟩ := next_c b2
    obtain ⟨h1, l1⟩ := num_n (few := 1) (most := 3) (by decide) (by decide) (nw2.symm.trans h2)
    refine ⟨nw.symm.trans h1, ?_⟩
    have e : ∀ (x y : Int), datL ⟨3, x, y, dd, tt⟩ = ((((77 :: dec x.toNat) ++ [46]) ++ dec y.toNat) ++ [46]) ++ dec dd.toNat := fun x y => (if_neg (show ¬ ((3 : Int) = 1) by decide)).trans (if_neg (show ¬ ((3 : Int) = 2) by decide))
    rw [e]
    have e2 : ∀ (x : St) (b : Bool), (x.need b).left = x.left := fun _ _ => rfl
    simp only [List.length_append, List.length_cons, List.length_nil, e2] at *
    have c1 : (((1 : Nat) : Int)) = 1 := rfl
    have c3 : (((3 : Nat) : Int)) = 3 := rfl
    simp only [c1, c3] at *
    omega
  | false =>
    simp only [b1, Bool.false_eq_true, if_false] at h ⊢
    cases b2 : nextB 74 s with
    | true =>
      simp only [b2, if_true] at h ⊢
      obtain ⟨nw, nl⟩ := next_c b2
      have e : datL ⟨1, 0, 0, dd, tt⟩ = 74 :: dec dd.toNat := if_pos rfl
      rw [e, List.length_cons]
      exact ⟨nw.symm.trans h, by omega⟩
    | false =>
      simp only [b2, Bool.false_eq_true, if_false] at h ⊢
      have e : datL ⟨2, 0, 0, dd, tt⟩ = dec dd.toNat := (if_neg (show ¬ ((2 : Int) = 1) by decide)).trans (if_pos rfl)
      rw [e]
      exact ⟨h, by omega⟩
theorem dayL_len (d : Dy) : (dayL d).length = (datL d).length + (tlL d).length := by
  unfold dayL tlL
  split
  · simp
  · simp only [List.length_append, List.length_cons, List.length_nil]; omega
theorem day_c {s : St} (h : (dayS s).wrong = false) : s.wrong = false ∧ (dayL (dayV s)).length + (dayS s).left.length ≤ s.left.length := by
  rw [dayL_len]
  unfold dayS at h ⊢
  unfold dayV
  simp only at h ⊢
  cases b1 : nextB 47 (numS 1 3 (dayHead s).2.2.2) with
  | false =>
    simp only [b1, Bool.false_eq_true, if_false] at h ⊢
    obtain ⟨h1, l1⟩ := num_n (few := 1) (most := 3) (by decide) (by decide) h
    obtain ⟨hw, l2⟩ := head_c (numV (dayHead s).2.2.2) 7200 h1
    refine ⟨hw, ?_⟩
    have e : tlL ⟨(dayHead s).1, (dayHead s).2.1, (dayHead s).2.2.1, numV (dayHead s).2.2.2, 7200⟩ = [] := if_pos rfl
    rw [e, List.length_nil]
    have l1' : (dec (numV (dayHead s).2.2.2).toNat).length + (numS 1 3 (dayHead s).2.2.2).left.length ≤ (dayHead s).2.2.2.left.length := l1
    omega
  | true =>
    simp only [b1, if_true] at h ⊢
    obtain ⟨nw, nl⟩ := next_c b1
    obtain ⟨h0, _, _, l0⟩ := sgn_c h
    obtain ⟨h1, l1⟩ := num_n (few := 1) (most := 3) (by decide) (by decide) (nw.symm.trans h0)
    obtain ⟨hw, l2⟩ := head_c (numV (dayHead s).2.2.2) (sgnV (nextS 47 (numS 1 3 (dayHead s).2.2.2))) h1
    refine ⟨hw, ?_⟩
    have e : (tlL ⟨(dayHead s).1, (dayHead s).2.1, (dayHead s).2.2.1, numV (dayHead s).2.2.2, sgnV (nextS 47 (numS 1 3 (dayHead s).2.2.2))⟩).length ≤ 1 + (timL (sgnV (nextS 47 (numS 1 3 (dayHead s).2.2.2)))).length := by
      unfold tlL
      simp only
      split
      · simp
      · rw [List.length_cons]; omega
    have l1' : (dec (numV (dayHead s).2.2.2).toNat).length + (numS 1 3 (dayHead s).2.2.2).left.length ≤ (dayHead s).2.2.2.left.length := l1
    omega
/-- Summer's offset: what is told of it, and the comma. -/
theorem ds_c {off : Int} (ho : offB off = true) {s : St} (h : (dstS s).wrong = false) :
    s.wrong = false ∧ (if dstV off s = off + 3600 then 0 else (timL (-dstV off s)).length) + 1 + (dstS s).left.length ≤ s.left.length := by
  obtain ⟨o1, o2⟩ := off_range ho
  unfold dstS at h ⊢
  unfold dstV
  cases b1 : nextB 44 s with
  | true =>
    simp only [b1, if_true] at h ⊢
    obtain ⟨nw, nl⟩ := next_c b1
    rw [w64_id (by omega) (by omega), if_pos rfl]
    exact ⟨nw.symm.trans h, by omega⟩
  | false =>
    simp only [b1, Bool.false_eq_true, if_false] at h ⊢
    obtain ⟨h1, b2⟩ := need_c h
    obtain ⟨nw, nl⟩ := next_c b2
    obtain ⟨hw, hl⟩ := off_c (nw.symm.trans h1)
    refine ⟨hw, ?_⟩
    have e : ((nextS 44 (offS s)).need (nextB 44 (offS s))).left = (nextS 44 (offS s)).left := rfl
    rw [e]
    split <;> omega
theorem ruled_c {s : St} (hr : rightR (ruleV s) = true) (h : (ruleS s).wrong = false) : (txL (ruleV s)).length + (ruleS s).left.length ≤ s.left.length := by
  have hf := right_f hr
  clear hr
  unfold ruleS at h ⊢
  unfold ruleV at hf ⊢
  simp only at h hf ⊢
  by_cases hs : (offS (namS s)).left = []
  · simp only [hs, if_true] at h hf ⊢
    obtain ⟨h1, l1⟩ := off_c h
    obtain ⟨h0, l0⟩ := nam_c h1
    have e := congrArg List.length (tx_no (r := ⟨bs (namV s), ⟨#[]⟩, offV (namS s), 0, dy0, dy0⟩) rfl [])
    simp only [List.length_append, List.length_nil] at e
    rw [hs] at l1
    simp only [List.length_nil] at l1 ⊢
    omega
  · simp only [hs, if_false] at h hf ⊢
    obtain ⟨h6, l6⟩ := day_c h
    obtain ⟨h5, b5⟩ := need_c h6
    obtain ⟨nw, nl⟩ := next_c b5
    obtain ⟨h4, l4⟩ := day_c (nw.symm.trans h5)
    obtain ⟨h3, l3⟩ := ds_c (off := offV (namS s)) hf.o1 h4
    obtain ⟨h2, l2⟩ := nam_c h3
    obtain ⟨h1, l1⟩ := off_c h2
    obtain ⟨h0, l0⟩ := nam_c h1
    have e2 : ∀ (x : St) (b : Bool), (x.need b).left = x.left := fun _ _ => rfl
    rw [e2] at l6
    generalize hR : (⟨bs (namV s), bs (namV (offS (namS s))), offV (namS s), dstV (offV (namS s)) (namS (offS (namS s))), dayV (dstS (namS (offS (namS s)))), dayV ((nextS 44 (dayS (dstS (namS (offS (namS s)))))).need (nextB 44 (dayS (dstS (namS (offS (namS s)))))))⟩ : Rl) = R at hf ⊢
    have e1 : R.std = bs (namV s) := by rw [← hR]
    have e3 : R.off = offV (namS s) := by rw [← hR]
    have e4 : R.dst = bs (namV (offS (namS s))) := by rw [← hR]
    have e5 : R.start = dayV (dstS (namS (offS (namS s)))) := by rw [← hR]
    have e6 : R.end_ = dayV ((nextS 44 (dayS (dstS (namS (offS (namS s)))))).need (nextB 44 (dayS (dstS (namS (offS (namS s))))))) := by rw [← hR]
    by_cases hz : R.dst.size = 0
    · have e := congrArg List.length (tx_no hz [])
      simp only [List.length_append, List.length_nil] at e
      rw [e1, e3, bs_list] at e
      omega
    · have e := congrArg List.length (tx_yes hz [])
      simp only [List.length_append, List.length_nil, List.length_cons] at e
      have ed : (dsL R).length = if dstV (offV (namS s)) (namS (offS (namS s))) = offV (namS s) + 3600 then 0 else (timL (-dstV (offV (namS s)) (namS (offS (namS s))))).length := by
        rw [← hR]
        unfold dsL
        simp only
        split <;> rfl
      rw [ed] at e
      rw [e1, e3, e4, e5, e6, bs_list, bs_list] at e
      omega
/-- What is parsed is right, its text is parsed as it, and is no longer. -/
theorem parse_back {s : ByteArray} {y : Rl} (h : parseR s = some y) : rightR y = true ∧ parseR (bs (txL y)) = some y ∧ (txL y).length ≤ s.size := by
  unfold parseR at h
  split at h
  · cases h
  · simp only at h
    split at h
    · cases h
    · split at h
      · cases h
      · split at h
        · rename_i h1 h2 h3 h4
          injection h with h
          have hw : (ruleS ⟨s.data.toList, false⟩).wrong = false := by simpa using h2
          have hl := ruled_c h4 hw
          rw [h] at h4 hl
          refine ⟨h4, parse_tx y h4, ?_⟩
          have : s.data.toList.length = s.size := by rw [Array.length_toList]; rfl
          simp only at hl
          omega
        · cases h
end Go.Proofs.YtakmnjlcnjkflaaDoor.Fo
