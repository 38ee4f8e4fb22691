/-
  Layer 11 (lines): whole lines as the document's Parse takes them. Nothing of the program stands here.
-/
import Derived.Test.YtokeepmlibolfaaDoorLnOwn
namespace Go.Proofs.YtokeepmlibolfaaDoor.Ln

/-- What is told of a whole line that has begun in line n, and stands at line i. -/
def contR (x : List UInt8) (ls : List (List UInt8)) (i n : Nat) : List (Nat × List UInt8) :=
  if onB x then wholesL ls (i + 1) n (partL x ++ [32]) else (n, trimL x) :: wholesL ls (i + 1) 0 []
theorem on_cases (y : List UInt8) : (onB y = true ∧ ∃ z, y = z ++ [92] ∧ partL y = z) ∨ (onB y = false ∧ partL y = y ∧ (y = [] ∨ ∃ z c, y = z ++ [c] ∧ (c == (92 : UInt8)) = false)) := by
  rcases List.eq_nil_or_concat y with h | ⟨z, c, h⟩
  · subst h; exact .inr ⟨rfl, rfl, .inl rfl⟩
  · rw [List.concat_eq_append] at h
    subst h
    have hs : Lib.hasSuffix (z ++ [c]) [92] = (c == 92) := by
      unfold Lib.hasSuffix
      rw [Bool.eq_iff_iff, List.isSuffixOf_iff_suffix, beq_iff_eq]
      constructor
      · rintro ⟨t, ht⟩
        have := congrArg (fun l => l.reverse.head?) ht
        simp at this
        exact this.symm
      · rintro rfl; exact ⟨z, rfl⟩
    cases hc : (c == (92 : UInt8)) with
    | true =>
      obtain rfl := beq_iff_eq.mp hc
      exact .inl ⟨on_snoc z, z, rfl, part_snoc z⟩
    | false =>
      refine .inr ⟨by unfold onB; rw [hs, hc], ?_, .inr ⟨z, c, rfl, hc⟩⟩
      unfold partL Lib.trimSuffix
      rw [hs, hc]
      simp
theorem on_last (w : List UInt8) (c : UInt8) (hc : (c == (92 : UInt8)) = false) : onB (w ++ [c]) = false := by
  rcases on_cases (w ++ [c]) with ⟨_, z, h, _⟩ | ⟨h, _⟩
  · have := congrArg (fun l => l.reverse.head?) h
    simp at this
    subst this
    exact absurd hc (by decide)
  · exact h
theorem part_not {y : List UInt8} (h : onB y = false) : partL y = y := by
  rcases on_cases y with ⟨h1, _⟩ | ⟨_, h2, _⟩
  · rw [h] at h1; cases h1
  · exact h2
theorem on_blank (w : List UInt8) : onB (w ++ [32]) = false := on_last w 32 (by decide)
theorem on_app {w : List UInt8} (y : List UInt8) (hw : onB w = false) : onB (w ++ y) = onB y ∧ partL (w ++ y) = w ++ partL y := by
  rcases on_cases y with ⟨h1, z, rfl, h3⟩ | ⟨h1, h2, rfl | ⟨z, c, rfl, hc⟩⟩
  · rw [h1, h3, ← List.append_assoc]; exact ⟨on_snoc _, part_snoc _⟩
  · rw [List.append_nil, h1, h2, List.append_nil]; exact ⟨hw, part_not hw⟩
  · have h := on_last (w ++ z) c hc
    rw [h1, h2, ← List.append_assoc]; exact ⟨h, part_not h⟩
theorem cont_begin {l : List UInt8} (ls : List (List UInt8)) (i : Nat) (h : skips 0 (crL l) = false) : wholesL (l :: ls) i 0 [] = contR (crL l) ls i (i + 1) := by
  unfold contR
  rw [wholesL, h]
  cases ho : onB (crL l) with
  | true => simp
  | false => simp [part_not ho]
theorem cont_next {l w : List UInt8} (ls : List (List UInt8)) (i n : Nat) (h : remB (crL l) = false) (hn : n ≠ 0) (hw : onB w = false) : wholesL (l :: ls) i n w = contR (w ++ crL l) ls i n := by
  unfold contR
  obtain ⟨h1, h2⟩ := on_app (crL l) hw
  have hs : skips n (crL l) = false := by unfold skips; rw [h, decide_eq_false hn]; rfl
  rw [wholesL, hs, h1, h2]
  cases ho : onB (crL l) with
  | true => simp [hn]
  | false => simp [hn, part_not ho]
theorem cont_end {w : List UInt8} (i n : Nat) (hn : n ≠ 0) (hw : onB w = false) : wholesL [] i n w = contR w [] i n := by
  unfold contR
  rw [wholesL, if_neg hn, hw]
  rfl
theorem whole_skip {l : List UInt8} (ls : List (List UInt8)) (i b : Nat) (w : List UInt8) (h : skips b (crL l) = true) : wholesL (l :: ls) i b w = wholesL ls (i + 1) b w := by
  rw [wholesL, if_pos h]
theorem rem_skips {l : List UInt8} (n : Nat) (h : remB l = true) : skips n l = true := by unfold skips; rw [h]; rfl
theorem cont_on {x : List UInt8} (ls : List (List UInt8)) (i n : Nat) (h : onB x = true) : contR x ls i n = wholesL ls (i + 1) n (partL x ++ [32]) := by unfold contR; rw [if_pos h]
theorem cont_off {x : List UInt8} (ls : List (List UInt8)) (i n : Nat) (h : onB x = false) : contR x ls i n = (n, trimL x) :: wholesL ls (i + 1) 0 [] := by unfold contR; rw [h]; rfl
/-- A line that begins with [ is no assignment. -/
theorem pre_cons {X : List UInt8} (h : Lib.hasPrefix X [91] = true) : ∃ r, X = 91 :: r := by
  unfold Lib.hasPrefix at h
  obtain ⟨t, ht⟩ := List.isPrefixOf_iff_prefix.mp h
  exact ⟨t, ht.symm⟩
theorem cut_no {l : List UInt8} (h : (61 : UInt8) ∉ l) : Lib.cut l [61] = (l, [], false) := by
  have hi : ∀ l : List UInt8, (61 : UInt8) ∉ l → Lib.index l [61] = -1 := fun l => by
    induction l with
    | nil => intro _; rfl
    | cons x l ih =>
      intro h
      have hx : (61 : UInt8) ≠ x := fun e => h (by rw [e]; exact List.mem_cons_self)
      rw [Lib.index, ih (fun m => h (List.mem_cons_of_mem _ m))]
      simp [List.isPrefixOf, hx]
  unfold Lib.cut
  rw [hi l h]
  rfl
/-- The first '='. -/
theorem cut_first {l : List UInt8} {a : Nat} (ha : a < l.length) (h61 : l.getD a 0 = 61) (hno : ∀ j, j < a → l.getD j 0 ≠ 61) : Lib.cut l [61] = (l.take a, l.drop (a + 1), true) := by
  have hx : l[a] = 61 := by rw [List.getD_eq_getElem?_getD, List.getElem?_eq_getElem ha] at h61; exact h61
  have e : l = l.take a ++ 61 :: l.drop (a + 1) := by
    conv => lhs; rw [← List.take_append_drop a l, List.drop_eq_getElem_cons ha, hx]
  have hm : (61 : UInt8) ∉ l.take a := fun hm => by
    obtain ⟨i, hi, he⟩ := List.getElem_of_mem hm
    rw [List.getElem_take] at he
    rw [List.length_take] at hi
    refine hno i (by omega) ?_
    rw [List.getD_eq_getElem?_getD, List.getElem?_eq_getElem (by omega)]
    exact he
  have := cut_at (l.take a) (l.drop (a + 1)) hm
  rw [← e] at this
  exact this
theorem cut_none {l : List UInt8} (hno : ∀ j, j < l.length → l.getD j 0 ≠ 61) : Lib.cut l [61] = (l, [], false) := cut_no fun hm => by
  obtain ⟨i, hi, he⟩ := List.getElem_of_mem hm
  refine hno i hi ?_
  rw [List.getD_eq_getElem?_getD, List.getElem?_eq_getElem hi]
  exact he
theorem key_brk (r : List UInt8) : keyB (91 :: r) = false := by
  unfold keyB
  have : (List.range (91 :: r : List UInt8).length).all (fun i => goes i ((91 :: r : List UInt8).getD i 0)) = false := by
    rw [List.all_eq_false]
    refine ⟨0, List.mem_range.mpr (by simp), ?_⟩
    show ¬ goes 0 91 = true
    decide
  rw [this]; rfl
theorem key_nil : keyB [] = false := by decide
theorem asg_brk {X : List UInt8} (h : Lib.hasPrefix X [91] = true) : asgB X = false := by
  obtain ⟨r, rfl⟩ := pre_cons h
  unfold asgB asgK
  by_cases hm : (61 : UInt8) ∈ r
  · obtain ⟨a, b, e, ha⟩ := List.eq_append_cons_of_mem hm
    have hc := cut_at (91 :: a) b (fun h => (List.mem_cons.mp h).elim (fun h => absurd h (by decide)) ha)
    rw [e, show (91 : UInt8) :: (a ++ 61 :: b) = (91 :: a) ++ 61 :: b from rfl, hc]
    rw [show trimL (91 :: a) = 91 :: rt a from trim_keep 91 a (by decide), key_brk]
    rfl
  · rw [cut_no (fun h => (List.mem_cons.mp h).elim (fun h => absurd h (by decide)) hm)]
    rfl
end Go.Proofs.YtokeepmlibolfaaDoor.Ln
