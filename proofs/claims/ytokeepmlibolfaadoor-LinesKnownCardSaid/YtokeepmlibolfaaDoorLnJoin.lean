/-
  Layer 11 (lines): what Parse tells of a value in two lines. Nothing of the program stands here.
-/
import Derived.Test.YtokeepmlibolfaaDoorLnParse
namespace Go.Proofs.YtokeepmlibolfaaDoor.Ln

theorem index_at (c : UInt8) : ∀ (a b : List UInt8), c ∉ a → Lib.index (a ++ c :: b) [c] = (a.length : Int)
  | [], b, _ => by rw [List.nil_append, Lib.index]; simp [List.isPrefixOf]
  | x :: a, b, h => by
    have hx : c ≠ x := fun e => h (by rw [e]; exact List.mem_cons_self)
    have ih := index_at c a b (fun m => h (List.mem_cons_of_mem _ m))
    rw [List.cons_append, Lib.index, ih]
    have hp : ([c] : List UInt8).isPrefixOf (x :: (a ++ c :: b)) = false := by simp [List.isPrefixOf, hx]
    have hm : (((a.length : Nat) : Int) == -1) = false := beq_eq_false_iff_ne.mpr (by omega)
    rw [hp, hm]
    simp
theorem lines_at (a b : List UInt8) (h : (10 : UInt8) ∉ a) : linesL (a ++ 10 :: b) = a :: linesL b := by
  unfold linesL Lib.split
  rw [Lib.count_one, Lib.count_one, List.count_append, List.count_eq_zero_of_not_mem h, List.count_cons_self, Nat.zero_add, Lib.splitK, index_at 10 a b h]
  have hm : (((a.length : Nat) : Int) == -1) = false := beq_eq_false_iff_ne.mpr (by omega)
  rw [hm]
  simp
theorem lines_nil : linesL [] = [[]] := by kernel_rfl
theorem cut_at (a b : List UInt8) (h : (61 : UInt8) ∉ a) : Lib.cut (a ++ 61 :: b) [61] = (a, b, true) := by
  unfold Lib.cut
  rw [index_at 61 a b h, if_pos (by omega)]
  simp
theorem suf_no {a : List UInt8} {c : UInt8} (h : c ∉ a) : Lib.hasSuffix a [c] = false := by
  cases hs : Lib.hasSuffix a [c] with
  | false => rfl
  | true =>
    unfold Lib.hasSuffix at hs
    obtain ⟨t, ht⟩ := List.isSuffixOf_iff_suffix.mp hs
    exact absurd (by rw [← ht]; simp) h
theorem cr_id {a : List UInt8} (h : (13 : UInt8) ∉ a) : crL a = a := by unfold crL Lib.trimSuffix; rw [suf_no h]; simp
theorem on_no {a : List UInt8} (h : (92 : UInt8) ∉ a) : onB a = false := suf_no h
theorem part_no {a : List UInt8} (h : (92 : UInt8) ∉ a) : partL a = a := by unfold partL Lib.trimSuffix; rw [suf_no h]; simp
theorem on_snoc (a : List UInt8) : onB (a ++ [92]) = true := by
  unfold onB Lib.hasSuffix
  exact List.isSuffixOf_iff_suffix.mpr ⟨a, rfl⟩
theorem part_snoc (a : List UInt8) : partL (a ++ [92]) = a := by
  have := on_snoc a
  unfold onB at this
  unfold partL Lib.trimSuffix
  rw [this]
  simp
/-- Blanks at the end alone. -/
def rt (l : List UInt8) : List UInt8 := Lib.trimRightS l [9, 32]
theorem rt_le (l : List UInt8) : (rt l).length ≤ l.length := by
  unfold rt Lib.trimRightS
  have h := List.IsSuffix.length_le (List.dropWhile_suffix (l := l.reverse) (([9, 32] : List UInt8).contains ·))
  rw [List.length_reverse] at h ⊢
  exact h
theorem rt_keep (p : List UInt8) (c : UInt8) (r : List UInt8) (hc : ([9, 32] : List UInt8).contains c = false) : rt (p ++ c :: r) = p ++ c :: rt r := by
  unfold rt Lib.trimRightS
  have e : (p ++ c :: r).reverse = r.reverse ++ (c :: p.reverse) := by simp
  rw [e, List.dropWhile_append]
  have hd : (c :: p.reverse).dropWhile (([9, 32] : List UInt8).contains ·) = c :: p.reverse := by rw [List.dropWhile_cons, if_neg (by rw [hc]; decide)]
  split
  · rename_i h0
    have h1 : List.dropWhile (([9, 32] : List UInt8).contains ·) r.reverse = [] := by simpa using h0
    rw [hd, h1]; simp
  · simp
theorem trim_keep (c : UInt8) (r : List UInt8) (hc : ([9, 32] : List UInt8).contains c = false) : trimL (c :: r) = c :: rt r := by
  have := rt_keep [] c r hc
  unfold rt at this
  unfold trimL Lib.trimS
  rw [List.nil_append] at this
  rw [this]
  unfold Lib.trimLeftS
  rw [List.nil_append, List.dropWhile_cons, if_neg (by rw [hc]; decide)]
  rfl
theorem skip_no (b : Nat) (c : UInt8) (r : List UInt8) (hc : ([9, 32, 35, 59] : List UInt8).contains c = false) : skips b (c :: r) = false := by
  simp only [List.contains_cons, List.contains_nil, Bool.or_false, Bool.or_eq_false_iff, beq_eq_false_iff_ne] at hc
  unfold skips remB blankB
  rw [trim_keep c r (by simp only [List.contains_cons, List.contains_nil, Bool.or_false, Bool.or_eq_false_iff, beq_eq_false_iff_ne]; exact ⟨hc.1, hc.2.1⟩)]
  simp [Lib.hasPrefix, List.isPrefixOf, Ne.symm hc.2.2.1, Ne.symm hc.2.2.2]
theorem skip_rem (b : Nat) (q : List UInt8) : skips b (32 :: 35 :: 32 :: q ++ [92]) = true := by
  have h := rt_keep (32 :: 35 :: 32 :: q) 92 [] (by decide)
  have h2 : trimL (32 :: 35 :: 32 :: q ++ [92]) = 35 :: 32 :: q ++ 92 :: rt [] := by
    unfold trimL Lib.trimS
    unfold rt at h
    rw [h]
    rfl
  unfold skips remB
  rw [h2]
  rfl
theorem skip_semi (b : Nat) : skips b [59] = true := by unfold skips; rw [show remB [59] = true by kernel_rfl]; rfl
/-- A whole line that is an assignment. -/
def joined (x y : List UInt8) : List UInt8 := 107 :: 61 :: rt (x ++ 32 :: y)
theorem joined_eq (x y : List UInt8) : trimL (107 :: 61 :: (x ++ 32 :: y)) = joined x y := by
  rw [trim_keep _ _ (by decide), show (61 :: (x ++ 32 :: y) : List UInt8) = [] ++ 61 :: (x ++ 32 :: y) from rfl, rt_keep _ _ _ (by decide)]
  rfl
theorem joined_asg (x y : List UInt8) : asgB (joined x y) = true := by
  have h := cut_at [107] (rt (x ++ 32 :: y)) (by decide)
  unfold asgB asgK joined
  rw [show (107 :: 61 :: rt (x ++ 32 :: y) : List UInt8) = [107] ++ 61 :: rt (x ++ 32 :: y) from rfl, h]
  show (true && keyB (trimL [107])) = true
  kernel_rfl
/-- Neither an end of a line nor a backslash. -/
def Pl (l : List UInt8) : Prop := (10 : UInt8) ∉ l ∧ (13 : UInt8) ∉ l ∧ (92 : UInt8) ∉ l
theorem Pl.app {a b : List UInt8} (h : Pl a) (k : Pl b) : Pl (a ++ b) := by
  unfold Pl at *
  simp only [List.mem_append]
  exact ⟨fun e => e.elim h.1 k.1, fun e => e.elim h.2.1 k.2.1, fun e => e.elim h.2.2 k.2.2⟩
/-- What is told of it. -/
def told (x y : List UInt8) (n : Nat) : Fs := ⟨[(2, [83], asgK (joined x y), asgV (joined x y)), (n, [83], [122], [49])], [], [83]⟩
theorem fold_told (x y : List UInt8) (n : Nat) (hl : x.length + y.length ≤ 1000) : pfold [(1, [91, 83, 93]), (2, joined x y), (n, [122, 61, 49])] = told x y n := by
  have h1 : pfold [(1, [91, 83, 93])] = ⟨[], [], [83]⟩ := by kernel_rfl
  have hlen : ¬ 4096 < (joined x y).length := by
    have := rt_le (x ++ 32 :: y)
    simp only [List.length_append, List.length_cons] at this
    unfold joined
    simp only [List.length_cons]
    omega
  have h2 : pstep ⟨[], [], [83]⟩ (2, joined x y) = ⟨[(2, [83], asgK (joined x y), asgV (joined x y))], [], [83]⟩ := step_asg hlen (joined_asg x y) rfl
  have e2 := pfold_snoc [(1, [91, 83, 93])] (2, joined x y)
  have e3 := pfold_snoc ([(1, [91, 83, 93])] ++ [(2, joined x y)]) (n, [122, 61, 49])
  rw [h1, h2] at e2
  rw [e2, step_asg (x := (n, [122, 61, 49])) (by simp) (by kernel_rfl) (by rfl)] at e3
  exact e3.trans (by unfold told; congr 1)
/-- A section's line ahead, z=1 behind. -/
theorem wholes_head (ls : List (List UInt8)) : wholesL ([91, 83, 93] :: ls) 0 0 [] = (1, [91, 83, 93]) :: wholesL ls 1 0 [] := by
  rw [wholesL, if_neg (by rw [show skips 0 (crL [91, 83, 93]) = false by kernel_rfl]; decide), if_neg (by rw [show onB (crL [91, 83, 93]) = false by kernel_rfl]; decide)]
  congr 1
theorem wholes_tail (i : Nat) : wholesL [[122, 61, 49], []] i 0 [] = [(i + 1, [122, 61, 49])] := by
  rw [wholesL, if_neg (by rw [show skips 0 (crL [122, 61, 49]) = false by kernel_rfl]; decide), if_neg (by rw [show onB (crL [122, 61, 49]) = false by kernel_rfl]; decide)]
  rw [wholesL, if_pos (by kernel_rfl), wholesL]
  congr 1
theorem wholes_y {x y : List UInt8} (i : Nat) (hy : Pl y) (ls : List (List UInt8)) : wholesL ((121 :: y) :: ls) i 2 ((107 :: 61 :: x) ++ [32]) = (2, joined x (121 :: y)) :: wholesL ls (i + 1) 0 [] := by
  have hp : Pl (121 :: y) := Pl.app (a := [121]) (by unfold Pl; decide) hy
  rw [wholesL, cr_id hp.2.1, if_neg (by rw [skip_no 2 121 y (by decide)]; decide), if_neg (by rw [on_no hp.2.2]; decide), part_no hp.2.2, ← joined_eq]
  simp
theorem wholes_k {x : List UInt8} (hx : Pl x) (ls : List (List UInt8)) : wholesL ((107 :: 61 :: x ++ [92]) :: ls) 1 0 [] = wholesL ls 2 2 ((107 :: 61 :: x) ++ [32]) := by
  have hp : Pl (107 :: 61 :: x) := Pl.app (a := [107, 61]) (by unfold Pl; decide) hx
  have h13 : (13 : UInt8) ∉ (107 :: 61 :: x ++ [92]) := by
    intro m
    rcases List.mem_append.1 m with m | m
    · exact hp.2.1 m
    · simp at m
  rw [wholesL, cr_id h13, if_neg (by rw [show (107 :: 61 :: x ++ [92] : List UInt8) = 107 :: (61 :: x ++ [92]) from rfl, skip_no 0 107 _ (by decide)]; decide), if_pos (on_snoc (107 :: 61 :: x)), part_snoc]
  rfl
theorem wholes_c (q : List UInt8) (hq : Pl q) (i : Nat) (w : List UInt8) (ls : List (List UInt8)) : wholesL ((32 :: 35 :: 32 :: q ++ [92]) :: [59] :: ls) i 2 w = wholesL ls (i + 2) 2 w := by
  have hp : Pl (32 :: 35 :: 32 :: q) := Pl.app (a := [32, 35, 32]) (by unfold Pl; decide) hq
  have h13 : (13 : UInt8) ∉ (32 :: 35 :: 32 :: q ++ [92]) := by
    intro m
    rcases List.mem_append.1 m with m | m
    · exact hp.2.1 m
    · simp at m
  rw [wholesL, cr_id h13, if_pos (skip_rem 2 q), wholesL, if_pos (by rw [show crL [59] = [59] by kernel_rfl]; exact skip_semi 2)]
theorem wholes_one {x y : List UInt8} (hx : Pl x) (hy : Pl y) (ls : List (List UInt8)) : wholesL ((107 :: 61 :: (x ++ 32 :: y)) :: ls) 1 0 [] = (2, joined x y) :: wholesL ls 2 0 [] := by
  have hp : Pl (107 :: 61 :: (x ++ 32 :: y)) := Pl.app (a := [107, 61]) (by unfold Pl; decide) (hx.app (Pl.app (a := [32]) (by unfold Pl; decide) hy))
  rw [wholesL, cr_id hp.2.1, if_neg (by rw [skip_no 0 107 _ (by decide)]; decide), if_neg (by rw [on_no hp.2.2]; decide), part_no hp.2.2, ← joined_eq]
  rfl
/-- The three texts. -/
def txtN (x y : List UInt8) : List UInt8 := [91, 83, 93] ++ 10 :: ((107 :: 61 :: x ++ [92]) ++ 10 :: (y ++ 10 :: ([122, 61, 49] ++ 10 :: [])))
def txtC (x q y : List UInt8) : List UInt8 := [91, 83, 93] ++ 10 :: ((107 :: 61 :: x ++ [92]) ++ 10 :: ((32 :: 35 :: 32 :: q ++ [92]) ++ 10 :: ([59] ++ 10 :: (y ++ 10 :: ([122, 61, 49] ++ 10 :: [])))))
def txtO (x y : List UInt8) : List UInt8 := [91, 83, 93] ++ 10 :: ((107 :: 61 :: (x ++ 32 :: y)) ++ 10 :: ([122, 61, 49] ++ 10 :: []))
theorem no10 {a : List UInt8} (h : Pl a) : (10 : UInt8) ∉ (a ++ [92]) := by
  intro m
  rcases List.mem_append.1 m with m | m
  · exact h.1 m
  · simp at m
theorem parse_N {x y : List UInt8} (hx : Pl x) (hy : Pl y) (hl : x.length + (121 :: y).length ≤ 1000) : parseL (txtN x (121 :: y)) = told x (121 :: y) 4 := by
  have hp : Pl (107 :: 61 :: x) := Pl.app (a := [107, 61]) (by unfold Pl; decide) hx
  have hq : Pl (121 :: y) := Pl.app (a := [121]) (by unfold Pl; decide) hy
  unfold parseL txtN
  rw [lines_at _ _ (by decide), lines_at _ _ (no10 hp), lines_at _ _ hq.1, lines_at _ _ (by decide), lines_nil, wholes_head, wholes_k hx, wholes_y 2 hy, wholes_tail]
  exact fold_told x (121 :: y) 4 hl
theorem parse_C {x q y : List UInt8} (hx : Pl x) (hq : Pl q) (hy : Pl y) (hl : x.length + (121 :: y).length ≤ 1000) : parseL (txtC x q (121 :: y)) = told x (121 :: y) 6 := by
  have hp : Pl (107 :: 61 :: x) := Pl.app (a := [107, 61]) (by unfold Pl; decide) hx
  have hr : Pl (121 :: y) := Pl.app (a := [121]) (by unfold Pl; decide) hy
  have hs : Pl (32 :: 35 :: 32 :: q) := Pl.app (a := [32, 35, 32]) (by unfold Pl; decide) hq
  unfold parseL txtC
  rw [lines_at _ _ (by decide), lines_at _ _ (no10 hp), lines_at _ _ (no10 hs), lines_at _ _ (by decide), lines_at _ _ hr.1, lines_at _ _ (by decide), lines_nil, wholes_head, wholes_k hx, wholes_c q hq, wholes_y 4 hy, wholes_tail]
  exact fold_told x (121 :: y) 6 hl
theorem parse_O {x y : List UInt8} (hx : Pl x) (hy : Pl y) (hl : x.length + y.length ≤ 1000) : parseL (txtO x y) = told x y 3 := by
  have hp : Pl (107 :: 61 :: (x ++ 32 :: y)) := Pl.app (a := [107, 61]) (by unfold Pl; decide) (hx.app (Pl.app (a := [32]) (by unfold Pl; decide) hy))
  unfold parseL txtO
  rw [lines_at _ _ (by decide), lines_at _ _ hp.1, lines_at _ _ (by decide), lines_nil, wholes_head, wholes_one hx hy, wholes_tail]
  exact fold_told x y 3 hl
end Go.Proofs.YtokeepmlibolfaaDoor.Ln
