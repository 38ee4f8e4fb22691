/-
  Layer 11 (lines): how long the text is that is put of the assignments. Nothing of the program stands here.
-/
import Derived.Test.YtokeepmlibolfaaDoorLnBack
namespace Go.Proofs.YtokeepmlibolfaaDoor.Ln

def lastS : List UInt8 → List (Nat × List UInt8 × List UInt8 × List UInt8) → List UInt8
  | s, [] => s
  | _, e :: r => lastS e.2.1 r
theorem back_app : ∀ (a : List (Nat × List UInt8 × List UInt8 × List UInt8)) (s : List UInt8) (b : List (Nat × List UInt8 × List UInt8 × List UInt8)), backL s (a ++ b) = backL s a ++ backL (lastS s a) b
  | [], s, b => rfl
  | e :: r, s, b => by
    rw [List.cons_append, backL, backL, back_app r e.2.1 b]
    simp [lastS]
theorem last_app : ∀ (a : List (Nat × List UInt8 × List UInt8 × List UInt8)) (s : List UInt8) (e : Nat × List UInt8 × List UInt8 × List UInt8), lastS s (a ++ [e]) = e.2.1
  | [], _, _ => rfl
  | x :: r, _, e => last_app r x.2.1 e
theorem back_one (s : List UInt8) (e : Nat × List UInt8 × List UInt8 × List UInt8) : backL s [e] = (if e.2.1 = s then [] else scL e.2.1 ++ [10]) ++ (kvL e ++ [10]) := rfl
theorem back_take (fd : List (Nat × List UInt8 × List UInt8 × List UInt8)) (k : Nat) : (backL [] (fd.take k)).length ≤ (backL [] fd).length := by
  have h := congrArg List.length (back_app (fd.take k) [] (fd.drop k))
  rw [List.take_append_drop, List.length_append] at h
  omega
def sumW (p : List (Nat × List UInt8)) : Nat := (p.map fun y => y.2.length + 1).sum
theorem part_on {c : List UInt8} (h : onB c = true) : (partL c).length + 1 = c.length := by
  rcases on_cases c with ⟨_, z, h2, h3⟩ | ⟨h1, _⟩
  · rw [h3, h2, List.length_append]; rfl
  · rw [h] at h1; cases h1
theorem sum_wholes : ∀ (ls : List (List UInt8)) (i b : Nat) (w : List UInt8), sumW (wholesL ls i b w) ≤ w.length + 1 + tot ls
  | [], i, b, w => by
    rw [wholesL]
    split
    · exact Nat.zero_le _
    · have := trim_len w
      show (trimL w).length + 1 + 0 ≤ w.length + 1 + 0
      omega
  | l :: ls, i, b, w => by
    have hc : (crL l).length ≤ l.length := suffix_le _ _
    have ht : tot (l :: ls) = l.length + 1 + tot ls := rfl
    rw [wholesL]
    split
    · have := sum_wholes ls (i + 1) b w
      omega
    · split
      · rename_i ho
        have h1 := sum_wholes ls (i + 1) (if b = 0 then i + 1 else b) ((w ++ partL (crL l)) ++ [32])
        have h2 := part_on ho
        rw [List.length_append, List.length_append, List.length_singleton] at h1
        omega
      · have h1 := sum_wholes ls (i + 1) 0 []
        have h2 := trim_len (w ++ partL (crL l))
        have h3 : (partL (crL l)).length ≤ (crL l).length := suffix_le _ _
        rw [List.length_append] at h2
        show (trimL (w ++ partL (crL l))).length + 1 + sumW (wholesL ls (i + 1) 0 []) ≤ _
        rw [List.length_nil] at h1
        omega
/-- A section that isn't put yet. -/
def pend (s : Fs) : Nat := if s.sec = [] ∨ s.sec = lastS [] s.found then 0 else s.sec.length + 3
theorem pend_le (s : Fs) : pend s ≤ s.sec.length + 3 := by unfold pend; split <;> omega
theorem put_step (s : Fs) (x : Nat × List UInt8) : (backL [] (pstep s x).found).length + pend (pstep s x) ≤ (backL [] s.found).length + pend s + (x.2.length + 1) := by
  unfold pstep
  split
  · show (backL [] s.found).length + pend s ≤ _; omega
  · split
    · rename_i ha
      rw [Bool.and_eq_true] at ha
      obtain ⟨ha, hs⟩ := ha
      unfold asgB at ha
      rw [Bool.and_eq_true] at ha
      have hp := congrArg List.length (cut_parts ha.1)
      rw [List.length_append, List.length_cons] at hp
      have hk := trim_len (Lib.cut x.2 [61]).1
      have hv := trim_len (Lib.cut x.2 [61]).2.1
      have hne : s.sec ≠ [] := fun e => by rw [e] at hs; exact absurd hs (by decide)
      have h0 : pend ⟨s.found ++ [(x.1, s.sec, asgK x.2, asgV x.2)], s.wrong, s.sec⟩ = 0 := by
        unfold pend
        rw [if_pos (.inr (last_app s.found [] (x.1, s.sec, asgK x.2, asgV x.2)).symm)]
      rw [h0, back_app, back_one, List.length_append, List.length_append]
      have hkv : (kvL (x.1, s.sec, asgK x.2, asgV x.2) ++ [10]).length ≤ x.2.length + 1 := by
        unfold kvL asgK asgV
        simp only [List.length_append, List.length_cons, List.length_nil]
        omega
      unfold pend
      by_cases he : s.sec = lastS [] s.found
      · rw [if_pos he]; simp only [List.length_nil]; omega
      · rw [if_neg he, if_neg (fun h => h.elim hne he)]
        have hsc : (scL (x.1, s.sec, asgK x.2, asgV x.2).2.1 ++ [10]).length = s.sec.length + 3 := by show (scL s.sec ++ [10]).length = _; unfold scL; simp
        omega
    · split
      · split
        · rename_i hn
          show (backL [] s.found).length + pend ⟨s.found, s.wrong ++ [(x.1, 110)], nameL x.2⟩ ≤ _
          have : pend ⟨s.found, s.wrong ++ [(x.1, 110)], nameL x.2⟩ = 0 := by unfold pend; rw [if_pos (.inl (List.isEmpty_iff.mp hn))]
          omega
        · rename_i hn
          obtain ⟨c, m, e1, e2, _⟩ := name_parts (by simpa using hn)
          show (backL [] s.found).length + pend ⟨s.found, s.wrong, nameL x.2⟩ ≤ _
          have h1 := pend_le ⟨s.found, s.wrong, nameL x.2⟩
          have h2 := congrArg List.length e1
          rw [List.length_cons, List.length_append, List.length_singleton] at h2
          have h3 : (nameL x.2).length = m.length := by rw [e2]
          have h4 : (Fs.mk s.found s.wrong (nameL x.2)).sec.length = (nameL x.2).length := rfl
          omega
      · show (backL [] s.found).length + pend s ≤ _; omega
theorem put_fold : ∀ (p : List (Nat × List UInt8)) (s : Fs), (backL [] (p.foldl pstep s).found).length + pend (p.foldl pstep s) ≤ (backL [] s.found).length + pend s + sumW p
  | [], s => Nat.le_add_right _ _
  | x :: p, s => by
    have h1 := put_fold p (pstep s x)
    have h2 := put_step s x
    show _ ≤ _ + (x.2.length + 1 + sumW p)
    rw [List.foldl_cons]
    omega
theorem put_len (text : List UInt8) : (backL [] (parseL text).found).length ≤ 2 * text.length + 2 := by
  have h1 := put_fold (wholesL (linesL text) 0 0 []) ⟨[], [], []⟩
  have h2 := sum_wholes (linesL text) 0 0 []
  have h3 := tot_split (Lib.count text [10]) text
  have h4 := Lib.countB_le (bs [10]) (by decide) text.length (bs text) (Nat.le_refl _)
  have e : Lib.countB (bs text) (bs [10]) = Lib.count text [10] := by unfold Lib.countB; rw [bs_list, bs_list]
  rw [e, bs_size] at h4
  have h5 : tot (linesL text) ≤ 2 * text.length + 1 := by unfold linesL Lib.split; omega
  have h6 : (backL [] (parseL text).found).length ≤ (backL [] (pfold (wholesL (linesL text) 0 0 [])).found).length + pend (pfold (wholesL (linesL text) 0 0 [])) := Nat.le_add_right _ _
  have h7 : (backL [] (Fs.mk [] [] []).found).length + pend ⟨[], [], []⟩ = 0 := by decide
  rw [List.length_nil] at h2
  unfold pfold at h6
  omega
end Go.Proofs.YtokeepmlibolfaaDoor.Ln
