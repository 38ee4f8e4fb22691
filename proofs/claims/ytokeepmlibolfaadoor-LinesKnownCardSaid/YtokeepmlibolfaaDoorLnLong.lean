/-
  Layer 11 (lines): what Parse tells of long lines. Nothing of the program stands here.
-/
import Derived.Test.YtokeepmlibolfaaDoorLnBack
namespace Go.Proofs.YtokeepmlibolfaaDoor.Ln

theorem rep_no {n : Nat} {c x : UInt8} (h : x ≠ c) : x ∉ List.replicate n c := fun hm => h (List.eq_of_mem_replicate hm)
theorem rep_snoc (n : Nat) (c : UInt8) : List.replicate (n + 1) c = List.replicate n c ++ [c] := List.replicate_succ'
/-- A line that ends so, and begins so, is a whole line. -/
theorem long_line {x : List UInt8} {f c : UInt8} {r w : List UInt8} (hf : x = f :: r) (hw : x = w ++ [c]) (h1 : ([9, 32, 35, 59] : List UInt8).contains f = false) (h2 : blk f = false) (h3 : (c == (92 : UInt8)) = false) (h4 : (c == (13 : UInt8)) = false) (h5 : blk c = false) (ls : List (List UInt8)) (i : Nat) : wholesL (x :: ls) i 0 [] = (i + 1, x) :: wholesL ls (i + 1) 0 [] := by
  refine whole_one ls i ?_ ?_ ?_ ?_
  · rw [hw]; exact cr_last w c h4
  · rw [hf]; exact skip_no 0 f _ h1
  · rw [hw]; exact on_last w c h3
  · refine trim_id (.inr ⟨?_, ?_⟩)
    · rw [hf]; exact h2
    · rw [hw, getD_app]; exact h5
def longL (n : Nat) : List UInt8 := [91, 65, 93, 10, 107, 61] ++ List.replicate n 120
theorem long_whole (n : Nat) : wholesL (linesL (longL (n + 1))) 0 0 [] = [(1, scL [65]), (2, 107 :: 61 :: List.replicate (n + 1) 120)] := by
  have e : longL (n + 1) = scL [65] ++ 10 :: (107 :: 61 :: List.replicate (n + 1) 120) := rfl
  have h10 : (10 : UInt8) ∉ (107 :: 61 :: List.replicate (n + 1) 120 : List UInt8) := fun hm => by
    rcases List.mem_cons.mp hm with hm | hm
    · exact absurd hm (by decide)
    · rcases List.mem_cons.mp hm with hm | hm
      · exact absurd hm (by decide)
      · exact rep_no (by decide) hm
  rw [e, lines_at _ _ (sc_no10 (by decide)), lines_last h10, sc_line, long_line (f := 107) (c := 120) (w := 107 :: 61 :: List.replicate n 120) rfl (by rw [rep_snoc]; rfl) (by decide) (by decide) (by decide) (by decide) (by decide), wholesL]
  rfl
theorem long_bad (k : Nat) (h : 4095 ≤ k) : parseL (longL k) = ⟨[], [(2, 3)], [65]⟩ := by
  obtain ⟨n, rfl⟩ : ∃ n, k = n + 1 := ⟨k - 1, by omega⟩
  have hl : 4096 < (2, (107 :: 61 :: List.replicate (n + 1) 120 : List UInt8)).2.length := by
    show 4096 < (107 :: 61 :: List.replicate (n + 1) 120 : List UInt8).length
    rw [List.length_cons, List.length_cons, List.length_replicate]; omega
  unfold parseL
  rw [long_whole n]
  show pstep (pstep ⟨[], [], []⟩ (1, scL [65])) _ = _
  rw [sc_step (by decide) (by decide) (by decide), step_long hl]
  rfl
theorem long_good (k : Nat) (h0 : 1 ≤ k) (h : k ≤ 4094) : (parseL (longL k)).found.length = 1 ∧ (parseL (longL k)).wrong.length = 0 := by
  obtain ⟨n, rfl⟩ : ∃ n, k = n + 1 := ⟨k - 1, by omega⟩
  have hg : Gd (2, [65], [107], List.replicate (n + 1) 120) := by
    refine ⟨(show ([65] : List UInt8) ≠ [] by decide), (show (10 : UInt8) ∉ ([65] : List UInt8) by decide), (show ([65] : List UInt8).any brk = false by decide), (show 1 + 2 ≤ 4096 by decide), (show keyB [107] = true by decide), rep_no (by decide), ?_, ?_⟩
    · show trimL (List.replicate (n + 1) 120) = List.replicate (n + 1) 120
      refine trim_id (.inr ⟨rfl, ?_⟩)
      rw [rep_snoc, getD_app]; decide
    · show 1 + 1 + (List.replicate (n + 1) (120 : UInt8)).length ≤ 4096
      rw [List.length_replicate]; omega
  have h := kv_step hg ⟨[], [], [65]⟩ rfl 2
  have e : pfold (wholesL (linesL (longL (n + 1))) 0 0 []) = ⟨[] ++ [(2, [65], [107], List.replicate (n + 1) 120)], [], [65]⟩ := by
    rw [long_whole n]
    show pstep (pstep ⟨[], [], []⟩ (1, scL [65])) _ = _
    rw [sc_step (by decide) (by decide) (by decide)]
    exact h
  unfold parseL
  rw [e]
  exact ⟨rfl, rfl⟩
theorem zeros_bad (n : Nat) (hn : 4096 ≤ n) : parseL (List.replicate (n + 1) 0) = ⟨[], [(1, 3)], []⟩ := by
  unfold parseL
  rw [lines_last (rep_no (by decide)), long_line (x := List.replicate (n + 1) 0) (f := 0) (c := 0) (r := List.replicate n 0) (w := List.replicate n 0) rfl (rep_snoc n 0) (by decide) (by decide) (by decide) (by decide) (by decide), wholesL]
  show pstep ⟨[], [], []⟩ (1, List.replicate (n + 1) 0) = _
  rw [step_long (by show 4096 < (List.replicate (n + 1) (0 : UInt8)).length; rw [List.length_replicate]; omega)]
  rfl
end Go.Proofs.YtokeepmlibolfaaDoor.Ln
