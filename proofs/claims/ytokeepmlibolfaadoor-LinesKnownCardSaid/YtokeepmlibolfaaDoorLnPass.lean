/-
  Layer 11 (lines): lines that are passed over, put ahead of all. Nothing of the program stands here.
-/
import Derived.Test.YtokeepmlibolfaaDoorLnBack
namespace Go.Proofs.YtokeepmlibolfaaDoor.Ln

def okp (b : UInt8) : Bool := b != 10 && b != 13
/-- What is kept of a text: no end of a line, at most 60 bytes. -/
def keepL (o : List UInt8) : List UInt8 := (o.take 60).filter okp
def passX (i : Nat) (x : List UInt8) : List UInt8 := if i % 3 = 0 then [32, 9] else 32 :: (if i % 2 = 0 then 35 else 59) :: x
def passL : Nat → List (List UInt8) → List UInt8
  | _, [] => []
  | i, o :: r => passX i (keepL o) ++ 10 :: passL (i + 1) r
theorem keep_no (o : List UInt8) : (10 : UInt8) ∉ keepL o ∧ (13 : UInt8) ∉ keepL o := by
  unfold keepL
  exact ⟨fun h => absurd (List.mem_filter.mp h).2 (by decide), fun h => absurd (List.mem_filter.mp h).2 (by decide)⟩
theorem keep_len (o : List UInt8) : (keepL o).length ≤ 60 := by
  unfold keepL
  have h1 := List.length_filter_le okp (o.take 60)
  have h2 := List.length_take_le 60 o
  omega
theorem passx_no (i : Nat) {x : List UInt8} (h : (10 : UInt8) ∉ x ∧ (13 : UInt8) ∉ x) : (10 : UInt8) ∉ passX i x ∧ (13 : UInt8) ∉ passX i x := by
  unfold passX
  split
  · exact ⟨by decide, by decide⟩
  · split
    all_goals
      refine ⟨fun hm => ?_, fun hm => ?_⟩
      all_goals
        rcases List.mem_cons.mp hm with hm | hm
        · exact absurd hm (by decide)
        · rcases List.mem_cons.mp hm with hm | hm
          · exact absurd hm (by decide)
          · first | exact h.1 hm | exact h.2 hm
theorem trim_sp (c : UInt8) (x : List UInt8) (hc : ([9, 32] : List UInt8).contains c = false) : trimL (32 :: c :: x) = c :: rt x := by
  unfold trimL Lib.trimS
  have h := rt_keep [32] c x hc
  unfold rt at h
  rw [show (32 : UInt8) :: c :: x = [32] ++ c :: x from rfl, h]
  unfold Lib.trimLeftS
  rw [List.singleton_append, List.dropWhile_cons, if_pos (by decide), List.dropWhile_cons, if_neg (by rw [hc]; decide)]
  rfl
theorem passx_skip (i : Nat) (x : List UInt8) (h : (10 : UInt8) ∉ x ∧ (13 : UInt8) ∉ x) : skips 0 (crL (passX i x)) = true := by
  rw [cr_id (passx_no i h).2]
  unfold passX
  split
  · kernel_rfl
  · split
    · unfold skips remB
      rw [trim_sp 35 x (by decide)]
      simp [Lib.hasPrefix, List.isPrefixOf]
    · unfold skips remB
      rw [trim_sp 59 x (by decide)]
      simp [Lib.hasPrefix, List.isPrefixOf]
theorem pass_wholes : ∀ (os : List (List UInt8)) (i j : Nat) (t : List UInt8), wholesL (linesL (passL i os ++ t)) j 0 [] = wholesL (linesL t) (j + os.length) 0 []
  | [], i, j, t => rfl
  | o :: r, i, j, t => by
    have h := keep_no o
    rw [passL, List.append_assoc, List.cons_append, lines_at _ _ (passx_no i h).1, whole_skip _ _ _ _ (passx_skip i _ h), pass_wholes r (i + 1) (j + 1) t, List.length_cons, show j + 1 + r.length = j + (r.length + 1) by omega]
/-- Numbers moved. -/
def mvB (K b : Nat) : Nat := if b = 0 then 0 else b + K
theorem wholes_mv (K : Nat) : ∀ (ls : List (List UInt8)) (i b : Nat) (w : List UInt8), wholesL ls (i + K) (mvB K b) w = (wholesL ls i b w).map fun y => (y.1 + K, y.2)
  | [], i, b, w => by
    rw [wholesL, wholesL]
    unfold mvB
    by_cases h : b = 0
    · rw [if_pos h, if_pos h, if_pos rfl]; rfl
    · rw [if_neg h, if_neg h, if_neg (by omega)]; rfl
  | l :: ls, i, b, w => by
    have hs : skips (mvB K b) (crL l) = skips b (crL l) := by
      unfold skips mvB
      by_cases h : b = 0
      · rw [if_pos h, h]
      · rw [if_neg h, decide_eq_false (show ¬ b + K = 0 by omega), decide_eq_false h]
    have hb : (if mvB K b = 0 then i + K + 1 else mvB K b) = (if b = 0 then i + 1 else b) + K := by
      unfold mvB
      by_cases h : b = 0
      · rw [if_pos h, if_pos rfl, if_pos h]; omega
      · rw [if_neg h, if_neg (by omega), if_neg h]
    have hm : (if b = 0 then i + 1 else b) + K = mvB K (if b = 0 then i + 1 else b) := by
      unfold mvB
      by_cases h : b = 0 <;> simp [h]
    have hi : i + K + 1 = i + 1 + K := by omega
    rw [wholesL, wholesL, hs, hb]
    split
    · rw [hi]; exact wholes_mv K ls (i + 1) b w
    · split
      · rw [hi, hm]; exact wholes_mv K ls (i + 1) _ _
      · rw [List.map_cons, hi]
        congr 1
        exact wholes_mv K ls (i + 1) 0 []
def mvL (K : Nat) (l : Nat × List UInt8 × List UInt8 × List UInt8) : Nat × List UInt8 × List UInt8 × List UInt8 := (l.1 + K, l.2)
def mvD (K : Nat) (d : Nat × Int) : Nat × Int := (d.1 + K, d.2)
def mvF (K : Nat) (s : Fs) : Fs := ⟨s.found.map (mvL K), s.wrong.map (mvD K), s.sec⟩
theorem step_mv (K : Nat) (s : Fs) (x : Nat × List UInt8) : pstep (mvF K s) (x.1 + K, x.2) = mvF K (pstep s x) := by
  unfold pstep mvF
  simp only
  repeat' split
  all_goals simp [mvL, mvD]
theorem fold_mv (K : Nat) : ∀ (p : List (Nat × List UInt8)) (s : Fs), (p.map fun y => (y.1 + K, y.2)).foldl pstep (mvF K s) = mvF K (p.foldl pstep s)
  | [], s => rfl
  | x :: p, s => by
    rw [List.map_cons, List.foldl_cons, List.foldl_cons, step_mv, fold_mv K p]
/-- Lines that are passed over move numbers alone. -/
theorem parse_pass (os : List (List UInt8)) (t : List UInt8) : parseL (passL 0 os ++ t) = mvF os.length (parseL t) := by
  have h1 := pass_wholes os 0 0 t
  have h2 := wholes_mv os.length (linesL t) 0 0 []
  have h3 := fold_mv os.length (wholesL (linesL t) 0 0 []) ⟨[], [], []⟩
  rw [show mvB os.length 0 = 0 from rfl] at h2
  unfold parseL pfold
  rw [h1, h2]
  exact h3
theorem pass_snoc : ∀ (os : List (List UInt8)) (i : Nat) (o : List UInt8), passL i (os ++ [o]) = passL i os ++ (passX (i + os.length) (keepL o) ++ [10])
  | [], i, o => rfl
  | a :: os, i, o => by
    rw [List.cons_append, passL, passL, pass_snoc os (i + 1) o, List.length_cons, show i + 1 + os.length = i + (os.length + 1) by omega]
    simp
theorem pass_len : ∀ (os : List (List UInt8)) (i : Nat), (passL i os).length ≤ 63 * os.length
  | [], _ => Nat.zero_le _
  | o :: os, i => by
    have h1 := pass_len os (i + 1)
    have h2 := keep_len o
    have h3 : (passX i (keepL o)).length ≤ 62 := by
      unfold passX
      split
      · decide
      · simp only [List.length_cons]; omega
    rw [passL, List.length_append, List.length_cons, List.length_cons]
    omega
end Go.Proofs.YtokeepmlibolfaaDoor.Ln
