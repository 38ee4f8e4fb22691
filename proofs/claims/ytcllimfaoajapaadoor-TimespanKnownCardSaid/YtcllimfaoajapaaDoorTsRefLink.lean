/-
  The document's Parse, of any text: as the program's.
-/
import Derived.Test.YtcllimfaoajapaaDoorTsRefParse
namespace Go.Proofs.YtcllimfaoajapaaDoor.Ts
open Go.RowKit

theorem tw_take {p : UInt8 → Bool} : ∀ (l : List UInt8) (b : Nat), (l.takeWhile p).length < b → (l.take b).takeWhile p = l.takeWhile p
  | [], b, _ => by simp
  | a :: l, b, h => by
    cases b with
    | zero => simp at h
    | succ b =>
      by_cases ha : p a = true
      · simp only [List.takeWhile_cons, ha, if_true, List.length_cons] at h
        simp [ha, tw_take (p := p) l b (by omega)]
      · simp [ha]
theorem rev_at (s : ByteArray) (j c : Nat) (hc : c < s.size) (hj : j + c + 1 = s.size) (h : j < s.data.toList.reverse.length) : s.data.toList.reverse[j] = s[c] := by
  rw [List.getElem_reverse, at_byte s c hc]
  congr 1
  rw [← size_of]; omega

/-- The document's Parse, of any text. -/
theorem rparse_any (s : ByteArray) (w : World) (hs : s.size ≤ 9223372036854775807) :
    Calls Tryd.prog 11 #[.string s] w fun e w' => e = .returned (.tuple #[.int .i64 (refP s.data.toList).1, .int .i64 (refP s.data.toList).2]) ∧ w = w' := by
  have hle := run_le bl s 0 (Nat.zero_le _)
  rw [Nat.zero_add] at hle
  by_cases h : run bl s 0 = s.size
  · have ht : trim s.data.toList = [] := by
      rw [trim_eq]
      have hd := run_drop bl s 0
      rw [h, Nat.zero_add, List.drop_eq_nil_of_le (by rw [← size_of]; exact Nat.le_refl _)] at hd
      obtain ⟨Z, hZ, hall⟩ := trimR_split s.data.toList
      cases hc : (trimR s.data.toList).dropWhile bl with
      | nil => rfl
      | cons a l =>
        exfalso
        have : (s.data.toList).dropWhile bl = (a :: l) ++ Z := by
          conv => lhs; rw [hZ]
          rw [dw_app_full, if_neg (by rw [hc]; simp), hc]
        simp only [List.drop_zero] at hd
        rw [← hd] at this; simp at this
    have hr : refP s.data.toList = (0, 1) := by unfold refP; rw [ht, if_neg (by unfold never; simp)]; rfl
    rw [hr]
    exact rparse_blank s w hs h
  · have ha0 : run bl s 0 < s.size := by omega
    generalize hzr : (s.data.toList.reverse.takeWhile bl).length = zr
    have hzl := tw_le bl s.data.toList.reverse
    rw [hzr, List.length_reverse, ← size_of] at hzl
    have hB1 : ∀ c, s.size - zr ≤ c → (h : c < s.size) → bl s[c] = true := fun c hc h => by
      have hj : s.size - 1 - c < s.data.toList.reverse.length := by rw [List.length_reverse, ← size_of]; omega
      have := tw_yes bl s.data.toList.reverse (s.size - 1 - c) hj (by rw [hzr]; omega)
      rw [rev_at s _ c h (by omega) hj] at this
      exact this
    have hB2 : ∀ c, (h : c < s.size) → c + 1 = s.size - zr → bl s[c] = false := fun c h hc => by
      have hj : zr < s.data.toList.reverse.length := by rw [List.length_reverse, ← size_of]; omega
      have := tw_no bl s.data.toList.reverse (by rw [hzr]; exact hj)
      simp only [hzr] at this
      rw [rev_at s _ c h (by omega) hj] at this
      exact this
    have hno := run_no bl s 0 (by omega)
    have hab : run bl s 0 < s.size - zr := by
      rcases Nat.lt_or_ge (run bl s 0) (s.size - zr) with g | g
      · exact g
      · have := hB1 (0 + run bl s 0) (by omega) (by omega)
        rw [hno] at this; cases this
    have hR : trimR s.data.toList = s.data.toList.take (s.size - zr) := by
      unfold trimR
      rw [← drop_tw, hzr, List.drop_reverse, List.reverse_reverse, ← size_of]
    have hT : (s.data.toList.take (s.size - zr)).drop (run bl s 0) = trim s.data.toList := by
      have hrun : ((s.data.toList).takeWhile bl).length = run bl s 0 := rfl
      have htk : (s.data.toList.take (s.size - zr)).takeWhile bl = s.data.toList.takeWhile bl := tw_take _ _ (by rw [hrun]; exact hab)
      rw [trim_eq, hR, ← drop_tw bl (s.data.toList.take (s.size - zr)), htk, hrun]
    have hne : trim s.data.toList ≠ [] := by
      intro e; rw [← hT] at e
      have := congrArg List.length e
      rw [List.length_drop, List.length_take, ← size_of] at this; simp at this; omega
    refine rparse_main s (s.extract 0 (s.size - zr)) (run bl s 0) (s.size - zr) w (sumOf (trim s.data.toList)) _ hs rfl hab (by omega) hB1 hB2 rfl (by rw [ext_list, hT]) ?_
    have hx : (s.extract (run bl s 0) (s.size - zr)).data.toList = trim s.data.toList := by
      rw [Lib.extract_data, ← hT, List.drop_take]
    rw [hx]
    unfold refP fin spanOf
    rw [if_neg hne]
    rfl
end Go.Proofs.YtcllimfaoajapaaDoor.Ts
