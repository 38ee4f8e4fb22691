/-
  A hash under way: what its block holds when so many bytes were added, and how that turns with more of them. Plain facts.
-/
import Derived.Test.YtgdpgpmkokjdjaaDoorSpTake
import Derived.Laws.CopyOwn
namespace Go.Proofs.YtgdpgpmkokjdjaaDoor.Sp
open Go.RowKit

/-- Block g is a hash with key k, to which bs were added. -/
def Has (w : World) (g : Nat) (k bs : List Int) : Prop :=
  ∃ l : List Int, l.length = 8 ∧ Bytes l ∧ l.take (bs.length % 8) = bs.drop (8 * (bs.length / 8)) ∧ Hold w g 51 (hcells (feed (init k) bs (bs.length / 8)) l ((bs.length % 256 : Nat) : Int))
theorem Has.new {w : World} {g : Nat} {k : List Int} (h : Hold w g 51 (hcells (init k) (List.replicate 8 0) 0)) : Has w g k [] :=
  ⟨List.replicate 8 0, rfl, fun z hz => by rw [(List.mem_replicate.1 hz).2]; omega, rfl, h⟩
theorem Has.keep {w w' : World} {g : Nat} {k bs : List Int} (h : Has w g k bs) (e : w'.heap[g]? = w.heap[g]?) : Has w' g k bs := by
  obtain ⟨l, a, b, c, d⟩ := h; exact ⟨l, a, b, c, d.keep e⟩
theorem Has.below {w w' : World} {g B : Nat} {k bs : List Int} (h : Has w g k bs) (hb : Below B w w') (hg : g < B) : Has w' g k bs := h.keep (hb.block g hg)
theorem Has.lt {w : World} {g : Nat} {k bs : List Int} (h : Has w g k bs) : g < w.heap.size := by obtain ⟨_, _, _, _, d⟩ := h; exact d.lt
theorem gb_below_g {w w' : World} {g : Nat} (h : w.grownBy w' (some g)) (hg : g < w.heap.size) : Below g w w' :=
  ⟨h.os, h.tape, h.output, h.size, fun k hk => h.block k (by omega) (by rintro ⟨⟩; omega)⟩

theorem hc_len (q : Q) (l : List Int) (c : Int) (hl : l.length = 8) : (hcells q l c).length = 13 := by simp [hcells, Q.cells, hl]
theorem hc_left (q : Q) (l : List Int) (c : Int) (j : Nat) (z : Int) (h : l[j]? = some z) : (hcells q l c)[4 + j]? = some (by8 z) := by
  have hj : j < l.length := by
    rcases Nat.lt_or_ge j l.length with a | a
    · exact a
    · rw [List.getElem?_eq_none a] at h; cases h
  unfold hcells
  rw [List.getElem?_append_right (by simp [Q.cells]), List.getElem?_append_left (by simp [Q.cells]; omega), List.getElem?_map]
  simp [Q.cells, h]
theorem hc_count (q : Q) (l : List Int) (c : Int) (hl : l.length = 8) : (hcells q l c)[12]? = some (by8 c) := by
  unfold hcells
  rw [List.getElem?_append_right (by simp [Q.cells]), List.getElem?_append_right (by simp [Q.cells, hl])]
  simp [Q.cells, hl]
theorem hc_set (q : Q) (l : List Int) (c c' : Int) (hl : l.length = 8) : (hcells q l c).set 12 (by8 c') = hcells q l c' := by
  match l, hl with
  | [_, _, _, _, _, _, _, _], _ => rfl
theorem hc_splice (q : Q) (l ys : List Int) (c : Int) (r : Nat) (hl : l.length = 8) (hr : r + ys.length ≤ 8) :
    splice (hcells q l c) (4 + r) (ys.map by8) = hcells q (splice l r ys) c := by
  unfold splice hcells
  have e4 : q.cells.length = 4 := rfl
  rw [List.take_append, List.drop_append, e4, List.take_of_length_le (by rw [e4]; omega), List.drop_of_length_le (by rw [e4]; omega)]
  rw [List.take_append_of_le_length (by simp; omega), List.drop_append_of_le_length (by simp; omega)]
  simp only [List.map_append, List.map_take, List.map_drop, List.append_assoc, List.nil_append, List.length_map, show 4 + r - 4 = r by omega, show 4 + r + ys.length - 4 = r + ys.length by omega]
theorem sp_len (l ys : List Int) (r : Nat) (hl : l.length = 8) (hr : r + ys.length ≤ 8) : (splice l r ys).length = 8 := by rw [length_splice _ _ _ (by omega), hl]
theorem sp_bytes {l ys : List Int} (r : Nat) (h : Bytes l) (h' : Bytes ys) : Bytes (splice l r ys) := (h.take _).app (h'.app (h.drop _))
theorem sp_take (l ys : List Int) (r : Nat) (hl : l.length = 8) (hr : r + ys.length ≤ 8) : (splice l r ys).take (r + ys.length) = l.take r ++ ys := by
  unfold splice
  rw [← List.append_assoc, List.take_append_of_le_length (by simp; omega), List.take_of_length_le (by simp; omega)]

/-- Fewer than a block. -/
theorem has_less {w : World} {g : Nat} {k cs ys l : List Int} (hl : l.length = 8) (hb : Bytes l) (ht : l.take (cs.length % 8) = cs.drop (8 * (cs.length / 8))) (hy : Bytes ys) (hr : cs.length % 8 + ys.length < 8)
    (h : Hold w g 51 (hcells (feed (init k) cs (cs.length / 8)) (splice l (cs.length % 8) ys) (((cs.length + ys.length) % 256 : Nat) : Int))) : Has w g k (cs ++ ys) := by
  have e1 : (cs ++ ys).length / 8 = cs.length / 8 := by simp; omega
  have e2 : (cs ++ ys).length % 8 = cs.length % 8 + ys.length := by simp; omega
  refine ⟨splice l (cs.length % 8) ys, sp_len _ _ _ hl (by omega), sp_bytes _ hb hy, ?_, ?_⟩
  · rw [e1, e2, sp_take _ _ _ hl (by omega), ht, List.drop_append_of_le_length (by omega)]
  · rw [e1, feed_congr (init k) (bs := cs ++ ys) (cs := cs) (by rw [List.take_append_of_le_length (by omega)]), List.length_append]
    exact h
/-- A whole block. -/
theorem has_whole {w : World} {g : Nat} {k cs ys l : List Int} (hl : l.length = 8) (hb : Bytes l) (ht : l.take (cs.length % 8) = cs.drop (8 * (cs.length / 8))) (hy : Bytes ys) (hr : cs.length % 8 + ys.length = 8)
    (h : Hold w g 51 (hcells (eat (feed (init k) cs (cs.length / 8)) (num (splice l (cs.length % 8) ys))) (splice l (cs.length % 8) ys) (((cs.length + ys.length) % 256 : Nat) : Int))) : Has w g k (cs ++ ys) := by
  have e1 : (cs ++ ys).length / 8 = cs.length / 8 + 1 := by simp; omega
  have e2 : (cs ++ ys).length % 8 = 0 := by simp; omega
  have e3 : splice l (cs.length % 8) ys = ((cs ++ ys).drop (8 * (cs.length / 8))).take 8 := by
    have := sp_take l ys _ hl (Nat.le_of_eq hr)
    rw [hr, List.take_of_length_le (by rw [sp_len _ _ _ hl (by omega)]; omega), ht] at this
    rw [this, List.drop_append_of_le_length (by omega), List.take_of_length_le (by simp; omega)]
  refine ⟨splice l (cs.length % 8) ys, sp_len _ _ _ hl (by omega), sp_bytes _ hb hy, ?_, ?_⟩
  · rw [e1, e2, List.take_zero, List.drop_of_length_le (by simp; omega)]
  · rw [e1, List.length_append]
    show Hold w g _ (hcells (eat (feed (init k) (cs ++ ys) (cs.length / 8)) (num (((cs ++ ys).drop (8 * (cs.length / 8))).take 8))) _ _)
    rw [feed_congr (init k) (bs := cs ++ ys) (cs := cs) (by rw [List.take_append_of_le_length (by omega)]), ← e3]
    exact h
end Go.Proofs.YtgdpgpmkokjdjaaDoor.Sp
