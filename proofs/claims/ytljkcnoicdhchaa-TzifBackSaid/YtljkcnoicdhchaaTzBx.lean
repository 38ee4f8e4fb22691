/-
  Layer 6 (tzif): the bytes of a file, as the reader takes them apart (plain).
-/
import Derived.Test.YtljkcnoicdhchaaTzBq
namespace Go.Proofs.Ytljkcnoicdhchaa.Tz
open Go.RowKit

theorem be_take_lt {l : List Nat} (hb : ∀ b ∈ l, b < 256) (i : Nat) : be ((l.drop i).take 4) ≤ 4294967295 := by
  have h1 := be_lt (l := (l.drop i).take 4) (fun b hx => hb b (List.mem_of_mem_drop (List.mem_of_mem_take hx)))
  have h2 : ((l.drop i).take 4).length ≤ 4 := by rw [List.length_take]; omega
  have h3 : 256 ^ ((l.drop i).take 4).length ≤ 256 ^ 4 := Nat.pow_le_pow_right (by omega) h2
  omega
theorem hdOk_bytes {l : List Nat} (hb : ∀ b ∈ l, b < 256) : HdOk (hdOf l) :=
  ⟨be_take_lt hb 20, be_take_lt hb 24, be_take_lt hb 28, be_take_lt hb 32, be_take_lt hb 36, be_take_lt hb 40⟩
/-- What stands behind a block's head. -/
def bodyL (tb : List Int) (z : Zn) (tail : List Nat) : List Nat := nats tb ++ (nats (indexB z.index) ++ (nats (typesB z.types 0) ++ (nats (lettersB z.types) ++ tail)))
def l3L (z : Zn) (tail : List Nat) : List Nat := nats (headB (hd2 z)) ++ bodyL (timesB z.times) z tail
def fileL (z : Zn) (mid tail : List Nat) : List Nat := nats (headB hd1) ++ (mid ++ l3L z tail)
theorem put_file (z : Zn) : nats (putB z) = fileL z (nats (zerosB 7)) (nats ([10] ++ bytesOf z.footer ++ [10])) := by
  unfold putB topB fileL l3L bodyL
  simp only [nats_app, List.append_assoc]
theorem indexB_len (l : List Int) : (indexB l).length = l.length := by unfold indexB; rw [List.length_map]
theorem body_len {z : Zn} {h : Hd} {wd : Nat} {tb : List Int} (hr : rightZ z = true) (e1 : h.times = z.times.length) (e2 : h.types = z.types.length) (e3 : h.letters = letters z.types) (e4 : restN h wd = 0) (hlen : tb.length = wd * z.times.length) (tail : List Nat) : (bodyL tb z tail).length = longN h wd + tail.length := by
  obtain ⟨_, _, _, b4, _⟩ := right_all hr
  unfold bodyL longN
  simp only [List.length_append, nats_len, indexB_len, typesB_len, lettersB_len]
  rw [e1, e2, e3, e4, hlen, b4, Nat.mul_add, Nat.mul_comm wd]
  omega
theorem body_read {z : Zn} {h : Hd} {wd : Nat} {val : List Nat → Int} {tb : List Int} (hr : rightZ z = true) (e1 : h.times = z.times.length) (e2 : h.types = z.types.length) (e3 : h.letters = letters z.types) (e4 : restN h wd = 0) (hlen : tb.length = wd * z.times.length) (hv : ∀ r, vals wd val z.times.length (nats tb ++ r) = z.times) (tail : List Nat) :
    timesL h wd val (bodyL tb z tail) = z.times ∧ indexL h wd (bodyL tb z tail) = z.index ∧ tysOf (lettersL h wd (bodyL tb z tail)) (rowsL h wd (bodyL tb z tail)) = some z.types ∧ (bodyL tb z tail).drop (longN h wd) = tail := by
  obtain ⟨_, _, _, b4, b5, _, b7, b8⟩ := right_all hr
  have ht : ∀ t ∈ z.types, rightTy t = true := by
    unfold rightZ rightTys at hr
    simp only [Bool.and_eq_true, List.all_eq_true] at hr
    exact hr.1.1.1.1.1.1.2
  have d1 : (bodyL tb z tail).drop (wd * z.times.length) = nats (indexB z.index) ++ (nats (typesB z.types 0) ++ (nats (lettersB z.types) ++ tail)) := List.drop_left' (by rw [nats_len, hlen])
  have d2 : ((bodyL tb z tail).drop (wd * z.times.length)).drop (1 * z.times.length) = nats (typesB z.types 0) ++ (nats (lettersB z.types) ++ tail) := by
    rw [d1]; exact List.drop_left' (by rw [nats_len, indexB_len, b4, Nat.one_mul])
  have d3 : (((bodyL tb z tail).drop (wd * z.times.length)).drop (1 * z.times.length)).drop (6 * z.types.length) = nats (lettersB z.types) ++ tail := by
    rw [d2]; exact List.drop_left' (by rw [nats_len, typesB_len])
  refine ⟨?_, ?_, ?_, ?_⟩
  · unfold timesL; rw [e1]; exact hv _
  · unfold indexL
    rw [e1, d1, ← b4]
    exact vals_index z.index _ b8
  · unfold lettersL rowsL
    rw [e1, e2, e3, d3, d2, List.take_left' (by rw [nats_len, lettersB_len]), rws_read z.types 0 _ (fun t hx => (b7 t hx).2)]
    have := tys_back z.types [] [] ht (by simpa using b5)
    simpa using this
  · have e : longN h wd = wd * z.times.length + (1 * z.times.length + (6 * z.types.length + letters z.types)) := by
      unfold longN; rw [e1, e2, e3, e4, Nat.mul_add, Nat.mul_comm wd]; omega
    rw [e, ← List.drop_drop, ← List.drop_drop, ← List.drop_drop, d3]
    exact List.drop_left' (by rw [nats_len, lettersB_len])
theorem hd2_small {z : Zn} (hr : rightZ z = true) : ∀ n ∈ (hd2 z).counts, n < 4294967296 := by
  obtain ⟨b1, _, b3, _, b5, _⟩ := right_all hr
  intro n hn
  simp only [hd2, Hd.counts, List.mem_cons, List.not_mem_nil, or_false] at hn
  omega
theorem hd1_small : ∀ n ∈ hd1.counts, n < 4294967296 := by decide
theorem hd2_may {z : Zn} (hr : rightZ z = true) : mayB (hd2 z) = true := by
  obtain ⟨b1, b2, b3, _, b5, _⟩ := right_all hr
  have := letters_pos (l := z.types) b2
  unfold mayB inI hd2
  simp
  omega
/-- The first head and block of a file. -/
theorem file_first (z : Zn) (mid tail : List Nat) (hm : mid.length = 7) : hdGood (fileL z mid tail) = true ∧ (fileL z mid tail).getD 4 0 = 50 ∧ hdOf (fileL z mid tail) = hd1 ∧ longN (hdOf (fileL z mid tail)) 4 = 7 ∧ (fileL z mid tail).drop 44 = mid ++ l3L z tail ∧ ((fileL z mid tail).drop 44).drop (longN (hdOf (fileL z mid tail)) 4) = l3L z tail := by
  obtain ⟨a, _, c⟩ := hd_read hd1 hd1_small (mid ++ l3L z tail)
  have hg := hd_good hd1 hd1_small (.inr (.inl rfl)) (mid ++ l3L z tail)
  have hd : (fileL z mid tail).drop 44 = mid ++ l3L z tail := hd_drop hd1 _
  have hN : longN (hdOf (fileL z mid tail)) 4 = 7 := by unfold fileL; rw [a]; rfl
  exact ⟨hg, c, a, hN, hd, by rw [hN, hd]; exact List.drop_left' hm⟩
theorem l3_read {z : Zn} (hr : rightZ z = true) (tail : List Nat) : hdGood (l3L z tail) = true ∧ hdOf (l3L z tail) = hd2 z ∧ (l3L z tail).drop 44 = bodyL (timesB z.times) z tail := by
  obtain ⟨a, _, _⟩ := hd_read (hd2 z) (hd2_small hr) (bodyL (timesB z.times) z tail)
  exact ⟨hd_good (hd2 z) (hd2_small hr) (.inr (.inl rfl)) _, a, hd_drop (hd2 z) _⟩
/-! ### Footers -/
theorem foot_yes (f : ByteArray) : footT (nats ([10] ++ bytesOf f ++ [10])) = some (nats (bytesOf f)) := by
  have e : nats ([10] ++ bytesOf f ++ [10]) = 10 :: (nats (bytesOf f) ++ [10]) := by simp only [nats_app, List.append_assoc]; rfl
  rw [e]
  unfold footT
  have hl : (10 :: (nats (bytesOf f) ++ [10])).length = (nats (bytesOf f)).length + 2 := by simp
  rw [if_pos ⟨by omega, rfl, by rw [hl]; simp⟩, hl]
  simp
/-- A footer that is cut, or goes on, is none. -/
theorem foot_cut {f : ByteArray} (hf : onlyB f 32 = true) (k : Nat) (hk : k < f.size + 2) : footT ((nats ([10] ++ bytesOf f ++ [10])).take k) = none := by
  have e : nats ([10] ++ bytesOf f ++ [10]) = 10 :: (nats (bytesOf f) ++ [10]) := by simp only [nats_app, List.append_assoc]; rfl
  have hbl : (nats (bytesOf f)).length = f.size := by rw [nats_len, bytesOf_len]
  have hno : ∀ x ∈ nats (bytesOf f), x ≠ 10 := by
    intro x hx
    obtain ⟨y, hy, rfl⟩ := List.mem_map.1 hx
    unfold bytesOf at hy
    obtain ⟨b, hb, rfl⟩ := List.mem_map.1 hy
    unfold onlyB at hf
    have := List.all_eq_true.1 hf b hb
    unfold inI at this
    simp only [Bool.and_eq_true, decide_eq_true_eq] at this
    omega
  rw [e]
  unfold footT
  rw [if_neg]
  rintro ⟨h1, _, h3⟩
  match k, hk, h1, h3 with
  | 0, _, h1, _ => simp at h1
  | k + 1, hk, h1, h3 =>
    rw [List.take_succ_cons] at h1 h3
    have hk2 : k ≤ (nats (bytesOf f)).length := by omega
    rw [List.take_append_of_le_length hk2] at h1 h3
    have hl : (10 :: (nats (bytesOf f)).take k).length = k + 1 := by simp; omega
    rw [hl] at h1 h3
    obtain ⟨j, rfl⟩ : ∃ j, k = j + 1 := ⟨k - 1, by omega⟩
    rw [show j + 1 + 1 - 1 = j + 1 by omega, List.getElem?_cons_succ] at h3
    exact hno 10 (List.mem_of_mem_take (List.mem_of_getElem? h3)) rfl
theorem foot_more (f : ByteArray) : footT (nats ([10] ++ bytesOf f ++ [10]) ++ [0]) = none := by
  unfold footT
  rw [if_neg]
  rintro ⟨_, _, h3⟩
  rw [List.length_append, List.getElem?_append_right (by simp)] at h3
  simp at h3
end Go.Proofs.Ytljkcnoicdhchaa.Tz
