/-
  Layer 12 (words): a builder's writes, at this program's own copy check.
-/
import Derived.Test.YtffmchbcpihjhaaWdRow
import Derived.Test.YtffmchbcpihjhaaShelf
import Derived.Shelf.Strings.Builder1
import Derived.Lib.AppendStr
namespace Go.Proofs.Ytffmchbcpihjhaa.Wd
open Go.RowKit
set_option maxRecDepth 100000

theorem bld_info : ∃ i, Try.prog.info? 47 = some i ∧ i.size = 2 := ⟨_, rfl, rfl⟩
theorem byte_info : ∃ i, Try.prog.info? 5 = some i ∧ i.zero = some (.int .u8 0) ∧ i.size = 1 ∧ i.bytes = 1 := ⟨_, rfl, rfl, rfl, rfl⟩
/-- A builder in block b, with its bytes. -/
abbrev Bd (b : Nat) (l : List UInt8) (w : World) : Prop := Lib.IsBuilder 47 5 b b (Lib.byteCells l) w
set_option maxHeartbeats 1000000 in
theorem check_used (b : Nat) (w : World) (h0 : w.cell? ⟨b, 0, none⟩ = some (.pointer (some ⟨b, 0, none⟩))) : Calls Try.prog 30 #[.pointer (some ⟨b, 0, none⟩)] w fun e w' => e = .returned (.tuple #[]) ∧ w = w' := by
  obtain ⟨j, hj, _⟩ := bld_info
  go_enter Try.func30, Try.ntmps30
  go_wp2
  rw [Lib.run_neq_ptr_same w _ Try.underlying45 hj]
  go_wp2
  go_end0
  exact ⟨rfl, rfl⟩
set_option maxHeartbeats 1000000 in
theorem check_fresh (b : Nat) (w : World) (h0 : w.cell? ⟨b, 0, none⟩ = some (.pointer none)) (hsh : w.shape? b = some (47, 2)) (hfz : w.frozen? ⟨b, 0, none⟩ = false) : Calls Try.prog 30 #[.pointer (some ⟨b, 0, none⟩)] w fun e w' => e = .returned (.tuple #[]) ∧ w' = w.setCell ⟨b, 0, none⟩ (.pointer (some ⟨b, 0, none⟩)) := by
  obtain ⟨j, hj, hjs⟩ := bld_info
  have hto := Lib.run_to_unsafe (P := Try.prog) w ⟨b, 0, none⟩ Try.underlying45 Try.underlying64 hj (by rw [hjs]; decide) hsh (Nat.zero_lt_succ 1)
  have hfrom := Lib.run_from_unsafe (P := Try.prog) w ⟨b, 0, none⟩ Try.underlying64 Try.underlying45 hj hsh (by kernel_rfl)
  go_enter Try.func30, Try.ntmps30
  go_wp2
  rw [run_callFunc_extern Try.func33 (by kernel_rfl) (by kernel_rfl) (by kernel_rfl) (e := Extern.AbiNoEscape.same) (by kernel_rfl), Lib.run_noEscape]
  simp only [Result.andThen]
  rw [Oper.upon_value]
  go_wp2
  go_end0
  exact ⟨rfl, rfl⟩
theorem check_at (b : Nat) (bs : List Value) (w : World) (h : Lib.IsBuilder 47 5 b b bs w) : Calls Try.prog 30 #[.pointer (some ⟨b, 0, none⟩)] w fun e w' => e = .returned (.tuple #[]) ∧ Lib.BuilderAt 47 5 b b (.pointer (some ⟨b, 0, none⟩)) bs w' ∧ Below b w w' := by
  rcases h with h | h
  · exact (check_fresh b w h.cell0 h.shape h.frozen0).mono fun e w' h' => ⟨h'.1, by rw [h'.2]; exact h.used _, by rw [h'.2]; exact (Below.refl b w).setCell (p := ⟨b, 0, none⟩) h.1 _⟩
  · exact (check_used b w h.cell0).mono fun e w' h' => ⟨h'.1, by rw [← h'.2]; exact h, by rw [← h'.2]; exact Below.refl b w⟩
theorem bt_parts {b : Nat} {p : Value} {bs : List Value} {w : World} (h : Lib.BuilderAt 47 5 b b p bs w) : ∃ v, w.heap[b]? = some (.cells #[p, v] 47 (0, 0)) ∧ w.ownsRow b 5 1 v bs.length bs ∧ v.ownBlock ≠ some b ∧ w.cell? ⟨b, 1, none⟩ = some v := by
  obtain ⟨_, v, h1, h2, h3⟩ := h
  exact ⟨v, h1, h2, h3, by rw [Lib.cell_of_heap h1]; rfl⟩
/-- Behind an append onto its row: the row goes into the builder. -/
theorem bt_put {b : Nat} {p v v' : Value} {bs bs' : List Value} {W W1 W2 : World} (hk : Below b W W1) (hlt : b < W1.heap.size) (hb : W1.heap[b]? = some (.cells #[p, v] 47 (0, 0))) (ho : W1.ownsRow b 5 1 v bs.length bs) (hne : v.ownBlock ≠ some b) (hg : W1.grownBy W2 v.ownBlock) (ho2 : W2.ownsRow b 5 1 v' bs'.length bs') : W2.cell? ⟨b, 1, none⟩ = some v ∧ W2.frozen? ⟨b, 1, none⟩ = false ∧ Lib.BuilderAt 47 5 b b p bs' (W2.setCell ⟨b, 1, none⟩ v') ∧ Below b W (W2.setCell ⟨b, 1, none⟩ v') := by
  have hb2 : W2.heap[b]? = some (.cells #[p, v] 47 (0, 0)) := (hg.block b hlt (fun e => hne e.symm)).trans hb
  exact ⟨by rw [Lib.cell_of_heap hb2]; rfl, Lib.frozen_of_heap hb2 1, Lib.BuilderAt.put (Nat.le_refl b) hb2 ho2 (by decide), (hk.grown hg (by omega) (fun k e => (ho.lt k e).1)).setCell (p := ⟨b, 1, none⟩) (Nat.le_refl b) _⟩
theorem row_shape {W : World} {base sz n : Nat} {e : TypeId} {v : Value} {xs : List Value} (h : W.ownsRow base e sz v n xs) : ∃ ao m cap, v = .slice ao m cap := by
  rcases h.2 with ⟨rfl, _⟩ | ⟨g, cap, cur, rfl, _⟩
  · exact ⟨_, _, _, rfl⟩
  · exact ⟨_, _, _, rfl⟩
set_option maxHeartbeats 2000000 in
theorem byte_at (b : Nat) (l : List UInt8) (c : UInt8) (w : World) (h : Bd b l w) (hl : l.length ≤ 10000000) : Calls Try.prog 20 #[.pointer (some ⟨b, 0, none⟩), .int .u8 (c.toNat : Int)] w fun e w' => e = .returned .nilIface ∧ Bd b (l ++ [c]) w' ∧ Below b w w' := by
  have hbl : b ≤ w.heap.size := by rcases h with h | h <;> exact Nat.le_of_lt h.lt
  have HC := Lib.hid (check_at b _ w h)
  obtain ⟨i0, hi, hz0, hz1, hz2⟩ := byte_info
  have HL : Hid ((Lib.byteCells l).length ≤ 10000000) := Lib.hid (by rw [Lib.byteCells_length]; exact hl)
  obtain ⟨cs, hcs⟩ : ∃ cs, Lib.byteCells l = cs := ⟨_, rfl⟩
  have HE : Hid (Lib.byteCells (l ++ [c]) = cs ++ [.int .u8 (c.toNat : Int)]) := Lib.hid (by rw [← hcs]; simp [Lib.byteCells])
  rw [hcs] at HC HL
  clear h hl hcs
  go_enter Try.func20, Try.ntmps20
  go_wp2_with (first
    | (go_at_call 30; refine (HC.out).mono ?_; rintro e W1 ⟨rfl, hb1, hk1⟩; have HB := Lib.hid hb1; have HK := Lib.hid hk1; obtain ⟨v, q1, q2, q3, c1⟩ := bt_parts hb1; have HP := Lib.hid (And.intro q1 (And.intro q2 q3)); clear hb1 hk1 q1 q2 q3)
    | (at_builtin; refine wpList_append_own _ rfl _ _ 35 rfl b 5 i0 (.int .u8 0) 1 1 Try.underlying35 hi hz0 hz1 hz2 rfl (by decide) _ _ _ rfl (HP.out.2.1.alloc _) ⟨W1.heap.size, 0, none⟩ 1 1 [.int .u8 (c.toNat : Int)] rfl rfl (new_cells W1 _ rfl _ _) (by simp [Value.oneCell']) (by have := HL.out; unfold maxLen; omega) (by have := HL.out; omega) (by have := HB.out.lt; simp; omega) ?_; intro v' W2 hown hgr _; obtain ⟨ao, n', cap, rfl⟩ := row_shape hown; obtain ⟨d1, d2, d3, d4⟩ := bt_put (bs' := cs ++ [.int .u8 (c.toNat : Int)]) (HK.out.alloc (by have := HB.out.lt; omega) _) (by have := HB.out.lt; simp; omega) ((Lib.alloc_old W1 _ b HB.out.lt).trans HP.out.1) (HP.out.2.1.alloc _) HP.out.2.2 hgr (by rw [List.length_append]; exact hown); have D3 := Lib.hid d3; have D4 := Lib.hid d4; have HO := Lib.hid hown; clear d3 d4 hown hgr)
    | fail)
  go_ret
  exact ⟨rfl, by unfold Bd; rw [HE.out]; exact .inr D3.out, D4.out⟩
set_option maxHeartbeats 2000000 in
theorem str_at (b : Nat) (l s : List UInt8) (w : World) (h : Bd b l w) (hl : l.length ≤ 10000000) (hs : s.length ≤ 10000000) : Calls Try.prog 22 #[.pointer (some ⟨b, 0, none⟩), .string (bs s)] w fun e w' => (∃ v, e = .returned v) ∧ Bd b (l ++ s) w' ∧ Below b w w' := by
  have hbl : b ≤ w.heap.size := by rcases h with h | h <;> exact Nat.le_of_lt h.lt
  have HC := Lib.hid (check_at b _ w h)
  obtain ⟨i0, hi, hz0, hz1, hz2⟩ := byte_info
  have hsz : (bs s).size = s.length := rfl
  have HL : Hid ((Lib.byteCells l).length ≤ 10000000 ∧ (bs s).size ≤ 10000000) := Lib.hid ⟨by rw [Lib.byteCells_length]; exact hl, by rw [hsz]; exact hs⟩
  obtain ⟨cs, hcs⟩ : ∃ cs, Lib.byteCells l = cs := ⟨_, rfl⟩
  have HE : Hid (Lib.byteCells (l ++ s) = cs ++ Lib.strCells (bs s)) := Lib.hid (by rw [← hcs]; simp [Lib.byteCells, Lib.strCells])
  rw [hcs] at HC HL
  clear h hl hcs hsz hs
  generalize bs s = S at *
  go_enter Try.func22, Try.ntmps22
  go_wp2_with (first
    | (go_at_call 30; refine (HC.out).mono ?_; rintro e W1 ⟨rfl, hb1, hk1⟩; have HB := Lib.hid hb1; have HK := Lib.hid hk1; obtain ⟨v, q1, q2, q3, c1⟩ := bt_parts hb1; have HP := Lib.hid (And.intro q1 (And.intro q2 q3)); clear hb1 hk1 q1 q2 q3)
    | (at_builtin; refine Lib.wpList_append_own_string _ rfl _ _ 35 9 rfl b 5 i0 Try.underlying35 Try.underlying9 hi hz0 hz1 hz2 _ _ _ rfl HP.out.2.1 S rfl (by have := HL.out; unfold maxLen; omega) (by have := HL.out; omega) (by have := HB.out.lt; omega) ?_; intro v' W2 hown hgr _; obtain ⟨ao, n', cap, rfl⟩ := row_shape hown; obtain ⟨d1, d2, d3, d4⟩ := bt_put (bs' := cs ++ Lib.strCells S) HK.out HB.out.lt HP.out.1 HP.out.2.1 HP.out.2.2 hgr (by rw [List.length_append, Lib.strCells_length]; exact hown); have D3 := Lib.hid d3; have D4 := Lib.hid d4; have HO := Lib.hid hown; clear d3 d4 hown hgr)
    | fail)
  go_ret2
  exact ⟨⟨_, rfl⟩, by unfold Bd; rw [HE.out]; exact .inr D3.out, D4.out⟩
theorem text_at (b : Nat) (l : List UInt8) (w : World) (h : Bd b l w) : Calls Try.prog 24 #[.pointer (some ⟨b, 0, none⟩)] w fun e w' => e = .returned (.string (bs l)) ∧ Below b w w' := Try.Builder_String_any b b l w h (by rcases h with h | h <;> exact Nat.le_of_lt h.lt)
end Go.Proofs.Ytffmchbcpihjhaa.Wd
