/-
  Layer 6 (tzif): a number's bytes put behind a row of the call's own.
-/
import Derived.Test.YtljkcnoicdhchaaTzH
import Derived.Laws.OwnMore
import Derived.OwnWalk
import Derived.Lib.AppendStr
import Derived.Maps.AppendAt
import Derived.Deep.OwnRows
namespace Go.Proofs.Ytljkcnoicdhchaa.Tz
open Go.RowKit

def by8 (z : Int) : Value := .int .u8 z
theorem u8_info : (Try.prog.info? 5).map (fun i => (i.zero, i.size, i.bytes)) = some (some (.int .u8 0), 1, 1) := by kernel_rfl
/-- A slice of the call's own, that holds these bytes. -/
def Own (w : World) (base : Nat) (v : Value) (xs : List Int) : Prop := w.ownsRow base 5 1 v xs.length (xs.map by8)
theorem Own.nil (w : World) (base : Nat) : Own w base (.slice none 0 0) [] := World.ownsRow_nil w base _ 1
section
variable {w w' : World} {base : Nat} {v : Value} {xs : List Int}
theorem Own.keep (h : Own w base v xs) (hb : Below w.heap.size w w') : Own w' base v xs :=
  World.ownsRow.kept h (row := none) ⟨hb.os, hb.tape, hb.output, hb.size, fun k hk _ => hb.block k hk⟩ (by cases hv : v.ownBlock <;> simp)
theorem Own.alloc (h : Own w base v xs) (o : Obj) : Own (w.alloc o) base v xs := World.ownsRow.alloc h o
theorem Own.lt (h : Own w base v xs) (k : Nat) (hk : v.ownBlock = some k) : base ≤ k ∧ k < w.heap.size := World.ownsRow.lt h k hk
end
theorem new_cell (W : World) (g : Nat) (hg : W.heap.size = g) (u : Value) (t : TypeId) : (W.alloc (.cells #[u] t)).cell? ⟨g, 0, none⟩ = some u := by
  subst hg; exact cell_of_row _ _ 0 #[u] t (0, 0) (heap_alloc_new _ _)
theorem one_cell {w : World} {ad : Addr} {z : Int} (h : w.cell? ad = some (by8 z)) : ∀ j u, [z][j]? = some u → w.cell? (ad.add j) = some (by8 u) := by
  intro j u hu
  match j, hu with
  | 0, hu => simp at hu; rw [← hu]; simpa [Addr.add] using h
/-- v' is v, or a new row: what else there was is as it was. -/
structure Grew (w w' : World) (v v' : Value) : Prop where
  gr : w.grownBy w' v.ownBlock
  at_ : v'.ownBlock = v.ownBlock ∨ ∃ k, v'.ownBlock = some k ∧ w.heap.size ≤ k
theorem Grew.refl (w : World) (v : Value) : Grew w w v v := ⟨⟨rfl, rfl, rfl, Nat.le_refl _, fun _ _ _ => rfl⟩, .inl rfl⟩
theorem Grew.trans {w w1 w2 : World} {v v1 v2 : Value} (h : Grew w w1 v v1) (k : Grew w1 w2 v1 v2) : Grew w w2 v v2 := by
  have hg : w.grownBy w2 v.ownBlock := by
    rcases h.at_ with e | ⟨b, e, hb⟩
    · exact h.gr.trans (e ▸ k.gr)
    · exact ⟨k.gr.os.trans h.gr.os, k.gr.tape.trans h.gr.tape, k.gr.output.trans h.gr.output, Nat.le_trans h.gr.size k.gr.size, fun i hi hne => (k.gr.block i (Nat.lt_of_lt_of_le hi h.gr.size) (by rw [e]; intro c; injection c; omega)).trans (h.gr.block i hi hne)⟩
  refine ⟨hg, ?_⟩
  rcases k.at_ with e | ⟨b, e, hb⟩
  · rw [e]; exact h.at_
  · exact .inr ⟨b, e, Nat.le_trans h.gr.size hb⟩
theorem Grew.ahead {w w' : World} {v v' : Value} {o : Obj} (h : Grew (w.alloc o) w' v v') : Grew w w' v v' :=
  ⟨(World.grownBy_alloc w o _).trans h.gr, h.at_.imp id fun ⟨k, e, hk⟩ => ⟨k, e, Nat.le_trans (by simp) hk⟩⟩
theorem Grew.behind {w w' w2 : World} {v v' : Value} (h : Grew w w' v v') (hb : Below w'.heap.size w' w2) : Grew w w2 v v' :=
  ⟨⟨hb.os.trans h.gr.os, hb.tape.trans h.gr.tape, hb.output.trans h.gr.output, Nat.le_trans h.gr.size hb.size, fun k hk hne => (hb.block k (Nat.lt_of_lt_of_le hk h.gr.size)).trans (h.gr.block k hk hne)⟩, h.at_⟩
/-- Two rows of the call's own that are none and the same. -/
def Apart (u v : Value) : Prop := u.ownBlock = none ∨ u.ownBlock ≠ v.ownBlock
theorem Apart.nil_left (v : Value) (n : Nat) : Apart (.slice none n n) v := .inl rfl
theorem Apart.symm {u v : Value} (h : Apart u v) : Apart v u := by
  rcases h with h | h
  · cases hv : v.ownBlock with
    | none => exact .inl hv
    | some k => exact .inr (by rw [h, hv]; intro c; cases c)
  · exact .inr (Ne.symm h)
theorem Own.beside {w w' : World} {base : Nat} {u v v' : Value} {ys : List Int} (h : Own w base u ys) (hg : Grew w w' v v') (ha : Apart u v) : Own w' base u ys := World.ownsRow.kept h hg.gr ha
theorem Own.apart {w w' : World} {base : Nat} {u v v' : Value} {ys : List Int} (h : Own w base u ys) (hg : Grew w w' v v') (ha : Apart u v) : Apart u v' := by
  rcases ha with ha | ha
  · exact .inl ha
  · rcases hg.at_ with e | ⟨k, e, hk⟩
    · exact .inr (by rw [e]; exact ha)
    · exact .inr (by rw [e]; intro c; have := (h.lt k c).2; omega)
theorem grew_below {w w' : World} {base B : Nat} {v v' : Value} {xs : List Int} (h : Own w base v xs) (hg : Grew w w' v v') (hB : B ≤ base) (hS : B ≤ w.heap.size) : Below B w w' :=
  ⟨hg.gr.os, hg.gr.tape, hg.gr.output, hg.gr.size, fun k hk => hg.gr.block k (by omega) (fun e => by have := (h.lt k e.symm).1; omega)⟩
set_option maxRecDepth 100000 in
/-- Bytes that a slice reads are put behind. -/
theorem plain_append_bytes {ops : Array Oper} {rest : List Oper} {o : Oper} {a : Act} {w : World} {Q : Exit → Act → World → Prop} (s x : Operand) (hgd : o.guard = none)
    (ho : o.op = .call { callee := .builtin .append, args := #[s, x], argTypes := #[33, 33] }) (base : Nat) (v : Value) (xs zs : List Int) (ad : Addr) (m c : Nat)
    (hs : a.eval s = v) (hx : a.eval x = .slice (some ad) m c) (hm : zs.length = m) (hown : Own w base v xs) (hz : ∀ j u, zs[j]? = some u → w.cell? (ad.add j) = some (by8 u)) (hlen : xs.length + m ≤ 10000000) (hbase : base ≤ w.heap.size)
    (h : ∀ v' w', Own w' base v' (xs ++ zs) → Grew w w' v v' → wpList Try.prog ops Q rest (a.put o.dst v') w') : wpList Try.prog ops Q (o :: rest) a w := by
  obtain ⟨i, hi, hz0, hz1, hz2⟩ := info_parts u8_info
  subst hm
  refine wpList_append_own_at w hgd s x 33 ho base 5 i _ 1 1 Try.underlying33 hi hz0 hz1 hz2 rfl (by decide) v xs.length (xs.map by8) hs hown ad zs.length c (zs.map by8) hx (by simp) ?_ (fun u hu => by obtain ⟨z, _, rfl⟩ := List.mem_map.1 hu; rfl) (by unfold maxLen; omega) (by omega) hbase ?_
  · intro j u hu
    rw [List.getElem?_map] at hu
    cases hj : zs[j]? with
    | none => rw [hj] at hu; cases hu
    | some z => rw [hj] at hu; injection hu with hu; rw [← hu]; exact hz j z hj
  · intro v' w' hown' hgr _ hat
    exact h v' w' (by unfold Own; rw [List.map_append, List.length_append]; exact hown') ⟨hgr, hat.imp id fun e => ⟨_, e, Nat.le_refl _⟩⟩
def bytesOf (s : ByteArray) : List Int := s.data.toList.map fun b => (b.toNat : Int)
theorem bytesOf_len (s : ByteArray) : (bytesOf s).length = s.size := by unfold bytesOf; rw [List.length_map, Array.length_toList]; rfl
theorem bytesOf_cells (s : ByteArray) : (bytesOf s).map by8 = Lib.strCells s := by unfold bytesOf Lib.strCells by8; rw [List.map_map]; rfl
theorem run_append_own_text (w : World) (ty : TypeId) (base : Nat) (v : Value) (xs : List Int) (t : ByteArray) (hown : Own w base v xs) (hlen : xs.length + t.size ≤ 10000000) (hbase : base ≤ w.heap.size) :
    ∃ v' w', (Builtin.append_ #[33, 9] ty #[v, .string t]).run Try.prog w = .ok v' w' ∧ Own w' base v' (xs ++ bytesOf t) ∧ Grew w w' v v' := by
  obtain ⟨i, hi, hz0, hz1, hz2⟩ := info_parts u8_info
  obtain ⟨v', w', hr, h2, h3, h4⟩ := Lib.run_append_own_string (P := Try.prog) w base 33 9 ty 5 i Try.underlying33 Try.underlying9 hi hz0 hz1 hz2 v xs.length (xs.map by8) hown t (by unfold maxLen; omega) (by omega) hbase
  have hat : v'.ownBlock = v.ownBlock ∨ ∃ k, v'.ownBlock = some k ∧ w.heap.size ≤ k := by
    rcases hown.2 with ⟨rfl, h0⟩ | ⟨g, cap, cur, rfl, hbg, hg, hnc, hcm, hcs, htake⟩
    · obtain ⟨v2, w2, hr2, h22, _, _⟩ := Lib.run_append_own_string (P := Try.prog) w w.heap.size 33 9 ty 5 i Try.underlying33 Try.underlying9 hi hz0 hz1 hz2 (.slice none 0 0) xs.length (xs.map by8) ⟨hown.1, .inl ⟨rfl, h0⟩⟩ t (by unfold maxLen; omega) (by omega) (Nat.le_refl _)
      rw [hr] at hr2
      injection hr2 with e1 e2
      subst e1; subst e2
      cases hv : v'.ownBlock with
      | none => exact .inl rfl
      | some k => exact .inr ⟨k, rfl, (h22.lt k hv).1⟩
    · by_cases hroom : xs.length + t.size ≤ cap
      · have hr2 := Lib.run_append_room_string (P := Try.prog) w 33 9 ty 5 i Try.underlying33 Try.underlying9 hi hz1 g xs.length cap cur hg t hroom (by rw [hcs, Nat.mul_one]; exact hroom)
        rw [hr] at hr2
        injection hr2 with e1 _
        exact .inl (by rw [e1]; rfl)
      · have hr2 := Lib.run_append_grow_string (P := Try.prog) w 33 9 ty 5 i (.int .u8 0) Try.underlying33 Try.underlying9 hi hz0 ⟨g, 0, none⟩ xs.length cap (xs.map by8) (by rw [hz1]; simp) (hown.cells (g := g) rfl) t (by omega) (by omega) (by rw [hz2]; exact growslice_fits (by omega) (by omega))
        rw [hr] at hr2
        injection hr2 with e1 _
        exact .inr ⟨w.heap.size, by rw [e1]; rfl, Nat.le_refl _⟩
  exact ⟨v', w', hr, by unfold Own; rw [List.map_append, bytesOf_cells, List.length_append, bytesOf_len]; exact h2, h3, hat⟩
/-- A text's bytes are put behind. -/
theorem plain_append_text {ops : Array Oper} {rest : List Oper} {o : Oper} {a : Act} {w : World} {Q : Exit → Act → World → Prop} (s x : Operand) (hgd : o.guard = none)
    (ho : o.op = .call { callee := .builtin .append, args := #[s, x], argTypes := #[33, 9] }) (base : Nat) (v : Value) (xs : List Int) (t : ByteArray)
    (hs : a.eval s = v) (hx : a.eval x = .string t) (hown : Own w base v xs) (hlen : xs.length + t.size ≤ 10000000) (hbase : base ≤ w.heap.size)
    (h : ∀ v' w', Own w' base v' (xs ++ bytesOf t) → Grew w w' v v' → wpList Try.prog ops Q rest (a.put o.dst v') w') : wpList Try.prog ops Q (o :: rest) a w := by
  refine wpList_plain hgd fun K hK => ?_
  obtain ⟨v', w', hr, h2, h3⟩ := run_append_own_text w o.type base v xs t hown hlen hbase
  unfold Oper.wp execOp
  simp only [ho, resolve, invoke, builtin, Sem.run_bind, Sem.run_pure, Result.andThen_ok, List.map_toArray, List.map_cons, List.map_nil, hs, hx, hr]
  exact hK _ _ (h v' w' h2 h3)

/-- The lowest j bytes of n, the highest first. -/
def digs (n : Nat) : Nat → List Int
  | 0 => []
  | j + 1 => ((n / 2 ^ (8 * j) % 256 : Nat) : Int) :: digs n j
theorem digs_len (n : Nat) : ∀ j, (digs n j).length = j
  | 0 => rfl
  | j + 1 => by simp [digs, digs_len n j]
set_option maxRecDepth 100000 in
set_option maxHeartbeats 2000000 in
theorem putNumber_any (v : Value) (xs : List Int) (width n base : Nat) (w : World) (hown : Own w base v xs) (hx : xs.length ≤ 900000) (hw : width ≤ 8) (hb : base ≤ w.heap.size) :
    Calls Try.prog 24 #[v, .int .i64 width, .int .u64 n] w fun e w' => ∃ v', e = .returned v' ∧ Own w' base v' (xs ++ digs n width) ∧ Grew w w' v v' := by
  have HO := Lib.hid hown
  clear hown
  have hwi : (width : Int) ≤ 8 := by omega
  go_enter Try.func24, Try.ntmps24
  go_wp2_with fail
  go_loopw [0, 7] (fun u i wr => ∃ (j : Nat) (acc : List Int), j ≤ width ∧ i = .int .i64 ((j : Int) - 1) ∧ acc ++ digs n j = xs ++ digs n width ∧ Own wr base u acc ∧ Grew w wr v u) (fun _ i _ => (intOf i + 1).toNat)
  case atStart => exact ⟨width, xs, Nat.le_refl _, rfl, rfl, HO.out, Grew.refl _ _⟩
  case round =>
    obtain ⟨j, acc, hj, rfl, ha, ho, hb1⟩ := hrel
    match j, hj, ha with
    | 0, hj, ha =>
      rw [show digs n 0 = [] from rfl, List.append_nil] at ha
      have HE : Hid (Own wr base _ (xs ++ digs n width)) := Lib.hid (ha ▸ ho)
      have HB := Lib.hid hb1
      clear ha ho hb1
      go_wp2_with fail
      go_ret
      exact ⟨_, rfl, HE.out, HB.out⟩
    | j + 1, hj, ha =>
      have hj0 : (0 : Int) ≤ (j : Int) := by omega
      have hj8 : (j : Int) < 8 := by omega
      have HA := Lib.hid ha; have HO2 := Lib.hid ho; have HB := Lib.hid hb1
      clear ha ho hb1
      rw [show ((j + 1 : Nat) : Int) - 1 = (j : Int) by omega]
      have hal : acc.length ≤ 1000000 := by
        have h1 := congrArg List.length HA.out
        rw [List.length_append, List.length_append, digs_len, digs_len] at h1
        omega
      have HAL := Lib.hid hal
      have HSZ : Hid (base ≤ wr.heap.size) := Lib.hid (Nat.le_trans hb HB.out.gr.size)
      clear hal
      go_wp2_with (first
        | (at_builtin; refine plain_append_bytes (.tmp 14) (.tmp 20) rfl rfl base _ acc [(n : Int) / 2 ^ (8 * j) % 256] ⟨wr.heap.size, 0, none⟩ 1 1 rfl rfl rfl (HO2.out.alloc _) (one_cell (new_cell _ _ rfl _ _)) (by have := HAL.out; omega) (by have := HSZ.out; simp; omega) ?_; intro v' w' hown hgr; have HO3 := Lib.hid hown; have HB3 : Hid (Grew w w' v v') := Lib.hid (HB.out.trans hgr.ahead); clear hown hgr)
        | fail)
      refine ⟨⟨j, acc ++ [(n : Int) / 2 ^ (8 * j) % 256], by omega, rfl, ?_, HO3.out, HB3.out⟩, by simp [intOf]⟩
      have h1 := HA.out
      rw [show digs n (j + 1) = ((n / 2 ^ (8 * j) % 256 : Nat) : Int) :: digs n j from rfl] at h1
      rw [← h1, List.append_assoc, List.singleton_append]
      congr 2
end Go.Proofs.Ytljkcnoicdhchaa.Tz
