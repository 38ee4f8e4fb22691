/-
  TzI, TzJ, TzK, TzL, TzM, TzN, TzO, one behind the other.
-/
import Derived.Test.YtohpdpcjhmopbaaTzMa
import Derived.Laws.OwnMore
import Derived.OwnWalk
import Derived.Lib.AppendStr
import Derived.Maps.AppendAt
import Derived.Deep.OwnRows
import Derived.Lib.AppendZerosOnto
import Derived.OrdersHeld
import Derived.Tactics
import Derived.KernelRfl
import Derived.Deep.RegionLaw
import Derived.Deep.DeepCutAuto
import Derived.Lib.QuietBelow
/-! Layer 6 (tzif): a number's bytes put behind a row of the call's own. -/
namespace Go.Proofs.Ytohpdpcjhmopbaa.Tz
open Go.RowKit

def by8 (z : Int) : Value := .int .u8 z
theorem u8_info : (Try.prog.info? 5).map (fun i => (i.zero, i.size, i.bytes)) = some (some (.int .u8 0), 1, 1) := by kernel_rfl
/-- A slice of the call's own, that holds these bytes. -/
def Own (w : World) (base : Nat) (v : Value) (xs : List Int) : Prop := w.ownsRow base 5 1 v xs.length (xs.map by8)
theorem Own.nil (w : World) (base : Nat) : Own w base (.slice none 0 0) [] := World.ownsRow_nil w base _ 1
section
variable {w w' : World} {base : Nat} {v : Value} {xs : List Int}
theorem Own.keep (h : Own w base v xs) (hb : Below w.heap.size w w') : Own w' base v xs :=
  World.ownsRow.kept h (row := none) ⟨hb.os, hb.tape, hb.output, hb.size, fun k hk _ => hb.block k hk⟩ (by cases hv : v.ownBlock <;> simp)
theorem Own.alloc (h : Own w base v xs) (o : Obj) : Own (w.alloc o) base v xs := World.ownsRow.alloc h o
theorem Own.lt (h : Own w base v xs) (k : Nat) (hk : v.ownBlock = some k) : base ≤ k ∧ k < w.heap.size := World.ownsRow.lt h k hk
end
theorem new_cell (W : World) (g : Nat) (hg : W.heap.size = g) (u : Value) (t : TypeId) : (W.alloc (.cells #[u] t)).cell? ⟨g, 0, none⟩ = some u := by
  subst hg; exact cell_of_row _ _ 0 #[u] t (0, 0) (heap_alloc_new _ _)
theorem one_cell {w : World} {ad : Addr} {z : Int} (h : w.cell? ad = some (by8 z)) : ∀ j u, [z][j]? = some u → w.cell? (ad.add j) = some (by8 u) := by
  intro j u hu
  match j, hu with
  | 0, hu => simp at hu; rw [← hu]; simpa [Addr.add] using h
/-- v' is v, or a new row: what else there was is as it was. -/
structure Grew (w w' : World) (v v' : Value) : Prop where
  gr : w.grownBy w' v.ownBlock
  at_ : v'.ownBlock = v.ownBlock ∨ ∃ k, v'.ownBlock = some k ∧ w.heap.size ≤ k
theorem Grew.refl (w : World) (v : Value) : Grew w w v v := ⟨⟨rfl, rfl, rfl, Nat.le_refl _, fun _ _ _ => rfl⟩, .inl rfl⟩
theorem Grew.trans {w w1 w2 : World} {v v1 v2 : Value} (h : Grew w w1 v v1) (k : Grew w1 w2 v1 v2) : Grew w w2 v v2 := by
  have hg : w.grownBy w2 v.ownBlock := by
    rcases h.at_ with e | ⟨b, e, hb⟩
    · exact h.gr.trans (e ▸ k.gr)
    · exact ⟨k.gr.os.trans h.gr.os, k.gr.tape.trans h.gr.tape, k.gr.output.trans h.gr.output, Nat.le_trans h.gr.size k.gr.size, fun i hi hne => (k.gr.block i (Nat.lt_of_lt_of_le hi h.gr.size) (by rw [e]; intro c; injection c; omega)).trans (h.gr.block i hi hne)⟩
  refine ⟨hg, ?_⟩
  rcases k.at_ with e | ⟨b, e, hb⟩
  · rw [e]; exact h.at_
  · exact .inr ⟨b, e, Nat.le_trans h.gr.size hb⟩
theorem Grew.ahead {w w' : World} {v v' : Value} {o : Obj} (h : Grew (w.alloc o) w' v v') : Grew w w' v v' :=
  ⟨(World.grownBy_alloc w o _).trans h.gr, h.at_.imp id fun ⟨k, e, hk⟩ => ⟨k, e, Nat.le_trans (by simp) hk⟩⟩
theorem Grew.behind {w w' w2 : World} {v v' : Value} (h : Grew w w' v v') (hb : Below w'.heap.size w' w2) : Grew w w2 v v' :=
  ⟨⟨hb.os.trans h.gr.os, hb.tape.trans h.gr.tape, hb.output.trans h.gr.output, Nat.le_trans h.gr.size hb.size, fun k hk hne => (hb.block k (Nat.lt_of_lt_of_le hk h.gr.size)).trans (h.gr.block k hk hne)⟩, h.at_⟩
/-- Two rows of the call's own that are none and the same. -/
def Apart (u v : Value) : Prop := u.ownBlock = none ∨ u.ownBlock ≠ v.ownBlock
theorem Apart.nil_left (v : Value) (n : Nat) : Apart (.slice none n n) v := .inl rfl
theorem Apart.symm {u v : Value} (h : Apart u v) : Apart v u := by
  rcases h with h | h
  · cases hv : v.ownBlock with
    | none => exact .inl hv
    | some k => exact .inr (by rw [h, hv]; intro c; cases c)
  · exact .inr (Ne.symm h)
theorem Own.beside {w w' : World} {base : Nat} {u v v' : Value} {ys : List Int} (h : Own w base u ys) (hg : Grew w w' v v') (ha : Apart u v) : Own w' base u ys := World.ownsRow.kept h hg.gr ha
theorem Own.apart {w w' : World} {base : Nat} {u v v' : Value} {ys : List Int} (h : Own w base u ys) (hg : Grew w w' v v') (ha : Apart u v) : Apart u v' := by
  rcases ha with ha | ha
  · exact .inl ha
  · rcases hg.at_ with e | ⟨k, e, hk⟩
    · exact .inr (by rw [e]; exact ha)
    · exact .inr (by rw [e]; intro c; have := (h.lt k c).2; omega)
theorem grew_below {w w' : World} {base B : Nat} {v v' : Value} {xs : List Int} (h : Own w base v xs) (hg : Grew w w' v v') (hB : B ≤ base) (hS : B ≤ w.heap.size) : Below B w w' :=
  ⟨hg.gr.os, hg.gr.tape, hg.gr.output, hg.gr.size, fun k hk => hg.gr.block k (by omega) (fun e => by have := (h.lt k e.symm).1; omega)⟩
set_option maxRecDepth 100000 in
/-- Bytes that a slice reads are put behind. -/
theorem plain_append_bytes {ops : Array Oper} {rest : List Oper} {o : Oper} {a : Act} {w : World} {Q : Exit → Act → World → Prop} (s x : Operand) (hgd : o.guard = none)
    (ho : o.op = .call { callee := .builtin .append, args := #[s, x], argTypes := #[33, 33] }) (base : Nat) (v : Value) (xs zs : List Int) (ad : Addr) (m c : Nat)
    (hs : a.eval s = v) (hx : a.eval x = .slice (some ad) m c) (hm : zs.length = m) (hown : Own w base v xs) (hz : ∀ j u, zs[j]? = some u → w.cell? (ad.add j) = some (by8 u)) (hlen : xs.length + m ≤ 10000000) (hbase : base ≤ w.heap.size)
    (h : ∀ v' w', Own w' base v' (xs ++ zs) → Grew w w' v v' → wpList Try.prog ops Q rest (a.put o.dst v') w') : wpList Try.prog ops Q (o :: rest) a w := by
  obtain ⟨i, hi, hz0, hz1, hz2⟩ := info_parts u8_info
  subst hm
  refine wpList_append_own_at w hgd s x 33 ho base 5 i _ 1 1 Try.underlying33 hi hz0 hz1 hz2 rfl (by decide) v xs.length (xs.map by8) hs hown ad zs.length c (zs.map by8) hx (by simp) ?_ (fun u hu => by obtain ⟨z, _, rfl⟩ := List.mem_map.1 hu; rfl) (by unfold maxLen; omega) (by omega) hbase ?_
  · intro j u hu
    rw [List.getElem?_map] at hu
    cases hj : zs[j]? with
    | none => rw [hj] at hu; cases hu
    | some z => rw [hj] at hu; injection hu with hu; rw [← hu]; exact hz j z hj
  · intro v' w' hown' hgr _ hat
    exact h v' w' (by unfold Own; rw [List.map_append, List.length_append]; exact hown') ⟨hgr, hat.imp id fun e => ⟨_, e, Nat.le_refl _⟩⟩
def bytesOf (s : ByteArray) : List Int := s.data.toList.map fun b => (b.toNat : Int)
theorem bytesOf_len (s : ByteArray) : (bytesOf s).length = s.size := by unfold bytesOf; rw [List.length_map, Array.length_toList]; rfl
theorem bytesOf_cells (s : ByteArray) : (bytesOf s).map by8 = Lib.strCells s := by unfold bytesOf Lib.strCells by8; rw [List.map_map]; rfl
theorem run_append_own_text (w : World) (ty : TypeId) (base : Nat) (v : Value) (xs : List Int) (t : ByteArray) (hown : Own w base v xs) (hlen : xs.length + t.size ≤ 10000000) (hbase : base ≤ w.heap.size) :
    ∃ v' w', (Builtin.append_ #[33, 9] ty #[v, .string t]).run Try.prog w = .ok v' w' ∧ Own w' base v' (xs ++ bytesOf t) ∧ Grew w w' v v' := by
  obtain ⟨i, hi, hz0, hz1, hz2⟩ := info_parts u8_info
  obtain ⟨v', w', hr, h2, h3, h4⟩ := Lib.run_append_own_string (P := Try.prog) w base 33 9 ty 5 i Try.underlying33 Try.underlying9 hi hz0 hz1 hz2 v xs.length (xs.map by8) hown t (by unfold maxLen; omega) (by omega) hbase
  have hat : v'.ownBlock = v.ownBlock ∨ ∃ k, v'.ownBlock = some k ∧ w.heap.size ≤ k := by
    rcases hown.2 with ⟨rfl, h0⟩ | ⟨g, cap, cur, rfl, hbg, hg, hnc, hcm, hcs, htake⟩
    · obtain ⟨v2, w2, hr2, h22, _, _⟩ := Lib.run_append_own_string (P := Try.prog) w w.heap.size 33 9 ty 5 i Try.underlying33 Try.underlying9 hi hz0 hz1 hz2 (.slice none 0 0) xs.length (xs.map by8) ⟨hown.1, .inl ⟨rfl, h0⟩⟩ t (by unfold maxLen; omega) (by omega) (Nat.le_refl _)
      rw [hr] at hr2
      injection hr2 with e1 e2
      subst e1; subst e2
      cases hv : v'.ownBlock with
      | none => exact .inl rfl
      | some k => exact .inr ⟨k, rfl, (h22.lt k hv).1⟩
    · by_cases hroom : xs.length + t.size ≤ cap
      · have hr2 := Lib.run_append_room_string (P := Try.prog) w 33 9 ty 5 i Try.underlying33 Try.underlying9 hi hz1 g xs.length cap cur hg t hroom (by rw [hcs, Nat.mul_one]; exact hroom)
        rw [hr] at hr2
        injection hr2 with e1 _
        exact .inl (by rw [e1]; rfl)
      · have hr2 := Lib.run_append_grow_string (P := Try.prog) w 33 9 ty 5 i (.int .u8 0) Try.underlying33 Try.underlying9 hi hz0 ⟨g, 0, none⟩ xs.length cap (xs.map by8) (by rw [hz1]; simp) (hown.cells (g := g) rfl) t (by omega) (by omega) (by rw [hz2]; exact growslice_fits (by omega) (by omega))
        rw [hr] at hr2
        injection hr2 with e1 _
        exact .inr ⟨w.heap.size, by rw [e1]; rfl, Nat.le_refl _⟩
  exact ⟨v', w', hr, by unfold Own; rw [List.map_append, bytesOf_cells, List.length_append, bytesOf_len]; exact h2, h3, hat⟩
/-- A text's bytes are put behind. -/
theorem plain_append_text {ops : Array Oper} {rest : List Oper} {o : Oper} {a : Act} {w : World} {Q : Exit → Act → World → Prop} (s x : Operand) (hgd : o.guard = none)
    (ho : o.op = .call { callee := .builtin .append, args := #[s, x], argTypes := #[33, 9] }) (base : Nat) (v : Value) (xs : List Int) (t : ByteArray)
    (hs : a.eval s = v) (hx : a.eval x = .string t) (hown : Own w base v xs) (hlen : xs.length + t.size ≤ 10000000) (hbase : base ≤ w.heap.size)
    (h : ∀ v' w', Own w' base v' (xs ++ bytesOf t) → Grew w w' v v' → wpList Try.prog ops Q rest (a.put o.dst v') w') : wpList Try.prog ops Q (o :: rest) a w := by
  refine wpList_plain hgd fun K hK => ?_
  obtain ⟨v', w', hr, h2, h3⟩ := run_append_own_text w o.type base v xs t hown hlen hbase
  unfold Oper.wp execOp
  simp only [ho, resolve, invoke, builtin, Sem.run_bind, Sem.run_pure, Result.andThen_ok, List.map_toArray, List.map_cons, List.map_nil, hs, hx, hr]
  exact hK _ _ (h v' w' h2 h3)

/-- The lowest j bytes of n, the highest first. -/
def digs (n : Nat) : Nat → List Int
  | 0 => []
  | j + 1 => ((n / 2 ^ (8 * j) % 256 : Nat) : Int) :: digs n j
theorem digs_len (n : Nat) : ∀ j, (digs n j).length = j
  | 0 => rfl
  | j + 1 => by simp [digs, digs_len n j]
set_option maxRecDepth 100000 in
set_option maxHeartbeats 2000000 in
theorem putNumber_any (v : Value) (xs : List Int) (width n base : Nat) (w : World) (hown : Own w base v xs) (hx : xs.length ≤ 900000) (hw : width ≤ 8) (hb : base ≤ w.heap.size) :
    Calls Try.prog 24 #[v, .int .i64 width, .int .u64 n] w fun e w' => ∃ v', e = .returned v' ∧ Own w' base v' (xs ++ digs n width) ∧ Grew w w' v v' := by
  have HO := Lib.hid hown
  clear hown
  have hwi : (width : Int) ≤ 8 := by omega
  go_enter Try.func24, Try.ntmps24
  go_wp2_with fail
  go_loopw [0, 7] (fun u i wr => ∃ (j : Nat) (acc : List Int), j ≤ width ∧ i = .int .i64 ((j : Int) - 1) ∧ acc ++ digs n j = xs ++ digs n width ∧ Own wr base u acc ∧ Grew w wr v u) (fun _ i _ => (intOf i + 1).toNat)
  case atStart => exact ⟨width, xs, Nat.le_refl _, rfl, rfl, HO.out, Grew.refl _ _⟩
  case round =>
    obtain ⟨j, acc, hj, rfl, ha, ho, hb1⟩ := hrel
    match j, hj, ha with
    | 0, hj, ha =>
      rw [show digs n 0 = [] from rfl, List.append_nil] at ha
      have HE : Hid (Own wr base _ (xs ++ digs n width)) := Lib.hid (ha ▸ ho)
      have HB := Lib.hid hb1
      clear ha ho hb1
      go_wp2_with fail
      go_ret
      exact ⟨_, rfl, HE.out, HB.out⟩
    | j + 1, hj, ha =>
      have hj0 : (0 : Int) ≤ (j : Int) := by omega
      have hj8 : (j : Int) < 8 := by omega
      have HA := Lib.hid ha; have HO2 := Lib.hid ho; have HB := Lib.hid hb1
      clear ha ho hb1
      rw [show ((j + 1 : Nat) : Int) - 1 = (j : Int) by omega]
      have hal : acc.length ≤ 1000000 := by
        have h1 := congrArg List.length HA.out
        rw [List.length_append, List.length_append, digs_len, digs_len] at h1
        omega
      have HAL := Lib.hid hal
      have HSZ : Hid (base ≤ wr.heap.size) := Lib.hid (Nat.le_trans hb HB.out.gr.size)
      clear hal
      go_wp2_with (first
        | (at_builtin; refine plain_append_bytes (.tmp 14) (.tmp 20) rfl rfl base _ acc [(n : Int) / 2 ^ (8 * j) % 256] ⟨wr.heap.size, 0, none⟩ 1 1 rfl rfl rfl (HO2.out.alloc _) (one_cell (new_cell _ _ rfl _ _)) (by have := HAL.out; omega) (by have := HSZ.out; simp; omega) ?_; intro v' w' hown hgr; have HO3 := Lib.hid hown; have HB3 : Hid (Grew w w' v v') := Lib.hid (HB.out.trans hgr.ahead); clear hown hgr)
        | fail)
      refine ⟨⟨j, acc ++ [(n : Int) / 2 ^ (8 * j) % 256], by omega, rfl, ?_, HO3.out, HB3.out⟩, by simp [intOf]⟩
      have h1 := HA.out
      rw [show digs n (j + 1) = ((n / 2 ^ (8 * j) % 256 : Nat) : Int) :: digs n j from rfl] at h1
      rw [← h1, List.append_assoc, List.singleton_append]
      congr 2
end Go.Proofs.Ytohpdpcjhmopbaa.Tz

/-! Layer 6 (tzif): the rows of types and their letters, put. -/
namespace Go.Proofs.Ytohpdpcjhmopbaa.Tz
open Go.RowKit

def offN (t : Ty) : Nat := (IntKind.u64.wrap t.off).toNat
def dstB (t : Ty) : Int := if t.dst then 1 else 0
/-- The rows of types, so many letters being put. -/
def typesB : List Ty → Nat → List Int
  | [], _ => []
  | t :: l, k => digs (offN t) 4 ++ ([dstB t, (k : Int) % 256] ++ typesB l (k + (t.abbr.size + 1)))
def lettersB : List Ty → List Int
  | [] => []
  | t :: l => bytesOf t.abbr ++ ([0] ++ lettersB l)
theorem lettersB_len : ∀ l : List Ty, (lettersB l).length = letters l
  | [] => rfl
  | t :: l => by
    have h1 := lettersB_len l
    have h2 : letters (t :: l) = t.abbr.size + 1 + letters l := by unfold letters; rw [List.map_cons, List.sum_cons]
    rw [h2, ← h1]
    show (bytesOf t.abbr ++ ([0] ++ lettersB l)).length = _
    rw [List.length_append, List.length_append, bytesOf_len]
    show _ + (1 + _) = _
    omega
theorem two_cells (w : World) (x y : Int) (t : TypeId) : ∀ j u, [x, y][j]? = some u → (w.alloc (.cells #[.int .u8 x, .int .u8 y] t)).cell? ((⟨w.heap.size, 0, none⟩ : Addr).add j) = some (by8 u) := by
  intro j u hu
  match j, hu with
  | 0, hu => simp at hu; subst hu; simp [Addr.add, by8]
  | 1, hu => simp at hu; subst hu; simp [Addr.add, by8]
theorem typesB_len : ∀ (l : List Ty) (k : Nat), (typesB l k).length = 6 * l.length
  | [], _ => rfl
  | t :: l, k => by
    unfold typesB
    simp [digs_len, typesB_len l]
    omega
theorem off_nat (t : Ty) : IntKind.u64.wrap t.off = (offN t : Int) := by
  unfold offN
  have : 0 ≤ IntKind.u64.wrap t.off := by rw [IntKind.wrap_u64]; omega
  omega
theorem drop_one {α : Type} {l : List α} {k : Nat} {x : α} (h : l[k]? = some x) : l.drop k = x :: l.drop (k + 1) := by
  have hl : k < l.length := by
    rcases Nat.lt_or_ge k l.length with b | b
    · exact b
    · rw [List.getElem?_eq_none b] at h; cases h
  rw [List.drop_eq_getElem_cons hl]
  rw [List.getElem?_eq_getElem hl] at h
  injection h with h; rw [h]
theorem Own.form {w : World} {base : Nat} {v : Value} {xs : List Int} (h : Own w base v xs) : ∃ A c, v = .slice A xs.length c := by
  rcases h.2 with ⟨rfl, h0⟩ | ⟨g, cap, cur, rfl, _⟩
  · exact ⟨none, 0, by rw [h0]⟩
  · exact ⟨_, _, rfl⟩
/-- Blocks that are not the row's stay. -/
theorem Grew.cell {w w' : World} {v v' : Value} (h : Grew w w' v v') (g i : Nat) {u : Value} (hg : g < w.heap.size) (hn : v.ownBlock = none ∨ v.ownBlock ≠ some g) (hc : w.cell? ⟨g, i, none⟩ = some u) : w'.cell? ⟨g, i, none⟩ = some u :=
  (World.cell?_of_block (h.gr.block g hg (by rcases hn with e | e; (rw [e]; intro c; cases c); exact Ne.symm e))).trans hc
set_option maxRecDepth 100000 in
set_option maxHeartbeats 4000000 in
theorem putTypes_any (v : Value) (l : List Ty) (B : Nat) (w : World) (h : Sl w B 3 v (l.map tyCells)) (hB : B ≤ w.heap.size) (hl : l.length ≤ 1000) (hs : ∀ t ∈ l, t.abbr.size ≤ 15) :
    Calls Try.prog 21 #[v] w fun e w' => ∃ u1 u2, e = .returned (.tuple #[u1, u2]) ∧ Own w' w.heap.size u1 (typesB l 0) ∧ Own w' w.heap.size u2 (lettersB l) ∧ Apart u1 u2 ∧ Below w.heap.size w w' := by
  have H := Lib.hid h; have HS := Lib.hid hs
  obtain ⟨A, c, rfl⟩ := h.len
  clear h hs
  go_enter Try.func21, Try.ntmps21
  go_wp2_with fail
  go_loopw [2, 3, 9] (fun a b i wr => ∃ (k : Nat) (la lb : List Int), k ≤ l.length ∧ i = .int .i64 k ∧ la ++ typesB (l.drop k) lb.length = typesB l 0 ∧ lb ++ lettersB (l.drop k) = lettersB l ∧ la.length = 6 * k ∧ lb.length ≤ 16 * k ∧ Own wr w.heap.size a la ∧ Own wr w.heap.size b lb ∧ Apart a b ∧ Below w.heap.size w wr) (fun _ _ i _ => l.length - (intOf i).toNat)
  case atStart => exact ⟨0, [], [], by omega, rfl, rfl, rfl, rfl, by simp, Own.nil _ _, Own.nil _ _, .inl rfl, Below.refl _ _⟩
  case round =>
    obtain ⟨k, la, lb, hk, rfl, hta, htb, hna, hnb, hoa, hob, hap, hb⟩ := hrel
    have HTA := Lib.hid hta; have HTB := Lib.hid htb; have HNA := Lib.hid hna; have HNB := Lib.hid hnb
    have HOA := Lib.hid hoa; have HOB := Lib.hid hob; have HAP := Lib.hid hap; have HBL := Lib.hid hb
    clear hta htb hna hnb hoa hob hap hb
    obtain ⟨Aa, ca, rfl⟩ := HOA.out.form
    obtain ⟨Ab, cb, rfl⟩ := HOB.out.form
    by_cases hlt : k < l.length
    · have hk0 : (0 : Int) ≤ (k : Int) := by omega
      have hk1 : (k : Int) < (l.length : Int) := by omega
      obtain ⟨x, hx⟩ : ∃ x, l[k]? = some x := ⟨_, List.getElem?_eq_getElem hlt⟩
      obtain ⟨g, off, c', hv, hg, c0, c1, c2⟩ := H.out.ty hx
      injection hv with e1 _ e3
      subst e1; subst e3
      have HXS := Lib.hid (HS.out x (List.mem_of_getElem? hx))
      have k0 := (HBL.out.cell (p := ⟨g, off + k * 3, none⟩) (Nat.lt_of_lt_of_le hg hB)).trans c0
      have k1 := (HBL.out.cell (p := ⟨g, off + k * 3 + 1, none⟩) (Nat.lt_of_lt_of_le hg hB)).trans c1
      have k2 := (HBL.out.cell (p := ⟨g, off + k * 3 + 2, none⟩) (Nat.lt_of_lt_of_le hg hB)).trans c2
      have HX := Lib.hid hx
      clear hx c0 c1 c2
      have hm := off_nat x
      obtain ⟨d, hd⟩ : ∃ d, x.dst = d := ⟨_, rfl⟩
      obtain ⟨W1, hW1⟩ : ∃ W1, wr.alloc (.cells #[.int .i64 x.off, .bool x.dst, .string x.abbr] 54) = W1 := ⟨_, rfl⟩
      have hsz : W1.heap.size = wr.heap.size + 1 := by rw [← hW1]; simp
      have HSZ := Lib.hid hsz
      have HBS : Hid (w.heap.size ≤ wr.heap.size) := Lib.hid HBL.out.size
      have HB1 : Hid (Below w.heap.size w W1) := Lib.hid (by rw [← hW1]; exact HBL.out.alloc HBL.out.size _)
      have HOA1 : Hid (Own W1 w.heap.size (.slice Aa la.length ca) la) := Lib.hid (by rw [← hW1]; exact HOA.out.alloc _)
      have HOB1 : Hid (Own W1 w.heap.size (.slice Ab lb.length cb) lb) := Lib.hid (by rw [← hW1]; exact HOB.out.alloc _)
      have HNE : Hid (∀ kk, (Value.slice Aa la.length ca).ownBlock = some kk → kk < wr.heap.size) := Lib.hid fun kk hkk => (HOA.out.lt kk hkk).2
      have HNF : Hid (∀ kk, (Value.slice Ab lb.length cb).ownBlock = some kk → kk < wr.heap.size) := Lib.hid fun kk hkk => (HOB.out.lt kk hkk).2
      have m0 : W1.cell? ⟨wr.heap.size, 0, none⟩ = some (.int .i64 x.off) := by rw [← hW1]; exact World.cell?_alloc_mark wr #[.int .i64 x.off, .bool x.dst, .string x.abbr] 54 (0, 0) 0
      have m1 : W1.cell? ⟨wr.heap.size, 1, none⟩ = some (.bool x.dst) := by rw [← hW1]; exact World.cell?_alloc_mark wr #[.int .i64 x.off, .bool x.dst, .string x.abbr] 54 (0, 0) 1
      have m2 : W1.cell? ⟨wr.heap.size, 2, none⟩ = some (.string x.abbr) := by rw [← hW1]; exact World.cell?_alloc_mark wr #[.int .i64 x.off, .bool x.dst, .string x.abbr] 54 (0, 0) 2
      clear hsz
      have M2 := Lib.hid m2
      have HP : Hid (Calls Try.prog 24 #[.slice Aa la.length ca, .int .i64 4, .int .u64 (offN x)] W1 fun e w' => ∃ v', e = .returned v' ∧ Own w' w.heap.size v' (la ++ digs (offN x) 4) ∧ Grew W1 w' (.slice Aa la.length ca) v') := Lib.hid (putNumber_any _ la 4 (offN x) w.heap.size W1 HOA1.out (by have := HNA.out; omega) (by omega) (by have := HBS.out; have := HSZ.out; omega))
      have HDB : Hid (dstB x = if d then 1 else 0) := Lib.hid (by unfold dstB; rw [hd])
      rw [hd] at hW1 m1 k1
      cases d with
      | true =>
        have HDV : Hid (dstB x = 1) := Lib.hid (by rw [HDB.out]; rfl)
        go_wp2_with (first
          | (go_at_call 24; refine HP.out.mono ?_; clear HP; rintro e w2 ⟨a2, rfl, hO2, hG2⟩; have HO2 := Lib.hid hO2; have HG2 := Lib.hid hG2; clear hO2 hG2 k0 k1 k2 m0 m1 m2 hW1)
          | (at_builtin; refine plain_append_bytes (.tmp 20) (.tmp 25) rfl rfl w.heap.size _ (la ++ digs (offN x) 4) [1, (lb.length : Int) % 256] ⟨w2.heap.size, 0, none⟩ 2 2 rfl rfl rfl (HO2.out.alloc _) (two_cells w2 _ _ _) (by have := HNA.out; rw [List.length_append, digs_len]; omega) (by have := HG2.out.gr.size; have := HBS.out; have := HSZ.out; simp; omega) ?_; intro a4 w4 hO4 hG4; have HO4 := Lib.hid hO4; have HG4 := Lib.hid (HG2.out.trans hG4.ahead); clear hO4 hG4; have m4 := HG4.out.cell wr.heap.size 2 (by have := HSZ.out; omega) (.inr fun e => by have := HNE.out _ e; omega) M2.out; have HOB4 := Lib.hid (HOB1.out.beside HG4.out HAP.out.symm); have HAP4 := Lib.hid (HOB1.out.apart HG4.out HAP.out.symm); have HB4 := Lib.hid (HB1.out.trans (grew_below HOA1.out HG4.out (Nat.le_refl _) HB1.out.size)))
          | (at_builtin; refine plain_append_text (.tmp 27) (.tmp 29) rfl rfl w.heap.size _ lb x.abbr rfl rfl HOB4.out (by have := HNB.out; have := HXS.out; omega) HB4.out.size ?_; intro b5 w5 hO5 hG5; have HO5 := Lib.hid hO5; have HG5 := Lib.hid hG5; have HB5 := Lib.hid (HB4.out.trans (grew_below HOB4.out hG5 (Nat.le_refl _) HB4.out.size)); clear hO5 hG5 m4)
          | (at_builtin; refine plain_append_bytes (.tmp 30) (.tmp 31) rfl rfl w.heap.size _ (lb ++ bytesOf x.abbr) [0] ⟨w5.heap.size, 0, none⟩ 1 1 rfl rfl rfl (HO5.out.alloc _) (one_cell (new_cell _ _ rfl _ _)) (by have := HNB.out; have := HXS.out; rw [List.length_append, bytesOf_len]; omega) (by have := HB5.out.size; simp; omega) ?_; intro b6 w6 hO6 hG6; have HO6 := Lib.hid hO6; have HG6 := Lib.hid (HG5.out.trans hG6.ahead); clear hO6 hG6)
          | fail)
        refine ⟨⟨k + 1, _, _, hlt, by go_num, ?_, ?_, ?_, ?_, HO4.out.beside HG6.out HAP4.out.symm, HO6.out, HO4.out.apart HG6.out HAP4.out.symm, HB4.out.trans (grew_below HOB4.out HG6.out (Nat.le_refl _) HB4.out.size)⟩, by simp [intOf]; omega⟩
        · rw [← HTA.out, drop_one HX.out]
          simp [typesB, HDV.out, bytesOf_len]
        · rw [← HTB.out, drop_one HX.out]
          simp [lettersB]
        · have := HNA.out
          simp [digs_len]; omega
        · have := HNB.out; have := HXS.out
          simp [bytesOf_len]; omega
      | false =>
        have HDV : Hid (dstB x = 0) := Lib.hid (by rw [HDB.out]; rfl)
        go_wp2_with (first
          | (go_at_call 24; refine HP.out.mono ?_; clear HP; rintro e w2 ⟨a2, rfl, hO2, hG2⟩; have HO2 := Lib.hid hO2; have HG2 := Lib.hid hG2; clear hO2 hG2 k0 k1 k2 m0 m1 m2 hW1)
          | (at_builtin; refine plain_append_bytes (.tmp 20) (.tmp 25) rfl rfl w.heap.size _ (la ++ digs (offN x) 4) [0, (lb.length : Int) % 256] ⟨w2.heap.size, 0, none⟩ 2 2 rfl rfl rfl (HO2.out.alloc _) (two_cells w2 _ _ _) (by have := HNA.out; rw [List.length_append, digs_len]; omega) (by have := HG2.out.gr.size; have := HBS.out; have := HSZ.out; simp; omega) ?_; intro a4 w4 hO4 hG4; have HO4 := Lib.hid hO4; have HG4 := Lib.hid (HG2.out.trans hG4.ahead); clear hO4 hG4; have m4 := HG4.out.cell wr.heap.size 2 (by have := HSZ.out; omega) (.inr fun e => by have := HNE.out _ e; omega) M2.out; have HOB4 := Lib.hid (HOB1.out.beside HG4.out HAP.out.symm); have HAP4 := Lib.hid (HOB1.out.apart HG4.out HAP.out.symm); have HB4 := Lib.hid (HB1.out.trans (grew_below HOA1.out HG4.out (Nat.le_refl _) HB1.out.size)))
          | (at_builtin; refine plain_append_text (.tmp 27) (.tmp 29) rfl rfl w.heap.size _ lb x.abbr rfl rfl HOB4.out (by have := HNB.out; have := HXS.out; omega) HB4.out.size ?_; intro b5 w5 hO5 hG5; have HO5 := Lib.hid hO5; have HG5 := Lib.hid hG5; have HB5 := Lib.hid (HB4.out.trans (grew_below HOB4.out hG5 (Nat.le_refl _) HB4.out.size)); clear hO5 hG5 m4)
          | (at_builtin; refine plain_append_bytes (.tmp 30) (.tmp 31) rfl rfl w.heap.size _ (lb ++ bytesOf x.abbr) [0] ⟨w5.heap.size, 0, none⟩ 1 1 rfl rfl rfl (HO5.out.alloc _) (one_cell (new_cell _ _ rfl _ _)) (by have := HNB.out; have := HXS.out; rw [List.length_append, bytesOf_len]; omega) (by have := HB5.out.size; simp; omega) ?_; intro b6 w6 hO6 hG6; have HO6 := Lib.hid hO6; have HG6 := Lib.hid (HG5.out.trans hG6.ahead); clear hO6 hG6)
          | fail)
        refine ⟨⟨k + 1, _, _, hlt, by go_num, ?_, ?_, ?_, ?_, HO4.out.beside HG6.out HAP4.out.symm, HO6.out, HO4.out.apart HG6.out HAP4.out.symm, HB4.out.trans (grew_below HOB4.out HG6.out (Nat.le_refl _) HB4.out.size)⟩, by simp [intOf]; omega⟩
        · rw [← HTA.out, drop_one HX.out]
          simp [typesB, HDV.out, bytesOf_len]
        · rw [← HTB.out, drop_one HX.out]
          simp [lettersB]
        · have := HNA.out
          simp [digs_len]; omega
        · have := HNB.out; have := HXS.out
          simp [bytesOf_len]; omega
    · have hk1 : ¬ (k : Int) < (l.length : Int) := by omega
      have htk : l.drop k = [] := List.drop_eq_nil_of_le (by omega)
      have h1 := HTA.out; have h2 := HTB.out
      rw [htk] at h1 h2
      have H1 : Hid (la = typesB l 0) := Lib.hid (by rw [← h1]; simp [typesB])
      have H2 : Hid (lb = lettersB l) := Lib.hid (by rw [← h2]; simp [lettersB])
      clear h1 h2
      go_wp2_with fail
      go_ret2
      exact ⟨_, _, rfl, H1.out ▸ HOA.out, H2.out ▸ HOB.out, HAP.out, HBL.out⟩
end Go.Proofs.Ytohpdpcjhmopbaa.Tz

/-! Layer 6 (tzif): 'append(b, make([]byte, k)...)' onto a row of the call's own. -/
namespace Go.Proofs.Ytohpdpcjhmopbaa.Tz
open Go.RowKit

def zerosB (k : Nat) : List Int := List.replicate k 0
theorem zeroCells_by8 (k : Nat) : Builtin.zeroCells (Value.int .u8 0).cells k = ((zerosB k).map by8).toArray := by
  apply Array.ext'
  simp [Builtin.zeroCells, zerosB, by8, Value.cells]
  exact List.eq_replicate_iff.2 ⟨by simp, fun b hb => by
    obtain ⟨i, _, rfl⟩ := List.mem_map.1 hb
    rw [Nat.mod_one]; rfl⟩
theorem run_append_own_zeros (w : World) (tn ty : TypeId) (hn : Try.prog.underlying tn = some (.int .i64)) (base : Nat) (v : Value) (xs : List Int) (k : Nat) (h0 : 0 < k) (hown : Own w base v xs) (hlen : xs.length + k ≤ 10000000) (hbase : base ≤ w.heap.size) :
    ∃ v' w', (Builtin.append_ #[33, tn] ty #[v, .int .i64 k]).run Try.prog w = .ok v' w' ∧ Own w' base v' (xs ++ zerosB k) ∧ Grew w w' v v' := by
  obtain ⟨i, hi, hz0, hz1, hz2⟩ := info_parts u8_info
  have ht := Try.underlying33
  have hzl : (zerosB k).length = k := by unfold zerosB; simp
  have grown : ∀ (old : Nat), old < xs.length + k → Own (w.drew.alloc (.cells ((xs.map by8).toArray ++ Builtin.zeroCells (Value.int .u8 0).cells k ++ Builtin.zeroCells (Value.int .u8 0).cells (grownCap w (xs.length + k) old 5 - (xs.length + k))) 5)) base
        (.slice (some ⟨w.heap.size, 0, none⟩) (xs.length + k) (grownCap w (xs.length + k) old 5)) (xs ++ zerosB k) ∧
      w.grownBy (w.drew.alloc (.cells ((xs.map by8).toArray ++ Builtin.zeroCells (Value.int .u8 0).cells k ++ Builtin.zeroCells (Value.int .u8 0).cells (grownCap w (xs.length + k) old 5 - (xs.length + k))) 5)) v.ownBlock := by
    intro old ho
    have hge := grownCap_ge w (xs.length + k) old 5
    have hcm : grownCap w (xs.length + k) old 5 ≤ maxLen := grownCap_le_maxLen w (xs.length + k) old 5 (by unfold maxLen; omega)
    rw [zeroCells_by8, zeroCells_by8]
    refine ⟨⟨by simp, .inr ⟨w.heap.size, _, _, by rw [List.length_append, hzl], hbase, heap_alloc_new w.drew _, by rw [List.length_append, hzl]; exact hge, hcm, ?_, ?_⟩⟩, ⟨rfl, rfl, rfl, by simp, fun j hj _ => heap_alloc_old w.drew _ hj⟩⟩
    · simp [zerosB]; omega
    · rw [Nat.mul_one, Array.toList_append, Array.toList_append, ← List.map_append, show (xs ++ zerosB k).length = ((xs ++ zerosB k).map by8).length by simp]
      exact List.take_left
  rcases hown.2 with ⟨rfl, hx0⟩ | ⟨g, cap, cur, rfl, hbg, hg, hnc, hcm, hcs, htake⟩
  · obtain rfl : xs = [] := List.eq_nil_of_length_eq_zero hx0
    have hr := Lib.run_append_grow_zeros (P := Try.prog) w 33 tn ty 5 i (.int .u8 0) .i64 .i64 ht hn hi hz0 none 0 0 [] (run_firstCells_none w.drew i.size 0 0 0) k h0 (by omega) (by omega) (by omega) (by rw [hz2]; omega) (by rw [hz2]; exact growslice_fits (by omega) (by omega))
    have hgr := grown 0 (by simpa using h0)
    simp only [List.length_nil, Nat.zero_add, List.map_nil] at hgr hr ⊢
    exact ⟨_, _, hr, hgr.1, hgr.2, .inr ⟨w.heap.size, rfl, Nat.le_refl _⟩⟩
  · by_cases hroom : xs.length + k ≤ cap
    · have hst := run_storeCells_at Try.prog g xs.length 5 ((zerosB k).map by8) 0 cur w hg (by rw [List.length_map, hzl]; rw [hcs]; omega) (fun u hu => by obtain ⟨z, _, rfl⟩ := List.mem_map.1 hu; rfl)
      simp only [Nat.add_zero, List.length_map, hzl] at hst
      have hr : (Builtin.append_ #[33, tn] ty #[.slice (some ⟨g, 0, none⟩) xs.length cap, .int .i64 k]).run Try.prog w = .ok (.slice (some ⟨g, 0, none⟩) (xs.length + k) cap) (w.setRow g (cur.toList.take xs.length ++ (zerosB k).map by8 ++ cur.toList.drop (xs.length + k)).toArray) := by
        have hw : IntKind.i64.wrap (k : Int) = k := by rw [IntKind.wrap_i64]; omega
        have hneg : ¬ ((k : Int) < 0) := by omega
        have h48i : ¬ (281474976710656 < (k : Int)) := by omega
        have hk : k ≠ 0 := by omega
        simp [Builtin.append_, run_underlying ht, run_underlying hn, sizeOf, typeInfo, zeroValue, hi, hz0, hz1, hz2, asInt, asIntOf, hw, hneg, h48i, hk, hroom, zeroCells_by8, Addr.add_lit, hst]
      refine ⟨_, _, hr, ⟨by simp, .inr ⟨g, cap, _, by rw [List.length_append, hzl], hbg, setRow_heap w g cur _ 5 _ hg, by rw [List.length_append, hzl]; exact hroom, hcm, ?_, ?_⟩⟩, ⟨⟨rfl, rfl, rfl, by simp, fun j _ hj => setRow_other w g j _ (fun e => hj (by simp [Value.ownBlock, e]))⟩, .inl rfl⟩⟩
      · simp [hzl]; omega
      · have ht' : cur.toList.take xs.length = xs.map by8 := by simpa using htake
        rw [Nat.mul_one, ht', ← List.map_append, show (xs ++ zerosB k).length = ((xs ++ zerosB k).map by8).length by simp]
        exact List.take_left
    · have hr := Lib.run_append_grow_zeros (P := Try.prog) w 33 tn ty 5 i (.int .u8 0) .i64 .i64 ht hn hi hz0 (some ⟨g, 0, none⟩) xs.length cap (xs.map by8) (run_firstCells_some w.drew i.size xs.length ⟨g, 0, none⟩ xs.length cap (xs.map by8) (by rw [hz1]; simp) (by simpa using hown.cells (g := g) rfl)) k h0 (by omega) (by omega) (by omega) (by rw [hz2]; omega) (by rw [hz2]; exact growslice_fits (by omega) (by omega))
      have hgr := grown cap (by omega)
      exact ⟨_, _, hr, hgr.1, hgr.2, .inr ⟨w.heap.size, rfl, Nat.le_refl _⟩⟩
/-- So many zeros are put behind. -/
theorem plain_append_zeros {ops : Array Oper} {rest : List Oper} {o : Oper} {a : Act} {w : World} {Q : Exit → Act → World → Prop} (s x : Operand) (tn : TypeId) (hn : Try.prog.underlying tn = some (.int .i64)) (hgd : o.guard = none)
    (ho : o.op = .call { callee := .builtin .append, args := #[s, x], argTypes := #[33, tn] }) (base : Nat) (v : Value) (xs : List Int) (k : Nat) (h0 : 0 < k)
    (hs : a.eval s = v) (hx : a.eval x = .int .i64 k) (hown : Own w base v xs) (hlen : xs.length + k ≤ 10000000) (hbase : base ≤ w.heap.size)
    (h : ∀ v' w', Own w' base v' (xs ++ zerosB k) → Grew w w' v v' → wpList Try.prog ops Q rest (a.put o.dst v') w') : wpList Try.prog ops Q (o :: rest) a w := by
  refine wpList_plain hgd fun K hK => ?_
  obtain ⟨v', w', hr, h2, h3⟩ := run_append_own_zeros w tn o.type hn base v xs k h0 hown hlen hbase
  unfold Oper.wp execOp
  simp only [ho, resolve, invoke, builtin, Sem.run_bind, Sem.run_pure, Result.andThen_ok, List.map_toArray, List.map_cons, List.map_nil, hs, hx, hr]
  exact hK _ _ (h v' w' h2 h3)
end Go.Proofs.Ytohpdpcjhmopbaa.Tz

/-! A region that draws its order, one walk in the text's order (wp_region_mix: of no program; the text of stage 5's VfB). -/
namespace Go.Proofs.Ytohpdpcjhmopbaa.Tz
open Go

/-- It ends normally, and so. -/
def NP (N : Act → World → Prop) : Exit → Act → World → Prop
  | .normal, a, w => N a w
  | _, _, _ => False
section
variable {P : Program} {md : Region.Mode} {S : World → Prop} {N : Act → World → Prop} {Q : Exit → Act → World → Prop}
theorem wp_of_NP {o : Oper} {a : Act} {w : World} {K K' : Act → World → Prop} (hk : ∀ a w, K a w → K' a w) (h : o.wp P a w K (NP N)) : o.wp P a w K' Q := by
  unfold Oper.wp at *
  generalize (execOp a.eval o).run P w = r at *
  match r, h with
  | .ok (.value v) w', h => exact hk _ _ h
  | .ok .skip w', h => exact hk _ _ h
  | .ok (.defer d) w', h => exact hk _ _ h
  | .ok (.enter f args) w', h =>
    refine Calls.mono h fun e w'' he => ?_
    cases e with
    | returned v => exact hk _ _ he
    | panicked c => exact he.elim
    | outgrown => obtain ⟨_, _, h0⟩ := he; exact h0.elim
  | .ok (.row row args) w', h => exact Rows.mono h fun _ _ he => hk _ _ he
  | .halt (.panic v) w', h => exact h.elim

/-- The walk in the text's order; true: it is free. -/
def wpMix (P : Program) (S : World → Prop) (N : Act → World → Prop) : List (Oper × Bool) → Act → World → Prop
  | [], a, w => N a w
  | (o, true) :: l, a, w => ∃ v, (∀ z, S z → (execOp a.eval o).run P z = .ok (.value v) z) ∧ wpMix P S N l (a.put o.dst v) w
  | (o, false) :: l, a, w => o.wp P a w (fun a' w' => S w' ∧ wpMix P S N l a' w') (NP N)
def mixB (md : Region.Mode) (ops : Array Oper) : List Bool → Nat → Array Bool → Bool
  | [], _, listed => (Region.ready md ops listed).isEmpty
  | true :: fl, k, listed => (Region.ready md ops listed).contains k && Region.free md ops listed k && mixB md ops fl (k + 1) (listed.setIfInBounds k true)
  | false :: fl, k, listed => decide (Region.ready md ops listed = [k]) && mixB md ops fl (k + 1) (listed.setIfInBounds k true)

theorem held_of_mix {ops : Array Oper} (hsel : Region.noSelect ops = true) (hg : ∀ (k : Nat) (o : Oper), ops[k]? = some o → o.guard = none) :
    ∀ (l : List (Oper × Bool)) (k : Nat) (listed : Array Bool) (a : Act) (w : World), (∀ (j : Nat) (x : Oper × Bool), l[j]? = some x → ops[k + j]? = some x.1) → mixB md ops (l.map (·.2)) k listed = true → S w → wpMix P S N l a w →
    wpAnyH P md ops (NP N) S l.length listed a w
  | [], k, listed, a, w, _, hB, _, h => ⟨by simpa [mixB] using hB, h⟩
  | (o, true) :: l, k, listed, a, w, hl, hB, hS, h => by
    have h0 : ops[k]? = some o := hl 0 (o, true) rfl
    simp only [List.map_cons, mixB, Bool.and_eq_true] at hB
    obtain ⟨v, hv, hr⟩ := h
    have hw : Region.wanted o (yielded ops a.tmps) = true := by simp [Region.wanted, hg k o h0]
    exact wpAnyH_take h0 hsel hB.1.2 hB.1.1 (fun _ _ _ h => h.elim) (.inl ⟨hw, hv⟩) hS (held_of_mix hsel hg l (k + 1) _ _ _ (fun j x hj => by rw [show k + 1 + j = k + (j + 1) by omega]; exact hl (j + 1) x (by simpa using hj)) hB.2 hS hr)
  | (o, false) :: l, k, listed, a, w, hl, hB, hS, h => by
    have h0 : ops[k]? = some o := hl 0 (o, false) rfl
    simp only [List.map_cons, mixB, Bool.and_eq_true, decide_eq_true_eq] at hB
    have hw : Region.wanted o (yielded ops a.tmps) = true := by simp [Region.wanted, hg k o h0]
    refine wpAnyH_all hB.1 (by simp) fun i hi => ?_
    obtain rfl : i = k := by simpa using hi
    unfold wpOp
    simp only [h0, hw, if_true]
    exact .inl (wp_of_NP (fun a' w' h' => ⟨h'.1, held_of_mix hsel hg l (i + 1) _ _ _ (fun j x hj => by rw [show i + 1 + j = i + (j + 1) by omega]; exact hl (j + 1) x (by simpa using hj)) hB.2 h'.1 h'.2⟩) h)

/-- Nothing is ready: all have come up. -/
theorem all_listed {ops : Array Oper} {listed : Array Bool} (hs : listed.size = ops.size) (hb : ∀ (j : Nat) (o : Oper), ops[j]? = some o → ∀ e ∈ o.after, e.on < j) (h : Region.ready md ops listed = []) : ∀ i, i < ops.size → listed.getD i false = true := by
  intro i
  induction i using Nat.strongRecOn with
  | _ i ih =>
    intro hi
    cases hc : listed.getD i false with
    | true => rfl
    | false =>
      have hu : listed.getD i true = false := by
        have hlt : i < listed.size := by omega
        simp [hlt] at hc ⊢; exact hc
      have : i ∈ Region.ready md ops listed := mem_ready.2 ⟨hu, ops[i], Array.getElem?_eq_getElem hi, fun e he _ => ih e.on (hb i _ (Array.getElem?_eq_getElem hi) e he) (by have := hb i _ (Array.getElem?_eq_getElem hi) e he; omega)⟩
      rw [h] at this; cases this

theorem getD_push_lt {x : Array Bool} {b d : Bool} {i : Nat} (h : i < x.size) : (x.push b).getD i d = x.getD i d := by
  rw [Array.getD_eq_getD_getElem?, Array.getD_eq_getD_getElem?, Array.getElem?_push, if_neg (by omega)]
theorem getD_push_eq {x : Array Bool} {b d : Bool} : (x.push b).getD x.size d = b := by
  rw [Array.getD_eq_getD_getElem?, Array.getElem?_push, if_pos rfl]; rfl
theorem push_set {x : Array Bool} {b : Bool} {i : Nat} (h : i < x.size) : (x.push b).setIfInBounds i true = (x.setIfInBounds i true).push b := by
  apply Array.ext_getElem?
  intro j
  rw [Array.getElem?_setIfInBounds, Array.getElem?_push, Array.getElem?_push, Array.getElem?_setIfInBounds, Array.size_setIfInBounds, Array.size_push]
  by_cases hij : i = j
  · subst hij
    rw [if_pos rfl, if_pos (by omega), if_neg (by omega), if_pos rfl, if_pos h]
  · rw [if_neg hij, if_neg hij]
theorem getD_flip {x : Array Bool} {i : Nat} (h : i < x.size) (d d' : Bool) : x.getD i d = x.getD i d' := by
  rw [Array.getD_eq_getD_getElem?, Array.getD_eq_getD_getElem?, Array.getElem?_eq_getElem h]; rfl

variable {ops : Array Oper} {o : Oper}
/-- What came up came behind what it waits for. -/
def Shut (md : Region.Mode) (ops : Array Oper) (listed : Array Bool) : Prop := ∀ (j : Nat) (x : Oper), ops[j]? = some x → listed.getD j false = true → ∀ e ∈ x.after, Region.binds md e = true → listed.getD e.on false = true
theorem Shut.set {listed : Array Bool} {i : Nat} (h : Shut md ops listed) (hi : i ∈ Region.ready md ops listed) : Shut md ops (listed.setIfInBounds i true) := by
  intro j x hx hj e he hbb
  obtain ⟨_, oi, hoi, hall⟩ := mem_ready.1 hi
  by_cases hij : i = j
  · subst hij
    obtain rfl : x = oi := Option.some.inj (hx.symm.trans hoi)
    exact getD_set_true (hall e he hbb)
  · rw [getD_set_ne false hij] at hj
    exact getD_set_true (h j x hx hj e he hbb)
theorem Shut.all {listed : Array Bool} (h : Shut md ops listed) (hw : ∀ i, i < ops.size → (∃ e ∈ o.after, Region.binds md e = true ∧ e.on = i) ∨ ∃ (j : Nat) (x : Oper), i < j ∧ ops[j]? = some x ∧ ∃ e ∈ x.after, Region.binds md e = true ∧ e.on = i)
    (ho : ∀ e ∈ o.after, Region.binds md e = true → listed.getD e.on false = true) : ∀ i, i < ops.size → listed.getD i false = true := by
  have main : ∀ (d i : Nat), ops.size - i = d → i < ops.size → listed.getD i false = true := by
    intro d
    induction d using Nat.strongRecOn with
    | _ d ih =>
      intro i hd hi
      rcases hw i hi with ⟨e, he, hbb, hon⟩ | ⟨j, x, hij, hx, e, he, hbb, hon⟩
      · rw [← hon]; exact ho e he hbb
      · have hj : j < ops.size := (Array.getElem?_eq_some_iff.1 hx).1
        rw [← hon]
        exact h j x hx (ih (ops.size - j) (by omega) j rfl hj) e he hbb
  exact fun i hi => main _ i rfl hi
/-- The last operation, behind all others. -/
theorem last_any (ho : o.guard = none) (he : ∀ e ∈ o.after, e.on < ops.size) (hN : ∀ a w, N a w → o.wp P a w (fun a' w' => Q .normal a' w') Q) {listed : Array Bool} (hs : listed.size = ops.size) (hall : ∀ i, i < ops.size → listed.getD i false = true) {a : Act} {w : World} (h : N a w) (g : Nat) : wpAny P md (ops.push o) Q (g + 1) (listed.push false) a w := by
  have hm : (ops.push o)[ops.size]? = some o := by simp
  have hr : ops.size ∈ Region.ready md (ops.push o) (listed.push false) := by
    refine mem_ready.2 ⟨by rw [← hs]; exact getD_push_eq, o, hm, fun e hee _ => ?_⟩
    rw [getD_push_lt (by have := he e hee; omega)]
    exact hall _ (he e hee)
  refine ⟨fun h0 => (by rw [h0] at hr; cases hr), fun i hi => ?_⟩
  obtain ⟨hu, oi, hoi, _⟩ := mem_ready.1 hi
  have hlt : i < (ops.push o).size := (Array.getElem?_eq_some_iff.1 hoi).1
  rw [Array.size_push] at hlt
  have him : i = ops.size := by
    rcases Nat.lt_or_ge i ops.size with hl | hl
    · rw [getD_push_lt (by omega), getD_flip (by omega) true false, hall i hl] at hu; cases hu
    · omega
  subst him
  have hdone : ∀ j, ((listed.push false).setIfInBounds ops.size true).getD j true = true := by
    intro j
    rw [Array.getD_eq_getD_getElem?, Array.getElem?_setIfInBounds]
    by_cases hj : ops.size = j
    · rw [if_pos hj]; split <;> rfl
    · rw [if_neg hj, Array.getElem?_push]
      by_cases hj2 : j = listed.size
      · omega
      · rw [if_neg hj2, ← Array.getD_eq_getD_getElem?]
        rcases Nat.lt_or_ge j ops.size with hl | hl
        · rw [getD_flip (by omega) true false]; exact hall j hl
        · rw [Array.getD_eq_getD_getElem?, Array.getElem?_eq_none (by omega)]; rfl
  have hnil : Region.ready md (ops.push o) ((listed.push false).setIfInBounds ops.size true) = [] := by
    apply List.eq_nil_iff_forall_not_mem.2
    intro j hj
    have := (mem_ready.1 hj).1
    rw [hdone j] at this; cases this
  unfold wpOp
  simp only [hm]
  rw [if_pos (by simp [Region.wanted, ho])]
  refine .inl (Oper.wp_mono (fun a' w' hq => ?_) (hN a w h))
  cases g with
  | zero => exact ⟨hnil, hq⟩
  | succ g => exact ⟨fun _ => hq, fun j hj => by rw [hnil] at hj; cases hj⟩

theorem lift_any (hg : ∀ (k : Nat) (x : Oper), ops[k]? = some x → x.guard = none) (hb : ∀ (j : Nat) (x : Oper), ops[j]? = some x → ∀ e ∈ x.after, e.on < j) (ho : o.guard = none) (he : ∀ e ∈ o.after, e.on < ops.size) (hw : ∀ i, i < ops.size → (∃ e ∈ o.after, Region.binds md e = true ∧ e.on = i) ∨ ∃ (j : Nat) (x : Oper), i < j ∧ ops[j]? = some x ∧ ∃ e ∈ x.after, Region.binds md e = true ∧ e.on = i)
    (hN : ∀ a w, N a w → o.wp P a w (fun a' w' => Q .normal a' w') Q) : ∀ (f : Nat) (listed : Array Bool) (a : Act) (w : World), listed.size = ops.size → Shut md ops listed → wpAny P md ops (NP N) f listed a w → wpAny P md (ops.push o) Q (f + 1) (listed.push false) a w
  | 0, listed, a, w, hs, _, h => last_any ho he hN hs (all_listed hs hb h.1) h.2 0
  | f + 1, listed, a, w, hs, hc, h => by
    by_cases hr : Region.ready md ops listed = []
    · exact last_any ho he hN hs (all_listed hs hb hr) (h.1 hr) (f + 1)
    · obtain ⟨k, hk⟩ := List.exists_mem_of_ne_nil _ hr
      obtain ⟨hku, ok, hok, hka⟩ := mem_ready.1 hk
      have hkl : k < ops.size := (Array.getElem?_eq_some_iff.1 hok).1
      have up : ∀ (j : Nat) (x : Oper), ops[j]? = some x → (ops.push o)[j]? = some x := fun j x hx => by
        rw [Array.getElem?_push, if_neg (by have := (Array.getElem?_eq_some_iff.1 hx).1; omega)]; exact hx
      refine ⟨fun h0 => ?_, fun i hi => ?_⟩
      · have : k ∈ Region.ready md (ops.push o) (listed.push false) := mem_ready.2 ⟨by rw [getD_push_lt (by omega)]; exact hku, ok, up k ok hok, fun e hee hbb => by
          rw [getD_push_lt (by have := hb k ok hok e hee; omega)]; exact hka e hee hbb⟩
        rw [h0] at this; cases this
      · obtain ⟨hu, oi, hoi, hall⟩ := mem_ready.1 hi
        have hlt : i < (ops.push o).size := (Array.getElem?_eq_some_iff.1 hoi).1
        rw [Array.size_push] at hlt
        rcases Nat.lt_or_ge i ops.size with hl | hl
        · have hoi' : ops[i]? = some oi := by rw [Array.getElem?_push, if_neg (by omega)] at hoi; exact hoi
          rw [getD_push_lt (by omega)] at hu
          have hi' : i ∈ Region.ready md ops listed := mem_ready.2 ⟨hu, oi, hoi', fun e hee hbb => by
            have := hall e hee hbb
            rwa [getD_push_lt (by have := hb i oi hoi' e hee; omega)] at this⟩
          have h2 := h.2 i hi'
          have hwt : ∀ y, Region.wanted oi y = true := fun y => by simp [Region.wanted, hg i oi hoi']
          unfold wpOp at h2 ⊢
          simp only [hoi', hoi, hwt, if_true] at h2 ⊢
          rw [push_set (by omega)]
          rcases h2 with h2 | ⟨_, _, _, h2⟩
          · exact .inl (wp_of_NP (fun a' w' h3 => lift_any hg hb ho he hw hN f _ _ _ (by simpa using hs) (hc.set hi') h3) h2)
          · exact h2.elim
        · obtain rfl : i = ops.size := by omega
          have hoo : oi = o := by simpa using hoi.symm
          subst hoo
          have hk2 := hc.all hw (fun e hee hbb => by
            have h3 := hall e hee hbb
            rwa [getD_push_lt (by have := he e hee; omega)] at h3) k hkl
          rw [getD_flip (by omega) false true, hku] at hk2
          cases hk2

def mixTailB (ops : Array Oper) (o : Oper) (fl : List Bool) : Bool :=
  Region.noSelect ops && (List.range ops.size).all (fun j => match ops[j]? with | some x => x.guard.isNone && x.after.all fun e => decide (e.on < j) | none => true) && o.guard.isNone && o.after.all (fun e => decide (e.on < ops.size)) &&
  (List.range ops.size).all (fun i => (o.after.any fun e => Region.binds .any e && e.on == i) || (List.range ops.size).any fun j => decide (i < j) && match ops[j]? with | some x => x.after.any fun e => Region.binds .any e && e.on == i | none => false) && decide (fl.length = ops.size) && mixB .any ops fl 0 (Array.replicate ops.size false)
theorem wp_region_mix (S : World → Prop) {id : Nat} {l : List Oper} {a : Act} {w : World} (fl : List Bool) (o : Oper) (hm : P.follows .mixedOrders = true) (ho : l.getLast? = some o) (hB : mixTailB l.dropLast.toArray o fl = true) (hS : S w.drew)
    (h : wpMix P S (fun a' w' => o.wp P a' w' (fun a'' w'' => Q .normal a'' w'') Q) (l.dropLast.zip fl) a w.drew) : (Code.region id l.toArray true).wp P Q a w := by
  simp only [mixTailB, Bool.and_eq_true, decide_eq_true_eq] at hB
  obtain ⟨⟨⟨⟨⟨⟨hsel, hops⟩, hog⟩, hoa⟩, hwt⟩, hfl⟩, hmix⟩ := hB
  have hop : ∀ (j : Nat) (x : Oper), l.dropLast.toArray[j]? = some x → x.guard = none ∧ ∀ e ∈ x.after, e.on < j := by
    intro j x hx
    have h1 := List.all_eq_true.1 hops j (List.mem_range.2 (Array.getElem?_eq_some_iff.1 hx).1)
    rw [hx] at h1
    simp only [Bool.and_eq_true] at h1
    exact ⟨by simpa using h1.1, fun e he => by simpa using Array.all_eq_true'.1 h1.2 e he⟩
  have hll : l = l.dropLast ++ [o] := by
    have hne : l ≠ [] := by rintro rfl; simp at ho
    rw [List.getLast?_eq_some_getLast hne] at ho
    injection ho with ho
    rw [← ho]; exact (List.dropLast_concat_getLast hne).symm
  have hlen : (l.dropLast.zip fl).length = l.dropLast.toArray.size := by
    rw [List.length_zip, hfl]; simp
  have hH := held_of_mix (md := .any) (P := P) (S := S) hsel (fun k x hx => (hop k x hx).1) (l.dropLast.zip fl) 0 (Array.replicate l.dropLast.toArray.size false) a w.drew (fun j x hx => by
    rw [Nat.zero_add]
    rw [List.getElem?_zip_eq_some] at hx
    simpa using hx.1) (by rw [show (l.dropLast.zip fl).map (·.2) = fl from by
      rw [← List.unzip_snd, List.unzip_zip_right (by rw [hfl]; simp)]]; exact hmix) hS h
  rw [hlen] at hH
  have hL := lift_any (md := .any) (P := P) (Q := Q) (o := o) (fun k x hx => (hop k x hx).1) (fun j x hx => (hop j x hx).2) (by simpa using hog) (fun e he => by simpa using Array.all_eq_true'.1 hoa e he) (fun i hi => by
    have h1 := List.all_eq_true.1 hwt i (List.mem_range.2 hi)
    simp only [Bool.or_eq_true] at h1
    rcases h1 with h1 | h1
    · obtain ⟨e, he, h2⟩ := Array.any_eq_true'.1 h1
      simp only [Bool.and_eq_true, beq_iff_eq] at h2
      exact .inl ⟨e, he, h2.1, h2.2⟩
    · obtain ⟨j, _, h2⟩ := List.any_eq_true.1 h1
      simp only [Bool.and_eq_true, decide_eq_true_eq] at h2
      cases hx : l.dropLast.toArray[j]? with
      | none => rw [hx] at h2; cases h2.2
      | some x =>
        rw [hx] at h2
        obtain ⟨e, he, h3⟩ := Array.any_eq_true'.1 h2.2
        simp only [Bool.and_eq_true, beq_iff_eq] at h3
        exact .inr ⟨j, x, h2.1, hx, e, he, h3.1, h3.2⟩) (fun _ _ h => h) _ _ _ _ (by simp) (fun j x _ hj => by
    rw [Array.getD_eq_getD_getElem?, Array.getElem?_replicate] at hj
    split at hj <;> cases hj) (wpAny_of_held _ _ _ _ hH)
  refine wp_region_any hm ?_
  have e1 : l.toArray = l.dropLast.toArray.push o := by rw [List.push_toArray]; exact congrArg List.toArray hll
  rw [e1]
  have e2 : Array.replicate (l.dropLast.toArray.push o).size false = (Array.replicate l.dropLast.toArray.size false).push false := by
    rw [Array.size_push, ← Array.replicate_succ]
  rw [e2, Array.size_push]
  exact hL
theorem wpMix_free {o : Oper} {l : List (Oper × Bool)} {a : Act} {w : World} (v : Value) (hv : ∀ z, S z → (execOp a.eval o).run P z = .ok (.value v) z) (h : wpMix P S N l (a.put o.dst v) w) : wpMix P S N ((o, true) :: l) a w := ⟨v, hv, h⟩
theorem wpMix_turn {o : Oper} {l : List (Oper × Bool)} {a : Act} {w : World} (h : ∀ K : Act → World → Prop, (∀ a' w', S w' → wpMix P S N l a' w' → K a' w') → o.wp P a w K (NP N)) : wpMix P S N ((o, false) :: l) a w := h _ fun _ _ h1 h2 => ⟨h1, h2⟩
theorem wpMix_end {a : Act} {w : World} (h : N a w) : wpMix P S N [] a w := h
end
end Go.Proofs.Ytohpdpcjhmopbaa.Tz

/-! Layer 6 (tzif): append onto a row of the call's own, as a step of a region that draws its order (for 'go_region_law'). -/
namespace Go.Proofs.Ytohpdpcjhmopbaa.Tz
open Go.RowKit

theorem Own.drew {w : World} {base : Nat} {v : Value} {xs : List Int} (h : Own w base v xs) : Own w.drew base v xs := h
theorem Own.drewN {w : World} {base : Nat} {v : Value} {xs : List Int} (h : Own w base v xs) (n : Nat) : Own (w.drewN n) base v xs := h
set_option maxRecDepth 100000 in
theorem step_append_bytes {ops : Array Oper} {o : Oper} {a : Act} {w : World} {K : Act → World → Prop} {Q : Exit → Act → World → Prop} {E : Prop} (s x : Operand) (hgd : o.guard = none)
    (ho : o.op = .call { callee := .builtin .append, args := #[s, x], argTypes := #[33, 33] }) (base : Nat) (v : Value) (xs zs : List Int) (ad : Addr) (m c : Nat)
    (hs : a.eval s = v) (hx : a.eval x = .slice (some ad) m c) (hm : zs.length = m) (hown : Own w base v xs) (hz : ∀ j u, zs[j]? = some u → w.cell? (ad.add j) = some (by8 u)) (hlen : xs.length + m ≤ 10000000) (hbase : base ≤ w.heap.size)
    (h : ∀ v' w', Own w' base v' (xs ++ zs) → Grew w w' v v' → K (a.put o.dst v') w') : if Region.wanted o (yielded ops a.tmps) = true then Oper.wp Try.prog o a w K Q else E := by
  have hw : Region.wanted o (yielded ops a.tmps) = true := by simp [Region.wanted, hgd]
  rw [if_pos hw]
  obtain ⟨i, hi, hz0, hz1, hz2⟩ := info_parts u8_info
  subst hm
  obtain ⟨v', w', hr, h2, h3, _, h5⟩ := run_append_own_at (P := Try.prog) w base 33 o.type 5 i _ 1 1 Try.underlying33 hi hz0 hz1 hz2 rfl (by decide) v xs.length (xs.map by8) hown ad zs.length c (zs.map by8) (by simp) (by
    intro j u hu
    rw [List.getElem?_map] at hu
    cases hj : zs[j]? with
    | none => rw [hj] at hu; cases hu
    | some z => rw [hj] at hu; injection hu with hu; rw [← hu]; exact hz j z hj) (fun u hu => by obtain ⟨z, _, rfl⟩ := List.mem_map.1 hu; rfl) (by unfold maxLen; omega) (by omega) hbase
  unfold Oper.wp execOp
  simp only [ho, resolve, invoke, builtin, Sem.run_bind, Sem.run_pure, Result.andThen_ok, List.map_toArray, List.map_cons, List.map_nil, hs, hx, hr]
  exact h v' w' (by unfold Own; rw [List.map_append, List.length_append]; exact h2) ⟨h3, h5.imp id fun e => ⟨_, e, Nat.le_refl _⟩⟩
theorem step_append_text {ops : Array Oper} {o : Oper} {a : Act} {w : World} {K : Act → World → Prop} {Q : Exit → Act → World → Prop} {E : Prop} (s x : Operand) (hgd : o.guard = none)
    (ho : o.op = .call { callee := .builtin .append, args := #[s, x], argTypes := #[33, 9] }) (base : Nat) (v : Value) (xs : List Int) (t : ByteArray)
    (hs : a.eval s = v) (hx : a.eval x = .string t) (hown : Own w base v xs) (hlen : xs.length + t.size ≤ 10000000) (hbase : base ≤ w.heap.size)
    (h : ∀ v' w', Own w' base v' (xs ++ bytesOf t) → Grew w w' v v' → K (a.put o.dst v') w') : if Region.wanted o (yielded ops a.tmps) = true then Oper.wp Try.prog o a w K Q else E := by
  have hw : Region.wanted o (yielded ops a.tmps) = true := by simp [Region.wanted, hgd]
  rw [if_pos hw]
  obtain ⟨v', w', hr, h2, h3⟩ := run_append_own_text w o.type base v xs t hown hlen hbase
  unfold Oper.wp execOp
  simp only [ho, resolve, invoke, builtin, Sem.run_bind, Sem.run_pure, Result.andThen_ok, List.map_toArray, List.map_cons, List.map_nil, hs, hx, hr]
  exact h v' w' h2 h3
end Go.Proofs.Ytohpdpcjhmopbaa.Tz

/-! Layer 6 (tzif): a head put. -/
namespace Go.Proofs.Ytohpdpcjhmopbaa.Tz
open Go.RowKit

theorem Grew.ofDrew {w w' : World} {v v' : Value} (h : Grew w.drew w' v v') : Grew w w' v v' := ⟨⟨h.gr.os, h.gr.tape, h.gr.output, h.gr.size, h.gr.block⟩, h.at_⟩
structure Hd where
  version : Nat
  (uts stds leaps times types letters : Nat)
def Hd.counts (h : Hd) : List Nat := [h.uts, h.stds, h.leaps, h.times, h.types, h.letters]
def hdVal (h : Hd) : Value := .agg #[.int .u8 h.version, .int .i64 h.uts, .int .i64 h.stds, .int .i64 h.leaps, .int .i64 h.times, .int .i64 h.types, .int .i64 h.letters]
def magicB : List Int := [84, 90, 105, 102]
def headB (h : Hd) : List Int := magicB ++ ([(h.version : Int)] ++ (zerosB 15 ++ h.counts.flatMap (fun n => digs n 4)))
set_option maxRecDepth 100000 in
theorem index6 (h : Hd) (k c : Nat) (hc : h.counts[k]? = some c) (w : World) : (Instr.index 86 (.agg #[.int .i64 h.uts, .int .i64 h.stds, .int .i64 h.leaps, .int .i64 h.times, .int .i64 h.types, .int .i64 h.letters]) (.int .i64 k)).run Try.prog w = .ok (.int .i64 c) w := by
  match k, hc with
  | 0, hc => have e : h.uts = c := by simpa [Hd.counts] using hc
             subst e; show Sem.run _ _ _ = Result.ok _ _; first | kernel_rfl | rfl
  | 1, hc => have e : h.stds = c := by simpa [Hd.counts] using hc
             subst e; show Sem.run _ _ _ = Result.ok _ _; first | kernel_rfl | rfl
  | 2, hc => have e : h.leaps = c := by simpa [Hd.counts] using hc
             subst e; show Sem.run _ _ _ = Result.ok _ _; first | kernel_rfl | rfl
  | 3, hc => have e : h.times = c := by simpa [Hd.counts] using hc
             subst e; show Sem.run _ _ _ = Result.ok _ _; first | kernel_rfl | rfl
  | 4, hc => have e : h.types = c := by simpa [Hd.counts] using hc
             subst e; show Sem.run _ _ _ = Result.ok _ _; first | kernel_rfl | rfl
  | 5, hc => have e : h.letters = c := by simpa [Hd.counts] using hc
             subst e; show Sem.run _ _ _ = Result.ok _ _; first | kernel_rfl | rfl
  | k + 6, hc => simp [Hd.counts] at hc
set_option maxRecDepth 100000 in
set_option maxHeartbeats 4000000 in
theorem headPut_any (h : Hd) (v : Value) (xs : List Int) (base : Nat) (w : World) (hown : Own w base v xs) (hx : xs.length ≤ 800000) (hb : base ≤ w.heap.size) (hc : ∀ n ∈ h.counts, n ≤ 1000000) :
    Calls Try.prog 22 #[hdVal h, v] w fun e w' => ∃ v', e = .returned v' ∧ Own w' base v' (xs ++ headB h) ∧ Grew w w' v v' := by
  have HO0 := Lib.hid (hown.alloc (.cells #[.int .u8 h.version, .int .i64 h.uts, .int .i64 h.stds, .int .i64 h.leaps, .int .i64 h.times, .int .i64 h.types, .int .i64 h.letters] 60))
  have HNE : Hid (∀ kk, v.ownBlock = some kk → kk < w.heap.size) := Lib.hid fun kk hkk => (hown.lt kk hkk).2
  have HC := Lib.hid hc
  clear hown hc
  unfold hdVal
  have z0 := World.cell?_alloc_mark w #[.int .u8 h.version, .int .i64 h.uts, .int .i64 h.stds, .int .i64 h.leaps, .int .i64 h.times, .int .i64 h.types, .int .i64 h.letters] 60 (0, 0) 0
  simp only [List.getElem?_toArray, List.getElem?_cons_zero] at z0
  go_enter Try.func22, Try.ntmps22
  go_wp2_with fail
  obtain ⟨W, hW⟩ : ∃ W, w.alloc (.cells #[.int .u8 h.version, .int .i64 h.uts, .int .i64 h.stds, .int .i64 h.leaps, .int .i64 h.times, .int .i64 h.types, .int .i64 h.letters] 60) = W := ⟨_, rfl⟩
  have hsz : W.heap.size = w.heap.size + 1 := by rw [← hW]; simp
  rw [hW] at HO0 z0 ⊢
  have HSZ := Lib.hid hsz
  have HZ := Lib.hid z0
  have HZA : Hid (∀ o, (W.drew.alloc o).cell? ⟨w.heap.size, 0, none⟩ = some (.int .u8 h.version)) := Lib.hid fun o => (((Below.refl W.heap.size W).drew.alloc (Nat.le_refl _) o).cell (p := ⟨w.heap.size, 0, none⟩) (by show w.heap.size < W.heap.size; omega)).trans HZ.out
  have HZ1 : Hid (W.cell? ⟨w.heap.size, 1, none⟩ = some (.int .i64 h.uts)) := Lib.hid (by rw [← hW]; exact World.cell?_alloc_mark w #[.int .u8 h.version, .int .i64 h.uts, .int .i64 h.stds, .int .i64 h.leaps, .int .i64 h.times, .int .i64 h.types, .int .i64 h.letters] 60 (0, 0) 1)
  have HZ2 : Hid (W.cell? ⟨w.heap.size, 2, none⟩ = some (.int .i64 h.stds)) := Lib.hid (by rw [← hW]; exact World.cell?_alloc_mark w #[.int .u8 h.version, .int .i64 h.uts, .int .i64 h.stds, .int .i64 h.leaps, .int .i64 h.times, .int .i64 h.types, .int .i64 h.letters] 60 (0, 0) 2)
  have HZ3 : Hid (W.cell? ⟨w.heap.size, 3, none⟩ = some (.int .i64 h.leaps)) := Lib.hid (by rw [← hW]; exact World.cell?_alloc_mark w #[.int .u8 h.version, .int .i64 h.uts, .int .i64 h.stds, .int .i64 h.leaps, .int .i64 h.times, .int .i64 h.types, .int .i64 h.letters] 60 (0, 0) 3)
  have HZ4 : Hid (W.cell? ⟨w.heap.size, 4, none⟩ = some (.int .i64 h.times)) := Lib.hid (by rw [← hW]; exact World.cell?_alloc_mark w #[.int .u8 h.version, .int .i64 h.uts, .int .i64 h.stds, .int .i64 h.leaps, .int .i64 h.times, .int .i64 h.types, .int .i64 h.letters] 60 (0, 0) 4)
  have HZ5 : Hid (W.cell? ⟨w.heap.size, 5, none⟩ = some (.int .i64 h.types)) := Lib.hid (by rw [← hW]; exact World.cell?_alloc_mark w #[.int .u8 h.version, .int .i64 h.uts, .int .i64 h.stds, .int .i64 h.leaps, .int .i64 h.times, .int .i64 h.types, .int .i64 h.letters] 60 (0, 0) 5)
  have HZ6 : Hid (W.cell? ⟨w.heap.size, 6, none⟩ = some (.int .i64 h.letters)) := Lib.hid (by rw [← hW]; exact World.cell?_alloc_mark w #[.int .u8 h.version, .int .i64 h.uts, .int .i64 h.stds, .int .i64 h.leaps, .int .i64 h.times, .int .i64 h.types, .int .i64 h.letters] 60 (0, 0) 6)
  clear hsz
  go_cut [1] (fun u wx => Own wx base u ((xs ++ magicB) ++ [(h.version : Int)]) ∧ Grew W wx v u)
  case first =>
    go_region_law (first
      | (refine step_append_text (.tmp 7) (.const (.string ⟨#[84, 90, 105, 102]⟩)) rfl rfl base _ xs ⟨#[84, 90, 105, 102]⟩ rfl rfl (by first | exact HO0.out | exact HO0.out.drew | exact HO0.out.drew.alloc _ | exact HO0.out.alloc _) (by show _ + 4 ≤ _; omega) (by have := HSZ.out; simp; omega) ?_; intro v1 w1 hO hG; have HO1 := Lib.hid hO; have HG1 := Lib.hid hG; have z1 := hG.cell w.heap.size 0 (by have := HSZ.out; simp; omega) (.inr fun e => by have := HNE.out _ e; omega) (by first | exact HZ.out | exact HZA.out _); have y1 := fun (hs : W.heap.size < _) (hc : _ = some (Value.int .u8 h.version)) => hG.cell W.heap.size 0 hs (.inr fun e => by have := HNE.out _ e; have := HSZ.out; omega) hc; clear hO hG)
      | (refine step_append_bytes (.tmp 8) (.tmp 11) rfl rfl base _ (xs ++ magicB) [(h.version : Int)] _ 1 1 rfl rfl rfl (by first | exact HO1.out | exact HO1.out.alloc _) (one_cell (by first | exact new_cell _ _ rfl _ _ | exact y1 (by simp) (by simp))) (by show (xs ++ magicB).length + 1 ≤ _; rw [List.length_append]; show _ + 4 + 1 ≤ _; omega) (by have := HSZ.out; have := HG1.out.gr.size; simp at *; omega) ?_; intro v2 w2 hO hG; have HO2 := Lib.hid hO; have HG2 := Lib.hid hG; clear hO hG))
    all_goals (go_wp2_with fail)
    all_goals go_meet
    all_goals exact ⟨HO2.out, by first | exact HG1.out.ofDrew.trans HG2.out.ahead | exact HG1.out.ofDrew.ahead.trans HG2.out | exact HG1.out.ofDrew.ahead.ofDrew.trans HG2.out | exact HG1.out.ofDrew.trans HG2.out | exact HG1.out.ahead.ofDrew.trans HG2.out | exact HG1.out.ahead.ofDrew.trans HG2.out.ahead⟩
  case rest =>
    obtain ⟨hO, hG⟩ := hcut
    have HO := Lib.hid hO; have HG := Lib.hid hG
    clear hO hG
    go_wp2_with (first
      | (at_builtin; refine plain_append_zeros (.tmp 13) (.const (.int .i64 15)) 3 Try.underlying3 rfl rfl base _ ((xs ++ magicB) ++ [(h.version : Int)]) 15 (by omega) rfl rfl HO.out (by rw [List.length_append, List.length_append]; show _ + 4 + 1 + 15 ≤ _; omega) (by have := HSZ.out; have := HG.out.gr.size; omega) ?_; intro v3 w3 hO3 hG3; have HO3 := Lib.hid hO3; have HG3 := Lib.hid (HG.out.trans hG3); clear hO3 hG3; have z1 := HG3.out.cell w.heap.size 1 (by have := HSZ.out; omega) (.inr fun e => by have := HNE.out _ e; omega) HZ1.out; have z2 := HG3.out.cell w.heap.size 2 (by have := HSZ.out; omega) (.inr fun e => by have := HNE.out _ e; omega) HZ2.out; have z3 := HG3.out.cell w.heap.size 3 (by have := HSZ.out; omega) (.inr fun e => by have := HNE.out _ e; omega) HZ3.out; have z4 := HG3.out.cell w.heap.size 4 (by have := HSZ.out; omega) (.inr fun e => by have := HNE.out _ e; omega) HZ4.out; have z5 := HG3.out.cell w.heap.size 5 (by have := HSZ.out; omega) (.inr fun e => by have := HNE.out _ e; omega) HZ5.out; have z6 := HG3.out.cell w.heap.size 6 (by have := HSZ.out; omega) (.inr fun e => by have := HNE.out _ e; omega) HZ6.out)
      | fail)
    go_loopw [1, 28] (fun u i wr => ∃ (k : Nat) (acc : List Int), k ≤ 6 ∧ i = .int .i64 k ∧ acc = (((xs ++ magicB) ++ [(h.version : Int)]) ++ zerosB 15) ++ (h.counts.take k).flatMap (fun n => digs n 4) ∧ acc.length ≤ xs.length + 20 + 4 * k ∧ Own wr base u acc ∧ Grew W wr v u) (fun _ i _ => 6 - (intOf i).toNat)
    case atStart => exact ⟨0, _, by omega, rfl, by simp, by rw [List.length_append, List.length_append, List.length_append]; show _ + 4 + 1 + 15 ≤ _; omega, HO3.out, HG3.out⟩
    case round =>
      obtain ⟨k, acc, hk, rfl, hacc, hal, ho, hg⟩ := hrel
      have HA := Lib.hid hacc; have HAL := Lib.hid hal; have HO4 := Lib.hid ho; have HG4 := Lib.hid hg
      clear hacc hal ho hg
      by_cases hlt : k < 6
      · obtain ⟨c, hcc⟩ : ∃ c, h.counts[k]? = some c := ⟨_, List.getElem?_eq_getElem (show k < h.counts.length from hlt)⟩
        have hcb := HC.out c (List.mem_of_getElem? hcc)
        have hc0 : (0 : Int) ≤ (c : Int) := by omega
        have hc1 : (c : Int) ≤ 1000000 := by omega
        have HP : Hid (∀ V, V = wr → Calls Try.prog 24 #[_, .int .i64 4, .int .u64 c] V fun e w' => ∃ v', e = .returned v' ∧ Own w' base v' (acc ++ digs c 4) ∧ Grew wr w' _ v') := Lib.hid fun V hV => by
          subst hV
          exact putNumber_any _ acc 4 c base _ HO4.out (by have := HAL.out; omega) (by omega) (by have := HSZ.out; have := HG4.out.gr.size; omega)
        have HCC := Lib.hid hcc
        clear hcc
        have hk0 : (0 : Int) ≤ (k : Int) := by omega
        have hk6 : (k : Int) < 6 := by omega
        have hix := index6 h k c HCC.out wr
        go_wp2_with (first
          | (go_at_call 24; refine (HP.out _ rfl).mono ?_; clear HP; rintro e w5 ⟨v5, rfl, hO5, hG5⟩; have HO5 := Lib.hid hO5; have HG5 := Lib.hid (HG4.out.trans hG5); clear hO5 hG5)
          | fail)
        exact ⟨⟨k + 1, _, by omega, by go_num, by rw [HA.out, take_one HCC.out, List.flatMap_append, List.append_assoc]; simp, by have := HAL.out; rw [List.length_append, digs_len]; omega, HO5.out, HG5.out⟩, by simp [intOf]; omega⟩
      · obtain rfl : k = 6 := by omega
        have hfin : acc = xs ++ headB h := by
          rw [HA.out]
          unfold headB
          simp [Hd.counts]
        have HF := Lib.hid hfin
        clear hfin
        go_wp2_with fail
        go_ret
        exact ⟨_, rfl, HF.out ▸ HO4.out, by have := HG4.out; rw [← hW] at this; exact this.ahead⟩
end Go.Proofs.Ytohpdpcjhmopbaa.Tz

/-! Layer 6 (tzif): how long a block is, by its head. -/
namespace Go.Proofs.Ytohpdpcjhmopbaa.Tz
open Go.RowKit

def restN (h : Hd) (wd : Nat) : Nat := h.leaps * (wd + 4) + h.stds + h.uts
def longN (h : Hd) (wd : Nat) : Nat := h.times * (wd + 1) + h.types * 6 + h.letters + restN h wd
structure HdOk (h : Hd) : Prop where
  uts : h.uts ≤ 4294967295
  stds : h.stds ≤ 4294967295
  leaps : h.leaps ≤ 4294967295
  times : h.times ≤ 4294967295
  types : h.types ≤ 4294967295
  letters : h.letters ≤ 4294967295
/-- A walk from any world of which the same is known. -/
theorem wp_world {P : Program} {c : Code} {Q : Exit → Act → World → Prop} {a : Act} {W : World} (R : World → Prop) (h : R W) (k : ∀ W, R W → Code.wp P c Q a W) : Code.wp P c Q a W := k W h
theorem below_class {W w' : World} (h : ∃ p : Regrown, w' = Sort.grow (redrawn W p.d) p.os) : Below W.heap.size W w' := by
  obtain ⟨p, rfl⟩ := h; exact below_regrown W p.d p.os
set_option maxRecDepth 100000 in
set_option maxHeartbeats 1000000 in
theorem restLong_any (h : Hd) (wd : Nat) (hw : wd = 4 ∨ wd = 8) (ho : HdOk h) (w : World) : Calls Try.prog 41 #[hdVal h, .int .i64 wd] w fun e w' => e = .returned (.int .i64 (restN h wd)) ∧ Below w.heap.size w w' := by
  obtain ⟨o1, o2, o3, o4, o5, o6⟩ := ho
  obtain ⟨version, uts, stds, leaps, times, types, letters⟩ := h
  simp only at o1 o2 o3 o4 o5 o6
  unfold hdVal restN
  simp only
  have b1 : (0 : Int) ≤ (uts : Int) := by omega
  have b2 : (0 : Int) ≤ (stds : Int) := by omega
  have b3 : (0 : Int) ≤ (leaps : Int) := by omega
  have c1 : (uts : Int) ≤ 4294967295 := by omega
  have c2 : (stds : Int) ≤ 4294967295 := by omega
  have c3 : (leaps : Int) ≤ 4294967295 := by omega
  have HB : Hid (Below w.heap.size w (w.alloc (.cells #[.int .u8 version, .int .i64 uts, .int .i64 stds, .int .i64 leaps, .int .i64 times, .int .i64 types, .int .i64 letters] 60))) := Lib.hid ((Below.refl _ _).alloc (Nat.le_refl _) _)
  rcases hw with rfl | rfl
  all_goals
    go_enter Try.func41, Try.ntmps41
    go_wp2_with fail
    go_ret
    refine ⟨?_, HB.out⟩
    congr 2 <;> omega
set_option maxRecDepth 100000 in
set_option maxHeartbeats 1000000 in
theorem blockLong_any (h : Hd) (wd : Nat) (hw : wd = 4 ∨ wd = 8) (ho : HdOk h) (w : World) : Calls Try.prog 23 #[hdVal h, .int .i64 wd] w fun e w' => e = .returned (.int .i64 (longN h wd)) ∧ Below w.heap.size w w' := by
  have HR : Hid (∀ V, Calls Try.prog 41 #[hdVal h, .int .i64 wd] V fun e w' => e = .returned (.int .i64 (restN h wd)) ∧ Below V.heap.size V w') := Lib.hid fun V => restLong_any h wd hw ho V
  have hr : restN h wd ≤ 70000000000 := by
    obtain ⟨o1, o2, o3, o4, o5, o6⟩ := ho
    unfold restN
    rcases hw with rfl | rfl <;> omega
  obtain ⟨r, hre⟩ : ∃ r, restN h wd = r := ⟨_, rfl⟩
  unfold longN
  rw [hre] at HR hr ⊢
  clear hre
  obtain ⟨o1, o2, o3, o4, o5, o6⟩ := ho
  obtain ⟨version, uts, stds, leaps, times, types, letters⟩ := h
  simp only at o1 o2 o3 o4 o5 o6
  unfold hdVal at HR ⊢
  simp only at HR ⊢
  have b4 : (0 : Int) ≤ (times : Int) := by omega
  have b5 : (0 : Int) ≤ (types : Int) := by omega
  have b6 : (0 : Int) ≤ (letters : Int) := by omega
  have b7 : (0 : Int) ≤ (r : Int) := by omega
  have c4 : (times : Int) ≤ 4294967295 := by omega
  have c5 : (types : Int) ≤ 4294967295 := by omega
  have c6 : (letters : Int) ≤ 4294967295 := by omega
  have c7 : (r : Int) ≤ 70000000000 := by omega
  have HB : Hid (Below w.heap.size w (w.alloc (.cells #[.int .u8 version, .int .i64 uts, .int .i64 stds, .int .i64 leaps, .int .i64 times, .int .i64 types, .int .i64 letters] 60))) := Lib.hid ((Below.refl _ _).alloc (Nat.le_refl _) _)
  have hq : ∀ i, (w.alloc (.cells #[.int .u8 version, .int .i64 uts, .int .i64 stds, .int .i64 leaps, .int .i64 times, .int .i64 types, .int .i64 letters] 60)).cell? ⟨w.heap.size, i, none⟩ = (#[.int .u8 version, .int .i64 uts, .int .i64 stds, .int .i64 leaps, .int .i64 times, .int .i64 types, .int .i64 letters] : Array Value)[i]? := fun i => World.cell?_alloc_mark w _ 60 (0, 0) i
  have q0 := hq 0; have q1 := hq 1; have q2 := hq 2; have q3 := hq 3; have q4 := hq 4; have q5 := hq 5; have q6 := hq 6
  simp only [List.getElem?_toArray, List.getElem?_cons_zero, List.getElem?_cons_succ] at q0 q1 q2 q3 q4 q5 q6
  have HQ0 := Lib.hid q0; have HQ1 := Lib.hid q1; have HQ2 := Lib.hid q2; have HQ3 := Lib.hid q3; have HQ4 := Lib.hid q4; have HQ5 := Lib.hid q5; have HQ6 := Lib.hid q6
  have HL : Hid (w.heap.size < (w.alloc (.cells #[.int .u8 version, .int .i64 uts, .int .i64 stds, .int .i64 leaps, .int .i64 times, .int .i64 types, .int .i64 letters] 60)).heap.size) := Lib.hid (by simp)
  clear hq q0 q1 q2 q3 q4 q5 q6
  rcases hw with rfl | rfl
  all_goals
    go_enter Try.func23, Try.ntmps23
    go_wp2_with fail
    refine wp_world (R := fun V => Below w.heap.size w V ∧ w.heap.size < V.heap.size ∧ V.cell? ⟨w.heap.size, 0, none⟩ = some (.int .u8 version) ∧ V.cell? ⟨w.heap.size, 1, none⟩ = some (.int .i64 uts) ∧ V.cell? ⟨w.heap.size, 2, none⟩ = some (.int .i64 stds) ∧ V.cell? ⟨w.heap.size, 3, none⟩ = some (.int .i64 leaps) ∧ V.cell? ⟨w.heap.size, 4, none⟩ = some (.int .i64 times) ∧ V.cell? ⟨w.heap.size, 5, none⟩ = some (.int .i64 types) ∧ V.cell? ⟨w.heap.size, 6, none⟩ = some (.int .i64 letters)) ⟨HB.out, HL.out, HQ0.out, HQ1.out, HQ2.out, HQ3.out, HQ4.out, HQ5.out, HQ6.out⟩ ?_
    clear HB HL HQ0 HQ1 HQ2 HQ3 HQ4 HQ5 HQ6
    rintro V ⟨hb, hl, h0, h1, h2, h3, h4, h5, h6⟩
    have HBV := Lib.hid hb
    have key : ∀ (i : Nat) (u : Value), V.cell? ⟨w.heap.size, i, none⟩ = some u → ∀ d os, (Sort.grow (redrawn V d) os).cell? ⟨w.heap.size, i, none⟩ = some u := fun i u hu d os => ((below_regrown V d os).cell (p := ⟨w.heap.size, i, none⟩) hl).trans hu
    have p0 := key _ _ h0; have p1 := key _ _ h1; have p2 := key _ _ h2; have p3 := key _ _ h3; have p4 := key _ _ h4; have p5 := key _ _ h5; have p6 := key _ _ h6
    clear key hb hl h0 h1 h2 h3 h4 h5 h6
    have s0 : IntKind.i64.wrap ((times : Int) * 5) = (times : Int) * 5 := IntWalk.i64_in _ (by omega)
    have s9 : IntKind.i64.wrap ((times : Int) * 9) = (times : Int) * 9 := IntWalk.i64_in _ (by omega)
    have s1 : IntKind.i64.wrap ((types : Int) * 6) = (types : Int) * 6 := IntWalk.i64_in _ (by omega)
    have s2 : IntKind.i64.wrap ((times : Int) * 5 + (types : Int) * 6) = (times : Int) * 5 + (types : Int) * 6 := IntWalk.i64_in _ (by omega)
    have s3 : IntKind.i64.wrap ((times : Int) * 9 + (types : Int) * 6) = (times : Int) * 9 + (types : Int) * 6 := IntWalk.i64_in _ (by omega)
    have s4 : IntKind.i64.wrap ((times : Int) * 5 + (types : Int) * 6 + (letters : Int)) = (times : Int) * 5 + (types : Int) * 6 + (letters : Int) := IntWalk.i64_in _ (by omega)
    have s5 : IntKind.i64.wrap ((times : Int) * 9 + (types : Int) * 6 + (letters : Int)) = (times : Int) * 9 + (types : Int) * 6 + (letters : Int) := IntWalk.i64_in _ (by omega)
    have s6 : IntKind.i64.wrap ((times : Int) * 5 + (types : Int) * 6 + (letters : Int) + (r : Int)) = (times : Int) * 5 + (types : Int) * 6 + (letters : Int) + (r : Int) := IntWalk.i64_in _ (by omega)
    have s7 : IntKind.i64.wrap ((times : Int) * 9 + (types : Int) * 6 + (letters : Int) + (r : Int)) = (times : Int) * 9 + (types : Int) * 6 + (letters : Int) + (r : Int) := IntWalk.i64_in _ (by omega)
    clear b4 b5 b6 b7 c4 c5 c6 c7
    refine wp_region_quiet_below (by kernel_rfl) (by kernel_rfl) ?_
    repeat (first | go_big_quiet_step ((go_at_call 41; with_reducible exact Calls.regrown_of (HR.out _))) | quiet_step ((go_at_call 41; with_reducible exact Calls.regrown_of (HR.out _))))
    refine wpQuiet_nil ?_
    intro w8 hV
    have HB8 := Lib.hid (below_class hV)
    clear hV p0 p1 p2 p3 p4 p5 p6
    go_wp2_with fail
    go_ret
    refine ⟨?_, HBV.out.trans (HB8.out.mono HBV.out.size)⟩
    congr 2 <;> omega
end Go.Proofs.Ytohpdpcjhmopbaa.Tz
