/-
  What the laws' walks share: two arrays that are the same, an array read where a guard stands, a byte put behind a slice of the call's own.
-/
import Derived.Test.YtgdpgpmkokjdjaaDoorSpRefOfW
import Derived.Test.YtgdpgpmkokjdjaaDoorSpRef
import Derived.ChangeKeysEq
import Derived.BigFrame
namespace Go.Proofs.YtgdpgpmkokjdjaaDoor.Sp
open Go.RowKit

theorem u8_plain : Tryd.prog.plainKey 5 = true := by kernel_rfl
theorem u8_cells : Tryd.prog.cellsOf 5 = 1 := by kernel_rfl
theorem u8_info : (Tryd.prog.info? 5).map (fun i => (i.zero, i.size, i.bytes)) = some (some (.int .u8 0), 1, 1) := by kernel_rfl
theorem items_same (d : Nat) (w : World) (k : List Int) : ∀ is : List Nat, (∀ i ∈ is, i < k.length) → (Op.eqItems (d + 1) 5 1 (k.map by8).toArray (k.map by8).toArray is).run Tryd.prog w = .ok true w
  | [], _ => by simp [Op.eqItems]
  | i :: is, h => by
    have hi := h i (by simp)
    have h1 : (k.map by8).toArray[i * 1]? = some (by8 k[i]) := by simp [hi]
    simp only [Op.eqItems, Sem.run_bind, run_part_plain w u8_plain h1, Result.andThen_ok, run_equalIn_int w d 5 .u8 .u8 k[i] k[i] Tryd.underlying5]
    simpa using items_same d w k is (fun j hj => h j (by simp [hj]))
theorem same_arr (t : TypeId) (hu : Tryd.prog.underlying t = some (.array 16 5)) (k : List Int) (hk : k.length = 16) (d : Nat) (w : World) : (Op.equalIn (d + 2) t (kval k) (kval k)).run Tryd.prog w = .ok true w := by
  obtain ⟨i, hi, _⟩ := info_parts u8_info
  unfold kval
  rw [run_equalIn_array w (d + 1) _ _ hu hi, u8_cells]
  exact items_same d w k _ (fun j hj => by rw [hk]; exact List.mem_range.1 hj)
theorem eql_arr (t : TypeId) (hu : Tryd.prog.underlying t = some (.array 16 5)) (k : List Int) (hk : k.length = 16) (w : World) : (binOp .eql t (kval k) (kval k)).run Tryd.prog w = .ok (.bool true) w := by
  have h : (Op.equalIn 10000 t (kval k) (kval k)).run Tryd.prog w = .ok true w := same_arr t hu k hk 9998 w
  unfold kval at h ⊢
  simp only [binOp]
  simp [Op.equal, Op.maxDepth, h]
theorem neq_arr (t : TypeId) (hu : Tryd.prog.underlying t = some (.array 16 5)) (k : List Int) (hk : k.length = 16) (w : World) : (binOp .neq t (kval k) (kval k)).run Tryd.prog w = .ok (.bool false) w := by
  have h : (Op.equalIn 10000 t (kval k) (kval k)).run Tryd.prog w = .ok true w := same_arr t hu k hk 9998 w
  unfold kval at h ⊢
  simp only [binOp]
  simp [Op.equal, Op.maxDepth, h]

theorem want_load_arr {P : Program} {ops : Array Oper} {rest : List Oper} {o : Oper} {a : Act} {w : World} {Q : Exit → Act → World → Prop} (ty t e : TypeId) (n : Nat) (x : Operand) (g : Nat) (cs : List Value) (hw : Region.wanted o (yielded ops a.tmps) = true) (ho : o.op = .load ty x) (hx : a.eval x = .pointer (some ⟨g, 0, none⟩))
    (hu : P.underlying ty = some (.array n e)) (hi : (P.info? ty).map (·.size) = some cs.length) (hg : Hold w g t cs) (h : wpList P ops Q rest (a.put o.dst (.agg cs.toArray)) w) : wpList P ops Q (o :: rest) a w :=
  BigFrame.wpList_want hw fun _ hK => wp_load_row ty x ho g hx t cs.toArray (0, 0) _ hg hu rfl (by simpa using hi) (hK _ _ h)

/-- A slice of the call's own, that holds these bytes. -/
def Own (w : World) (base : Nat) (v : Value) (xs : List Int) : Prop := w.ownsRow base 5 1 v xs.length (xs.map by8)
theorem Own.nil (w : World) (base : Nat) : Own w base (.slice none 0 0) [] := World.ownsRow_nil w base _ 1
section
variable {w w' : World} {base : Nat} {v : Value} {xs : List Int}
theorem Own.keep (h : Own w base v xs) (hb : Below w.heap.size w w') : Own w' base v xs :=
  World.ownsRow.kept h (row := none) ⟨hb.os, hb.tape, hb.output, hb.size, fun k hk _ => hb.block k hk⟩ (by cases hv : v.ownBlock <;> simp)
theorem Own.alloc (h : Own w base v xs) (o : Obj) : Own (w.alloc o) base v xs := World.ownsRow.alloc h o
theorem Own.drewN (h : Own w base v xs) (n : Nat) : Own (w.drewN n) base v xs := h.keep (bl_drewN (Below.refl _ _) n)
theorem Own.far (h : Own w base v xs) {p : Addr} (hp : p.block < base) (u : Value) : Own (w.setCell p u) base v xs := ownsRow_setCell_below h hp u
theorem Own.read (h : Own w base v xs) (hx : xs.length ≤ 100000) : ∃ A c, v = .slice A xs.length c ∧ xs.length ≤ c ∧ Row w w.heap.size A xs.length xs := by
  rcases h.2 with ⟨rfl, h0⟩ | ⟨g, cap, cur, rfl, hbg, hh, hnc, _, hsz, htk⟩
  · obtain rfl : xs = [] := List.eq_nil_of_length_eq_zero h0
    exact ⟨none, 0, rfl, Nat.le_refl _, Row.nil⟩
  · refine ⟨_, cap, rfl, hnc, rfl, fun j z hz => ⟨_, rfl, ?_, ?_⟩⟩
    · rcases Nat.lt_or_ge g w.heap.size with hl | hl
      · exact hl
      · rw [Array.getElem?_eq_none hl] at hh; cases hh
    · have h1 : (xs.map by8)[j]? = some (by8 z) := by rw [List.getElem?_map, hz]; rfl
      exact World.ownsRow.cells h (g := g) rfl j _ h1
theorem Own.lt (h : Own w base v xs) (k : Nat) (hk : v.ownBlock = some k) : base ≤ k ∧ k < w.heap.size := World.ownsRow.lt h k hk
end
theorem plain_append_byte {ops : Array Oper} {rest : List Oper} {o : Oper} {a : Act} {w : World} {Q : Exit → Act → World → Prop} (s x : Operand) (hgd : o.guard = none)
    (ho : o.op = .call { callee := .builtin .append, args := #[s, x], argTypes := #[24, 24] }) (base : Nat) (v : Value) (xs : List Int) (z : Int) (ad : Addr) (c : Nat)
    (hs : a.eval s = v) (hx : a.eval x = .slice (some ad) 1 c) (hown : Own w base v xs) (hz : w.cell? ad = some (by8 z)) (hlen : xs.length ≤ 100000) (hbase : base ≤ w.heap.size)
    (h : ∀ v' w', Own w' base v' (xs ++ [z]) → w.grownBy w' v.ownBlock → wpList Tryd.prog ops Q rest (a.put o.dst v') w') : wpList Tryd.prog ops Q (o :: rest) a w := by
  obtain ⟨i, hi, hz0, hz1, hz2⟩ := info_parts u8_info
  refine wpList_append_own w hgd s x 24 ho base 5 i _ 1 1 Tryd.underlying24 hi hz0 hz1 hz2 rfl (by decide) v xs.length (xs.map by8) hs hown ad 1 c [by8 z] hx rfl ?_ (fun u hu => by rw [List.mem_singleton.1 hu]; rfl) (by unfold maxLen; omega) (by omega) hbase ?_
  · intro j u hu
    match j, hu with
    | 0, hu => simp at hu; rw [← hu]; simpa [Addr.add] using hz
  · intro v' w' hown' hgr _
    exact h v' w' (by unfold Own; rw [List.map_append, List.length_append]; exact hown') hgr
theorem own_below {w w' : World} {base B : Nat} {v : Value} {xs : List Int} (h : Own w base v xs) (hg : w.grownBy w' v.ownBlock) (hB : B ≤ base) (hS : B ≤ w.heap.size) : Below B w w' :=
  ⟨hg.os, hg.tape, hg.output, hg.size, fun k hk => hg.block k (by omega) (fun e => by have := (h.lt k e.symm).1; omega)⟩
end Go.Proofs.YtgdpgpmkokjdjaaDoor.Sp
