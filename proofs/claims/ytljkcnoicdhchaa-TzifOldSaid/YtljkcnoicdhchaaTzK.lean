/-
  Layer 6 (tzif): 'append(b, make([]byte, k)...)' onto a row of the call's own.
-/
import Derived.Test.YtljkcnoicdhchaaTzJ
import Derived.Lib.AppendZerosOnto
namespace Go.Proofs.Ytljkcnoicdhchaa.Tz
open Go.RowKit

def zerosB (k : Nat) : List Int := List.replicate k 0
theorem zeroCells_by8 (k : Nat) : Builtin.zeroCells (Value.int .u8 0).cells k = ((zerosB k).map by8).toArray := by
  apply Array.ext'
  simp [Builtin.zeroCells, zerosB, by8, Value.cells]
  exact List.eq_replicate_iff.2 ⟨by simp, fun b hb => by
    obtain ⟨i, _, rfl⟩ := List.mem_map.1 hb
    rw [Nat.mod_one]; rfl⟩
theorem run_append_own_zeros (w : World) (tn ty : TypeId) (hn : Try.prog.underlying tn = some (.int .i64)) (base : Nat) (v : Value) (xs : List Int) (k : Nat) (h0 : 0 < k) (hown : Own w base v xs) (hlen : xs.length + k ≤ 10000000) (hbase : base ≤ w.heap.size) :
    ∃ v' w', (Builtin.append_ #[33, tn] ty #[v, .int .i64 k]).run Try.prog w = .ok v' w' ∧ Own w' base v' (xs ++ zerosB k) ∧ Grew w w' v v' := by
  obtain ⟨i, hi, hz0, hz1, hz2⟩ := info_parts u8_info
  have ht := Try.underlying33
  have hzl : (zerosB k).length = k := by unfold zerosB; simp
  have grown : ∀ (old : Nat), old < xs.length + k → Own (w.drew.alloc (.cells ((xs.map by8).toArray ++ Builtin.zeroCells (Value.int .u8 0).cells k ++ Builtin.zeroCells (Value.int .u8 0).cells (grownCap w (xs.length + k) old 5 - (xs.length + k))) 5)) base
        (.slice (some ⟨w.heap.size, 0, none⟩) (xs.length + k) (grownCap w (xs.length + k) old 5)) (xs ++ zerosB k) ∧
      w.grownBy (w.drew.alloc (.cells ((xs.map by8).toArray ++ Builtin.zeroCells (Value.int .u8 0).cells k ++ Builtin.zeroCells (Value.int .u8 0).cells (grownCap w (xs.length + k) old 5 - (xs.length + k))) 5)) v.ownBlock := by
    intro old ho
    have hge := grownCap_ge w (xs.length + k) old 5
    have hcm : grownCap w (xs.length + k) old 5 ≤ maxLen := grownCap_le_maxLen w (xs.length + k) old 5 (by unfold maxLen; omega)
    rw [zeroCells_by8, zeroCells_by8]
    refine ⟨⟨by simp, .inr ⟨w.heap.size, _, _, by rw [List.length_append, hzl], hbase, heap_alloc_new w.drew _, by rw [List.length_append, hzl]; exact hge, hcm, ?_, ?_⟩⟩, ⟨rfl, rfl, rfl, by simp, fun j hj _ => heap_alloc_old w.drew _ hj⟩⟩
    · simp [zerosB]; omega
    · rw [Nat.mul_one, Array.toList_append, Array.toList_append, ← List.map_append, show (xs ++ zerosB k).length = ((xs ++ zerosB k).map by8).length by simp]
      exact List.take_left
  rcases hown.2 with ⟨rfl, hx0⟩ | ⟨g, cap, cur, rfl, hbg, hg, hnc, hcm, hcs, htake⟩
  · obtain rfl : xs = [] := List.eq_nil_of_length_eq_zero hx0
    have hr := Lib.run_append_grow_zeros (P := Try.prog) w 33 tn ty 5 i (.int .u8 0) .i64 .i64 ht hn hi hz0 none 0 0 [] (run_firstCells_none w.drew i.size 0 0 0) k h0 (by omega) (by omega) (by omega) (by rw [hz2]; omega) (by rw [hz2]; exact growslice_fits (by omega) (by omega))
    have hgr := grown 0 (by simpa using h0)
    simp only [List.length_nil, Nat.zero_add, List.map_nil] at hgr hr ⊢
    exact ⟨_, _, hr, hgr.1, hgr.2, .inr ⟨w.heap.size, rfl, Nat.le_refl _⟩⟩
  · by_cases hroom : xs.length + k ≤ cap
    · have hst := run_storeCells_at Try.prog g xs.length 5 ((zerosB k).map by8) 0 cur w hg (by rw [List.length_map, hzl]; rw [hcs]; omega) (fun u hu => by obtain ⟨z, _, rfl⟩ := List.mem_map.1 hu; rfl)
      simp only [Nat.add_zero, List.length_map, hzl] at hst
      have hr : (Builtin.append_ #[33, tn] ty #[.slice (some ⟨g, 0, none⟩) xs.length cap, .int .i64 k]).run Try.prog w = .ok (.slice (some ⟨g, 0, none⟩) (xs.length + k) cap) (w.setRow g (cur.toList.take xs.length ++ (zerosB k).map by8 ++ cur.toList.drop (xs.length + k)).toArray) := by
        have hw : IntKind.i64.wrap (k : Int) = k := by rw [IntKind.wrap_i64]; omega
        have hneg : ¬ ((k : Int) < 0) := by omega
        have h48i : ¬ (281474976710656 < (k : Int)) := by omega
        have hk : k ≠ 0 := by omega
        simp [Builtin.append_, run_underlying ht, run_underlying hn, sizeOf, typeInfo, zeroValue, hi, hz0, hz1, hz2, asInt, asIntOf, hw, hneg, h48i, hk, hroom, zeroCells_by8, Addr.add_lit, hst]
      refine ⟨_, _, hr, ⟨by simp, .inr ⟨g, cap, _, by rw [List.length_append, hzl], hbg, setRow_heap w g cur _ 5 _ hg, by rw [List.length_append, hzl]; exact hroom, hcm, ?_, ?_⟩⟩, ⟨⟨rfl, rfl, rfl, by simp, fun j _ hj => setRow_other w g j _ (fun e => hj (by simp [Value.ownBlock, e]))⟩, .inl rfl⟩⟩
      · simp [hzl]; omega
      · have ht' : cur.toList.take xs.length = xs.map by8 := by simpa using htake
        rw [Nat.mul_one, ht', ← List.map_append, show (xs ++ zerosB k).length = ((xs ++ zerosB k).map by8).length by simp]
        exact List.take_left
    · have hr := Lib.run_append_grow_zeros (P := Try.prog) w 33 tn ty 5 i (.int .u8 0) .i64 .i64 ht hn hi hz0 (some ⟨g, 0, none⟩) xs.length cap (xs.map by8) (run_firstCells_some w.drew i.size xs.length ⟨g, 0, none⟩ xs.length cap (xs.map by8) (by rw [hz1]; simp) (by simpa using hown.cells (g := g) rfl)) k h0 (by omega) (by omega) (by omega) (by rw [hz2]; omega) (by rw [hz2]; exact growslice_fits (by omega) (by omega))
      have hgr := grown cap (by omega)
      exact ⟨_, _, hr, hgr.1, hgr.2, .inr ⟨w.heap.size, rfl, Nat.le_refl _⟩⟩
/-- So many zeros are put behind. -/
theorem plain_append_zeros {ops : Array Oper} {rest : List Oper} {o : Oper} {a : Act} {w : World} {Q : Exit → Act → World → Prop} (s x : Operand) (tn : TypeId) (hn : Try.prog.underlying tn = some (.int .i64)) (hgd : o.guard = none)
    (ho : o.op = .call { callee := .builtin .append, args := #[s, x], argTypes := #[33, tn] }) (base : Nat) (v : Value) (xs : List Int) (k : Nat) (h0 : 0 < k)
    (hs : a.eval s = v) (hx : a.eval x = .int .i64 k) (hown : Own w base v xs) (hlen : xs.length + k ≤ 10000000) (hbase : base ≤ w.heap.size)
    (h : ∀ v' w', Own w' base v' (xs ++ zerosB k) → Grew w w' v v' → wpList Try.prog ops Q rest (a.put o.dst v') w') : wpList Try.prog ops Q (o :: rest) a w := by
  refine wpList_plain hgd fun K hK => ?_
  obtain ⟨v', w', hr, h2, h3⟩ := run_append_own_zeros w tn o.type hn base v xs k h0 hown hlen hbase
  unfold Oper.wp execOp
  simp only [ho, resolve, invoke, builtin, Sem.run_bind, Sem.run_pure, Result.andThen_ok, List.map_toArray, List.map_cons, List.map_nil, hs, hx, hr]
  exact hK _ _ (h v' w' h2 h3)
end Go.Proofs.Ytljkcnoicdhchaa.Tz
