/-
  Layer 12 (words): a row of texts put behind a row of texts of one's own.
-/
import Derived.Test.YtffmchbcpihjhaaWdWorks
namespace Go.Proofs.Ytffmchbcpihjhaa.Wd
open Go.RowKit
set_option maxRecDepth 100000

theorem bs_app (a b : List UInt8) : bs a ++ bs b = bs (a ++ b) := by
  rw [← bs_of (bs a ++ bs b)]
  congr 1
theorem run_app_none (W : World) (base : Nat) (v : Value) (l : List (List UInt8)) (ho : OwnR W base 9 1 v (l.map cellT)) (c : Nat) (ty : TypeId) : (Builtin.append_ #[23, 23] ty #[v, .slice none 0 c]).run Try.prog W = .ok v W := by
  obtain ⟨i, hi, hz0, hz1, hz2⟩ := info_parts str_info
  have h1 := ho.1
  rcases h1.2 with ⟨rfl, h0⟩ | ⟨g, cap, cur, rfl, hb, hg, hc, hm, hs, ht⟩
  · simp [Builtin.append_, run_underlying Try.underlying23, sizeOf, typeInfo, hi, Builtin.lenOf, Builtin.firstCells]
  · simp only [List.length_map] at hc
    simp [Builtin.append_, run_underlying Try.underlying23, sizeOf, typeInfo, hi, Builtin.lenOf, Builtin.firstCells, hc, storeCells]
/-- A row of texts behind one of one's own. -/
theorem wpList_app {ops : Array Oper} {rest : List Oper} {o : Oper} {a : Act} {W : World} {Q : Exit → Act → World → Prop} (hgd : o.guard = none) (s x : Operand)
    (ho : o.op = .call { callee := .builtin .append, args := #[s, x], argTypes := #[23, 23] })
    (base : Nat) (v : Value) (l m : List (List UInt8)) (A : Option Addr) (c : Nat) (hs : a.eval s = v) (hx : a.eval x = .slice A m.length c) (hown : OwnR W base 9 1 v (l.map cellT)) (hrow : StrRow W A m) (hl : l.length + m.length ≤ 1000000) (hbase : base ≤ W.heap.size)
    (h : ∀ p d W', OwnR W' base 9 1 (.slice p (l ++ m).length d) ((l ++ m).map cellT) → Below base W W' → wpList Try.prog ops Q rest (a.put o.dst (.slice p (l ++ m).length d)) W') : wpList Try.prog ops Q (o :: rest) a W := by
  have key : ∀ v' W', OwnR W' base 9 1 v' ((l ++ m).map cellT) → Below base W W' → wpList Try.prog ops Q rest (a.put o.dst v') W' := fun v' W' ho' hb' => by
    obtain ⟨p, d, hv⟩ := own_slice ho'
    rw [List.length_map] at hv
    subst hv
    exact h p d W' ho' hb'
  cases A with
  | none =>
    have hm0 : m = [] := by
      cases m with
      | nil => rfl
      | cons y m =>
        obtain ⟨a', e, _⟩ := hrow 0 y rfl
        cases e
    subst hm0
    refine wpList_plain hgd fun K hK => ?_
    have hr := run_app_none W base v l hown c o.type
    unfold Oper.wp execOp
    simp only [ho, resolve, invoke, builtin, Sem.run_bind, Sem.run_pure, Result.andThen_ok, List.map_toArray, List.map_cons, List.map_nil, hs, hx, List.length_nil, hr]
    exact hK _ _ (key v W (by rw [List.append_nil]; exact hown) (Below.refl _ _))
  | some ad =>
    obtain ⟨i, hi', hz0, hz1, hz2⟩ := info_parts str_info
    have h1 := hown.1
    rw [List.length_map] at h1
    refine wpList_append_own_at W hgd s x 23 ho base 9 i (.string ⟨#[]⟩) 1 16 Try.underlying23 hi' hz0 hz1 hz2 rfl (by decide) v l.length _ hs h1 ad m.length c (m.map cellT).flatten hx (by rw [flat_t, List.length_map]; omega) (fun j u hj => ?_) (fun u hu => ?_) (by unfold maxLen; omega) (by omega) hbase ?_
    · rw [flat_t, List.getElem?_map] at hj
      cases hy : m[j]? with
      | none => rw [hy] at hj; cases hj
      | some y =>
        rw [hy] at hj
        obtain ⟨a', e, _, hc⟩ := hrow j y hy
        cases e
        cases hj
        exact hc
    · rw [flat_t] at hu
      obtain ⟨y, _, rfl⟩ := List.mem_map.1 hu
      rfl
    · intro v' W' hown' hgr _ _
      refine key v' W' ⟨?_, fun y hy => ?_⟩ (hown.below hgr (Nat.le_refl _) hbase)
      · rw [List.map_append, List.length_append, List.length_map, List.length_map, List.flatten_append]; exact hown'
      · obtain ⟨z, _, rfl⟩ := List.mem_map.1 hy
        rfl
/-- The same, lengths as letters. -/
theorem wpList_appN {ops : Array Oper} {rest : List Oper} {o : Oper} {a : Act} {W : World} {Q : Exit → Act → World → Prop} (hgd : o.guard = none) (s x : Operand)
    (ho : o.op = .call { callee := .builtin .append, args := #[s, x], argTypes := #[23, 23] })
    (base : Nat) (v : Value) (l m : List (List UInt8)) (A : Option Addr) (k N c : Nat) (hk : m.length = k) (hN : (l ++ m).length = N) (hs : a.eval s = v) (hx : a.eval x = .slice A k c) (hown : OwnR W base 9 1 v (l.map cellT)) (hrow : StrRow W A m) (hl : N ≤ 1000000) (hbase : base ≤ W.heap.size)
    (h : ∀ p d W', OwnR W' base 9 1 (.slice p N d) ((l ++ m).map cellT) → Below base W W' → wpList Try.prog ops Q rest (a.put o.dst (.slice p N d)) W') : wpList Try.prog ops Q (o :: rest) a W := by
  subst hk
  subst hN
  exact wpList_app hgd s x ho base v l m A c hs hx hown hrow (by rw [List.length_append] at hl; exact hl) hbase h
theorem own_str2 {W : World} {base n c : Nat} {p : Option Addr} {l : List (List UInt8)} (h : OwnR W base 9 1 (.slice p n c) (l.map cellT)) : StrRow W p l := by
  obtain ⟨A, d, e, hr⟩ := own_str h
  injection e with e _ _
  rw [e]; exact hr
end Go.Proofs.Ytffmchbcpihjhaa.Wd
