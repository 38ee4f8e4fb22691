/-
  Layer 11 (lines): what the document's Parse keeps from whole line to whole line.
-/
import Derived.Test.YtokeepmlibolfaaDoorLnRefQ
import Derived.Test.YtokeepmlibolfaaDoorLnLit
namespace Go.Proofs.YtokeepmlibolfaaDoor.Ln
open Go.RowKit

theorem al_size (V : World) (o : Obj) : (V.alloc o).heap.size = V.heap.size + 1 := by show (V.heap.push _).size = _; simp only [Array.size_push]
def diagR (d : Nat × Int) : List Value := [.int .i64 d.1, .bool (d.2 == 3)]
theorem infoRL : (Tryd.prog.info? 34).map (fun i => (i.zero, i.size, i.bytes)) = some (some (.agg #[.int .i64 0, .string ⟨#[]⟩, .string ⟨#[]⟩, .string ⟨#[]⟩]), 4, 56) := by kernel_rfl
theorem infoRD : (Tryd.prog.info? 37).map (fun i => (i.zero, i.size, i.bytes)) = some (some (.agg #[.int .i64 0, .bool false]), 2, 16) := by kernel_rfl
theorem own_texts {W : World} {base : Nat} {v : Value} {ls : List (List UInt8)} (h : OwnR W base 9 1 v (ls.map fun x => [Value.string (bs (crL x))])) (h0 : 0 < ls.length) :
    ∃ g cap, v = .slice (some ⟨g, 0, none⟩) ls.length cap ∧ g < W.heap.size ∧ ∀ i l, ls[i]? = some l → W.cell? ⟨g, i, none⟩ = some (.string (bs (crL l))) := by
  have h1 := h.1
  rw [List.length_map] at h1
  obtain ⟨g, cap, e, _, h2, h3⟩ := row_some h1 h0
  refine ⟨g, cap, e, h2, fun i l hl => h3 i _ ?_⟩
  have hf : ∀ ls : List (List UInt8), (ls.map fun x => [Value.string (bs (crL x))]).flatten = ls.map fun x => Value.string (bs (crL x)) := fun ls => by
    induction ls with
    | nil => rfl
    | cons a ls ih => rw [List.map_cons, List.flatten_cons, ih]; rfl
  rw [hf, List.getElem?_map, hl]
  rfl
theorem tot_le : ∀ (ls : List (List UInt8)) (k : Nat), tot (ls.drop k) ≤ tot ls
  | [], k => by rw [List.drop_nil]; exact Nat.le_refl _
  | l :: ls, 0 => Nat.le_refl _
  | l :: ls, k + 1 => by
    have := tot_le ls k
    show tot (ls.drop k) ≤ l.length + 1 + tot ls
    omega
/-- Both rows, of the call's own. -/
structure Rp (V0 : World) (st : Fs) (v1 v2 : Value) (V : World) : Prop where
  o1 : OwnR V V0.heap.size 34 4 v1 (st.found.map lineC)
  o2 : OwnR V V0.heap.size 37 2 v2 (st.wrong.map diagR)
  ne : ∀ b, v1.ownBlock = some b → v2.ownBlock ≠ some b
  b : Below V0.heap.size V0 V
section
variable {V0 V V' : World} {st : Fs} {v1 v2 v' : Value}
theorem Rp.nil (V0 : World) : Rp V0 ⟨[], [], []⟩ (.slice none 0 0) (.slice none 0 0) V0 := ⟨OwnR.nil _ _ _ _, OwnR.nil _ _ _ _, fun b h => (by cases h), Below.refl _ _⟩
theorem Rp.sec (h : Rp V0 st v1 v2 V) (n : List UInt8) : Rp V0 ⟨st.found, st.wrong, n⟩ v1 v2 V := ⟨h.o1, h.o2, h.ne, h.b⟩
theorem Rp.drew (h : Rp V0 st v1 v2 V) : Rp V0 st v1 v2 V.drew := by
  have hb : Below V.heap.size V V.drew := (Below.refl _ _).drew
  exact ⟨h.o1.keep hb, h.o2.keep hb, h.ne, h.b.drew⟩
theorem Rp.app1 (h : Rp V0 st v1 v2 V) (o : Obj) {x : Nat × List UInt8 × List UInt8 × List UInt8} {cs : List Value} (hc : lineC x = cs) (hown : OwnR V' V0.heap.size 34 4 v' (st.found.map lineC ++ [cs])) (hg : (V.alloc o).grownBy V' v1.ownBlock) (hat : v'.ownBlock = v1.ownBlock ∨ v'.ownBlock = some (V.alloc o).heap.size) : Rp V0 ⟨st.found ++ [x], st.wrong, st.sec⟩ v' v2 V' where
  o1 := by rw [List.map_append, List.map_singleton, hc]; exact hown
  o2 := (h.o2.alloc o).kept hg (by
    cases hv : v2.ownBlock with
    | none => exact .inl rfl
    | some b => exact .inr fun e => h.ne b e.symm hv)
  ne := fun b hb => by
    rcases hat with e | e
    · exact h.ne b (e ▸ hb)
    · intro h2
      have := (h.o2.lt b h2).2
      rw [hb] at e
      cases e
      rw [al_size] at this
      omega
  b := (h.b.alloc h.b.size o).trans ((h.o1.alloc o).below hg (Nat.le_refl _) (by have := h.b.size; rw [al_size]; omega))
theorem Rp.app2 (h : Rp V0 st v1 v2 V) (o : Obj) {x : Nat × Int} {cs : List Value} (hc : diagR x = cs) (hown : OwnR V' V0.heap.size 37 2 v' (st.wrong.map diagR ++ [cs])) (hg : (V.alloc o).grownBy V' v2.ownBlock) (hat : v'.ownBlock = v2.ownBlock ∨ v'.ownBlock = some (V.alloc o).heap.size) : Rp V0 ⟨st.found, st.wrong ++ [x], st.sec⟩ v1 v' V' where
  o2 := by rw [List.map_append, List.map_singleton, hc]; exact hown
  o1 := (h.o1.alloc o).kept hg (by
    cases hv : v1.ownBlock with
    | none => exact .inl rfl
    | some b => exact .inr fun e => h.ne b hv e.symm)
  ne := fun b hb h2 => by
    rcases hat with e | e
    · exact h.ne b hb (e ▸ h2)
    · have := (h.o1.lt b hb).2
      rw [h2] at e
      cases e
      rw [al_size] at this
      omega
  b := (h.b.alloc h.b.size o).trans ((h.o2.alloc o).below hg (Nat.le_refl _) (by have := h.b.size; rw [al_size]; omega))
end
/-- One element more, as an operation. -/
theorem wp_append_one {P : Program} {o : Oper} {a : Act} {w : World} {K : Act → World → Prop} {Q : Exit → Act → World → Prop} (s x : Operand) (T e : TypeId) (sz bytes : Nat) (z : Value)
    (ho : o.op = .call { callee := .builtin .append, args := #[s, x], argTypes := #[T, T] }) (hT : P.underlying T = some (.slice e)) (hi : (P.info? e).map (fun i => (i.zero, i.size, i.bytes)) = some (some z, sz, bytes)) (hzs : z.cells.size = sz) (hsz : 0 < sz) (hby : bytes ≤ 100)
    (base : Nat) (v : Value) (xs : List (List Value)) (cs : List Value) (ad : Addr) (c : Nat)
    (hs : a.eval s = v) (hx : a.eval x = .slice (some ad) 1 c) (hown : OwnR w base e sz v xs) (hcl : cs.length = sz) (hz : ∀ j u, cs[j]? = some u → w.cell? (ad.add j) = some u) (h1 : ∀ u ∈ cs, u.oneCell' = true) (hlen : xs.length ≤ 100000000) (hbase : base ≤ w.heap.size)
    (h : ∀ v' w', OwnR w' base e sz v' (xs ++ [cs]) → w.grownBy w' v.ownBlock → (v'.ownBlock = v.ownBlock ∨ v'.ownBlock = some w.heap.size) → K (a.put o.dst v') w') : Oper.wp P o a w K Q := by
  obtain ⟨i, hi', hz0, hz1, hz2⟩ := info_parts hi
  have hb : (xs.length + 1) * bytes ≤ (xs.length + 1) * 100 := Nat.mul_le_mul_left _ hby
  obtain ⟨v', w', hr, hown', hgr, _, hat⟩ := run_append_own_at (P := P) w base T o.type e i z sz bytes hT hi' hz0 hz1 hz2 hzs hsz v xs.length xs.flatten hown.1 ad 1 c cs (by omega) hz h1 (by unfold maxLen; omega) (by omega) hbase
  unfold Oper.wp execOp
  simp only [ho, resolve, invoke, builtin, Sem.run_bind, Sem.run_pure, Result.andThen_ok, List.map_toArray, List.map_cons, List.map_nil, hs, hx, hr]
  refine h v' w' ⟨?_, ?_⟩ hgr hat
  · rw [List.length_append, List.flatten_append, List.flatten_singleton]; exact hown'
  · intro y hy
    rcases List.mem_append.1 hy with hy | hy
    · exact hown.2 y hy
    · rw [List.mem_singleton.1 hy]; exact hcl
/-- The first place of '='. -/
theorem eq_place (X : List UInt8) : ∃ A, A ≤ X.length ∧ (∀ j, j < A → X.getD j 0 ≠ 61) ∧ (A < X.length → X.getD A 0 = 61) := by
  rcases range_all (fun j => X.getD j 0 != 61) X.length with ⟨_, h⟩ | ⟨_, m, hm, h1, h2⟩
  · exact ⟨X.length, Nat.le_refl _, fun j hj => by have := h j hj; simpa using this, fun h => absurd h (Nat.lt_irrefl _)⟩
  · exact ⟨m, Nat.le_of_lt hm, fun j hj => by have := h1 j hj; simpa using this, fun _ => by simpa using h2⟩
theorem pre_not {c : UInt8} {r : List UInt8} (h : (c == (91 : UInt8)) = false) : Lib.hasPrefix (c :: r) [91] = false := by
  unfold Lib.hasPrefix
  simp only [List.isPrefixOf, Bool.and_true]
  rw [Bool.beq_comm]
  exact h
/-- The ways of a whole line. -/
theorem ways (X : List UInt8) (s : Fs) (n A : Nat) (hA : A ≤ X.length) (hno : ∀ j, j < A → X.getD j 0 ≠ 61) (h61 : A < X.length → X.getD A 0 = 61) :
    (4096 < X.length ∧ pstep s (n, X) = ⟨s.found, s.wrong ++ [(n, 3)], s.sec⟩) ∨
    (¬ 4096 < X.length ∧ (secL X).isEmpty = false ∧ pstep s (n, X) = ⟨s.found, s.wrong, secL X⟩) ∨
    (¬ 4096 < X.length ∧ (secL X).isEmpty = true ∧ (∃ r, X = 91 :: r) ∧ pstep s (n, X) = ⟨s.found, s.wrong ++ [(n, 110)], []⟩) ∨
    (X = [] ∧ pstep s (n, X) = ⟨s.found, s.wrong ++ [(n, 110)], s.sec⟩) ∨
    ((¬ 4096 < X.length ∧ (secL X).isEmpty = true ∧ ∃ c r, X = c :: r ∧ (c == (91 : UInt8)) = false) ∧
      ((A = X.length ∧ pstep s (n, X) = ⟨s.found, s.wrong ++ [(n, 110)], s.sec⟩) ∨
       (A < X.length ∧ keyB (trimL (X.take A)) = false ∧ pstep s (n, X) = ⟨s.found, s.wrong ++ [(n, 110)], s.sec⟩) ∨
       (A < X.length ∧ keyB (trimL (X.take A)) = true ∧ s.sec.isEmpty = true ∧ pstep s (n, X) = ⟨s.found, s.wrong ++ [(n, 110)], s.sec⟩) ∨
       (A < X.length ∧ keyB (trimL (X.take A)) = true ∧ s.sec.isEmpty = false ∧ pstep s (n, X) = ⟨s.found ++ [(n, s.sec, trimL (X.take A), trimL (X.drop (A + 1)))], s.wrong, s.sec⟩))) := by
  by_cases hL : 4096 < X.length
  · exact .inl ⟨hL, step_long hL⟩
  refine .inr ?_
  cases hP : Lib.hasPrefix X [91] with
  | true =>
    have hG : (asgB X && !s.sec.isEmpty) = false := by rw [asg_brk hP]; rfl
    have hS : secL X = nameL X := by unfold secL; rw [if_pos hP]
    cases hN : (nameL X).isEmpty with
    | false => exact .inl ⟨hL, by rw [hS]; exact hN, by rw [hS]; exact step_name hL hG hP hN⟩
    | true =>
      refine .inr (.inl ⟨hL, by rw [hS]; exact hN, pre_cons hP, ?_⟩)
      have h := step_bad (s := s) (x := (n, X)) hL hG hP hN
      rw [h, List.isEmpty_iff.mp hN]
  | false =>
    have hS : secL X = [] := by unfold secL; rw [hP]; rfl
    have hbad : asgB X = false ∨ s.sec.isEmpty = true → pstep s (n, X) = ⟨s.found, s.wrong ++ [(n, 110)], s.sec⟩ := fun h => step_none hL (by rcases h with h | h <;> simp [h]) hP
    refine .inr (.inr ?_)
    cases X with
    | nil => exact .inl ⟨rfl, hbad (.inl (by unfold asgB; rfl))⟩
    | cons c r =>
      refine .inr ⟨⟨hL, by rw [hS]; rfl, c, r, rfl, ?_⟩, ?_⟩
      · cases hc : (c == (91 : UInt8)) with
        | false => rfl
        | true =>
          obtain rfl := beq_iff_eq.mp hc
          exact absurd hP (by simp [Lib.hasPrefix, List.isPrefixOf])
      · rcases Nat.lt_or_ge A (c :: r).length with h | h
        · have hc := cut_first h (h61 h) hno
          have hK : asgK (c :: r) = trimL ((c :: r).take A) := by unfold asgK; rw [hc]
          have hV : asgV (c :: r) = trimL ((c :: r).drop (A + 1)) := by unfold asgV; rw [hc]
          have hB : asgB (c :: r) = keyB (trimL ((c :: r).take A)) := by unfold asgB; rw [hK, hc]; rfl
          refine .inr ?_
          cases hk : keyB (trimL ((c :: r).take A)) with
          | false => exact .inl ⟨h, rfl, hbad (.inl (by rw [hB, hk]))⟩
          | true =>
            refine .inr ?_
            cases hs : s.sec.isEmpty with
            | true => exact .inl ⟨h, rfl, rfl, hbad (.inr hs)⟩
            | false =>
              refine .inr ⟨h, rfl, rfl, ?_⟩
              have h := step_asg (s := s) (x := (n, c :: r)) hL (by rw [hB, hk]) hs
              rw [h, hK, hV]
        · have e : A = (c :: r).length := by omega
          refine .inl ⟨e, hbad (.inl ?_)⟩
          unfold asgB
          rw [cut_none (by rw [← e]; exact hno)]
          rfl
end Go.Proofs.YtokeepmlibolfaaDoor.Ln
