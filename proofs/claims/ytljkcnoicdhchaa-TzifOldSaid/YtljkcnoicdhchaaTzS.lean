/-
  Layer 6 (tzif): rows of numbers of the call's own; a zone with one time more.
-/
import Derived.Test.YtljkcnoicdhchaaTzR
namespace Go.Proofs.Ytljkcnoicdhchaa.Tz
open Go.RowKit

/-- A slice of the call's own, that holds these numbers (of the type te). -/
def OwnI (w : World) (base : Nat) (te : TypeId) (v : Value) (xs : List Int) : Prop := w.ownsRow base te 1 v xs.length (xs.map (Value.int .i64))
section
variable {w w' : World} {base : Nat} {te : TypeId} {v : Value} {xs : List Int}
theorem OwnI.keep (h : OwnI w base te v xs) (hb : Below w.heap.size w w') : OwnI w' base te v xs :=
  World.ownsRow.kept h (row := none) ⟨hb.os, hb.tape, hb.output, hb.size, fun k hk _ => hb.block k hk⟩ (by cases hv : v.ownBlock <;> simp)
theorem OwnI.alloc (h : OwnI w base te v xs) (o : Obj) : OwnI (w.alloc o) base te v xs := World.ownsRow.alloc h o
theorem OwnI.lt (h : OwnI w base te v xs) (k : Nat) (hk : v.ownBlock = some k) : base ≤ k ∧ k < w.heap.size := World.ownsRow.lt h k hk
theorem OwnI.form (h : OwnI w base te v xs) : ∃ A c, v = .slice A xs.length c := by
  rcases h.2 with ⟨rfl, h0⟩ | ⟨g, cap, cur, rfl, _⟩
  · exact ⟨none, 0, by rw [h0]⟩
  · exact ⟨_, _, rfl⟩
theorem OwnI.sl (h : OwnI w base te v xs) {B : Nat} (hB : w.heap.size ≤ B) : Sl w B 1 v (xs.map intCells) := by
  refine ⟨?_, fun j row hj => ?_⟩
  · obtain ⟨A, c, e⟩ := h.form
    exact ⟨A, c, by rw [List.length_map]; exact e⟩
  · rw [List.getElem?_map] at hj
    cases hx : xs[j]? with
    | none => rw [hx] at hj; cases hj
    | some x =>
      rw [hx] at hj
      have e : row = [.int .i64 x] := by injection hj with hj; exact hj.symm
      subst e
      have hlt : j < xs.length := by
        rcases Nat.lt_or_ge j xs.length with b | b
        · exact b
        · rw [List.getElem?_eq_none b] at hx; cases hx
      obtain ⟨g, cap, cur, rfl, _, hg, _⟩ : ∃ g cap cur, v = .slice (some ⟨g, 0, none⟩) xs.length cap ∧ base ≤ g ∧ w.heap[g]? = some (.cells cur te (0, 0)) ∧ True := by
        rcases h.2 with ⟨_, h0⟩ | ⟨g, cap, cur, e, hbg, hg, _⟩
        · omega
        · exact ⟨g, cap, cur, e, hbg, hg, trivial⟩
      have hgl := (Array.getElem?_eq_some_iff.1 hg).1
      refine ⟨g, 0, cap, by rw [List.length_map], by omega, fun k u hu => ?_⟩
      match k, hu with
      | 0, hu =>
        have hu : u = .int .i64 x := by simpa using hu.symm
        subst hu
        have := World.ownsRow.cells h (g := g) rfl j (.int .i64 x) (by rw [List.getElem?_map, hx]; rfl)
        rw [Own_add] at this
        rw [Nat.zero_add, Nat.mul_one, Nat.add_zero]; exact this
theorem OwnI.empty (w : World) (te : TypeId) (base : Nat) (hb : base ≤ w.heap.size) : OwnI (w.alloc (.cells #[] te)) base te (.slice (some ⟨w.heap.size, 0, none⟩) 0 0) [] :=
  World.ownsRow_lit w #[] 0 hb (by unfold maxLen; omega) (by simp)
theorem growI_below {v' : Value} (h : OwnI w base te v xs) (hg : Grew w w' v v') {B : Nat} (hB : B ≤ base) (hS : B ≤ w.heap.size) : Below B w w' :=
  ⟨hg.gr.os, hg.gr.tape, hg.gr.output, hg.gr.size, fun k hk => hg.gr.block k (by omega) (fun e => by have := (h.lt k e.symm).1; omega)⟩
end
theorem i64_info : (Try.prog.info? 2).map (fun i => (i.zero, i.size, i.bytes)) = some (some (.int .i64 0), 1, 8) := by kernel_rfl
theorem int_info : (Try.prog.info? 3).map (fun i => (i.zero, i.size, i.bytes)) = some (some (.int .i64 0), 1, 8) := by kernel_rfl
set_option maxRecDepth 100000 in
/-- Numbers that a slice reads are put behind. -/
theorem plain_append_ints {ops : Array Oper} {rest : List Oper} {o : Oper} {a : Act} {w : World} {Q : Exit → Act → World → Prop} (s x : Operand) (ts te : TypeId) (hT : Try.prog.underlying ts = some (.slice te)) (hI : (Try.prog.info? te).map (fun i => (i.zero, i.size, i.bytes)) = some (some (.int .i64 0), 1, 8)) (hgd : o.guard = none)
    (ho : o.op = .call { callee := .builtin .append, args := #[s, x], argTypes := #[ts, ts] }) (base B : Nat) (v u : Value) (xs zs : List Int)
    (hs : a.eval s = v) (hx : a.eval x = u) (hown : OwnI w base te v xs) (hz : Sl w B 1 u (zs.map intCells)) (hlen : xs.length + zs.length ≤ 10000000) (hbase : base ≤ w.heap.size)
    (h : ∀ v' w', OwnI w' base te v' (xs ++ zs) → Grew w w' v v' → wpList Try.prog ops Q rest (a.put o.dst v') w') : wpList Try.prog ops Q (o :: rest) a w := by
  obtain ⟨i, hi, hz0, hz1, hz2⟩ := info_parts hI
  obtain ⟨A, c, rfl⟩ := hz.len
  cases A with
  | some ad =>
    refine wpList_append_own_at w hgd s x ts ho base te i _ 1 8 hT hi hz0 hz1 hz2 rfl (by decide) v xs.length (xs.map (Value.int .i64)) hs hown ad zs.length c (zs.map (Value.int .i64)) hx (by simp) ?_ (fun u hu => by obtain ⟨z, _, rfl⟩ := List.mem_map.1 hu; rfl) (by unfold maxLen; omega) (by omega) hbase ?_
    · intro j u hu
      rw [List.getElem?_map] at hu
      cases hj : zs[j]? with
      | none => rw [hj] at hu; cases hu
      | some z =>
        rw [hj] at hu; injection hu with hu; subst hu
        obtain ⟨g, off, c', hv, _, hc⟩ := hz.one hj
        injection hv with e1 _ _
        injection e1 with e1; subst e1
        have hadd : (⟨g, off, none⟩ : Addr).add j = ⟨g, off + j, none⟩ := by unfold Addr.add; split <;> simp_all
        rw [hadd]; exact hc
    · intro v' w' hown' hgr _ hat
      exact h v' w' (by unfold OwnI; rw [List.map_append, List.length_append]; exact hown') ⟨hgr, hat.imp id fun e => ⟨_, e, Nat.le_refl _⟩⟩
  | none =>
    have hz0' : zs = [] := by
      cases zs with
      | nil => rfl
      | cons z zs =>
        obtain ⟨g, off, c', hv, _⟩ := hz.one (k := 0) (x := z) rfl
        injection hv with e1 _ _; cases e1
    subst hz0'
    refine wpList_plain hgd fun K hK => ?_
    have hr : (Builtin.append_ #[ts, ts] o.type #[v, .slice none 0 c]).run Try.prog w = .ok v w := by
      rcases hown.2 with ⟨rfl, _⟩ | ⟨g, cap, cur, rfl, _, hg, hnc, _⟩
      · simp [Builtin.append_, run_underlying hT, sizeOf, typeInfo, hi, Builtin.lenOf, Builtin.firstCells]
      · simp [Builtin.append_, run_underlying hT, sizeOf, typeInfo, hi, Builtin.lenOf, Builtin.firstCells, hnc, storeCells]
    unfold Oper.wp execOp
    simp only [ho, resolve, invoke, builtin, Sem.run_bind, Sem.run_pure, Result.andThen_ok, List.map_toArray, List.map_cons, List.map_nil, hs, hx, List.length_nil, hr]
    exact hK _ _ (h v w (by rw [List.append_nil]; exact hown) (Grew.refl _ _))

theorem plain_append_ints_n {ops : Array Oper} {rest : List Oper} {o : Oper} {a : Act} {w : World} {Q : Exit → Act → World → Prop} (s x : Operand) (ts te : TypeId) (hT : Try.prog.underlying ts = some (.slice te)) (hI : (Try.prog.info? te).map (fun i => (i.zero, i.size, i.bytes)) = some (some (.int .i64 0), 1, 8)) (hgd : o.guard = none)
    (ho : o.op = .call { callee := .builtin .append, args := #[s, x], argTypes := #[ts, ts] }) (base B n : Nat) (v u : Value) (xs zs : List Int)
    (hs : a.eval s = v) (hx : a.eval x = u) (hown : OwnI w base te v xs) (hz : Sl w B 1 u (zs.map intCells)) (hlen : xs.length + zs.length ≤ 10000000) (hbase : base ≤ w.heap.size) (hn : (xs ++ zs).length = n)
    (h : ∀ A c w', OwnI w' base te (.slice A n c) (xs ++ zs) → Grew w w' v (.slice A n c) → wpList Try.prog ops Q rest (a.put o.dst (.slice A n c)) w') : wpList Try.prog ops Q (o :: rest) a w := by
  refine plain_append_ints s x ts te hT hI hgd ho base B v u xs zs hs hx hown hz hlen hbase ?_
  intro v' w' h1 h2
  obtain ⟨A, c, e⟩ := h1.form
  rw [hn] at e
  subst e
  exact h A c w' h1 h2

/-! ### A zone's variable -/
structure ZnBox (U : World) (P : Nat) (a b c d : Value) : Prop where
  c0 : U.cell? ⟨P, 0, none⟩ = some a
  c1 : U.cell? ⟨P, 1, none⟩ = some b
  c2 : U.cell? ⟨P, 2, none⟩ = some c
  c3 : U.cell? ⟨P, 3, none⟩ = some d
  fr : ∀ i, U.frozen? ⟨P, i, none⟩ = false
  lt : P < U.heap.size
section
variable {U V : World} {P G : Nat} {a b c d : Value}
theorem ZnBox.below (h : ZnBox U P a b c d) (hb : Below G U V) (hP : P < G) : ZnBox V P a b c d :=
  ⟨cells_at P hb hP h.c0, cells_at P hb hP h.c1, cells_at P hb hP h.c2, cells_at P hb hP h.c3, fun i => (hb.frozen (p := ⟨P, i, none⟩) hP).trans (h.fr i), Nat.lt_of_lt_of_le h.lt hb.size⟩
theorem set_other {W : World} {g i j : Nat} {u : Value} (hij : i ≠ j) : (W.setCell ⟨g, i, none⟩ u).cell? ⟨g, j, none⟩ = W.cell? ⟨g, j, none⟩ := World.cell?_setCell_other _ _ _ _ (by rintro ⟨⟩; exact hij rfl)
theorem ZnBox.set1 (h : ZnBox U P a b c d) (x : Value) : ZnBox (U.setCell ⟨P, 1, none⟩ x) P a x c d :=
  ⟨(set_other (by decide)).trans h.c0, World.cell?_setCell_same _ _ _ h.c1, (set_other (by decide)).trans h.c2, (set_other (by decide)).trans h.c3, fun i => by rw [World.frozen?_setCell]; exact h.fr i, by simpa using h.lt⟩
theorem ZnBox.set2 (h : ZnBox U P a b c d) (x : Value) : ZnBox (U.setCell ⟨P, 2, none⟩ x) P a b x d :=
  ⟨(set_other (by decide)).trans h.c0, (set_other (by decide)).trans h.c1, World.cell?_setCell_same _ _ _ h.c2, (set_other (by decide)).trans h.c3, fun i => by rw [World.frozen?_setCell]; exact h.fr i, by simpa using h.lt⟩
theorem ZnBox.set3 (h : ZnBox U P a b c d) (x : Value) : ZnBox (U.setCell ⟨P, 3, none⟩ x) P a b c x :=
  ⟨(set_other (by decide)).trans h.c0, (set_other (by decide)).trans h.c1, (set_other (by decide)).trans h.c2, World.cell?_setCell_same _ _ _ h.c3, fun i => by rw [World.frozen?_setCell]; exact h.fr i, by simpa using h.lt⟩
theorem ZnBox.new (W : World) (P : Nat) (hP : W.heap.size = P) (a b c d : Value) (t : TypeId) : ZnBox (W.alloc (.cells #[a, b, c, d] t)) P a b c d :=
  ⟨cell_new W _ t P 0 a hP rfl, cell_new W _ t P 1 b hP rfl, cell_new W _ t P 2 c hP rfl, cell_new W _ t P 3 d hP rfl, fun i => by subst hP; exact frozen_of_row _ _ i _ t (heap_alloc_new _ _), by subst hP; simp⟩
end
theorem grown_set (W : World) (g i : Nat) (u : Value) : W.grownBy (W.setCell ⟨g, i, none⟩ u) (some g) :=
  ⟨rfl, rfl, rfl, by simp, fun k _ hne => by simp only [World.setCell, Array.getElem?_modify]; rw [if_neg (fun e => hne (by rw [← e]))]⟩
theorem OwnI.set {W : World} {base : Nat} {te : TypeId} {v : Value} {xs : List Int} (h : OwnI W base te v xs) {g : Nat} (hg : g < base) (i : Nat) (u : Value) : OwnI (W.setCell ⟨g, i, none⟩ u) base te v xs :=
  World.ownsRow.kept h (grown_set W g i u) (by
    cases hv : v.ownBlock with
    | none => exact .inl rfl
    | some k => exact .inr (fun e => by injection e with e; have := (h.lt k hv).1; omega))

/-! ### One time more -/
def moreZ (z : Zn) (at_ idx : Int) : Zn := { z with times := z.times ++ [at_], index := z.index ++ [idx] }
theorem rises_snoc : ∀ {l : List Int} {x : Int}, rises l = true → (∀ y ∈ l, y < x) → rises (l ++ [x]) = true
  | [], _, _, _ => rfl
  | [a], x, _, h => by simp [rises]; exact h a (by simp)
  | a :: b :: l, x, hr, h => by
    unfold rises at hr
    simp only [Bool.and_eq_true] at hr
    show (decide (a < b) && rises (b :: l ++ [x])) = true
    rw [hr.1, rises_snoc hr.2 (fun y hy => h y (by simp [hy]))]; rfl
theorem rises_last : ∀ {l : List Int}, rises l = true → ∀ y ∈ l, ∀ z, l.getLast? = some z → y ≤ z
  | [], _, y, hy, _, _ => by simp at hy
  | [a], _, y, hy, z, hz => by simp at hy hz; omega
  | a :: b :: l, hr, y, hy, z, hz => by
    unfold rises at hr
    simp only [Bool.and_eq_true, decide_eq_true_eq] at hr
    have hz2 : (b :: l).getLast? = some z := by rw [← hz]; rfl
    rcases List.mem_cons.1 hy with rfl | hy
    · have := rises_last hr.2 b (by simp) z hz2; omega
    · exact rises_last hr.2 y hy z hz2
theorem more_right {z : Zn} {at_ idx : Int} (h : rightZ z = true) (hl : z.times.length < 499) (hat : ∀ y ∈ z.times, y < at_) (h0 : 0 ≤ idx) (h1 : idx < z.types.length) : rightZ (moreZ z at_ idx) = true := by
  unfold rightZ rightTms rightIdx at *
  simp only [Bool.and_eq_true, decide_eq_true_eq, moreZ, List.length_append, List.length_cons, List.length_nil] at h ⊢
  obtain ⟨⟨⟨⟨⟨a1, a2, a3⟩, a4⟩, a5⟩, a6⟩, a7⟩ := h
  refine ⟨⟨⟨⟨⟨a1, by omega, rises_snoc a3 hat⟩, by omega⟩, ?_⟩, decide_eq_true a6⟩, a7⟩
  rw [List.all_append, a5]
  simp [inI, h0]; omega
theorem begun_snoc_lt {l : List Int} {x sec : Int} (h : sec < x) : begun (l ++ [x]) sec = begun l sec := by
  unfold begun
  induction l with
  | nil => simp [List.takeWhile_cons]; omega
  | cons a l ih =>
    rw [List.cons_append, List.takeWhile_cons, List.takeWhile_cons]
    split
    · simp [ih]
    · rfl
theorem begun_all {l : List Int} {sec : Int} (h : ∀ y ∈ l, y ≤ sec) : begun l sec = l.length := by
  unfold begun
  rw [show l.takeWhile (fun x => decide (x ≤ sec)) = l from by
    induction l with
    | nil => rfl
    | cons a l ih => rw [List.takeWhile_cons, if_pos (by simpa using h a (by simp)), ih (fun y hy => h y (by simp [hy]))]]
theorem begun_le (l : List Int) (sec : Int) : begun l sec ≤ l.length := by
  unfold begun; exact (List.takeWhile_sublist _).length_le
theorem more_at {z : Zn} {at_ idx sec : Int} (h : rightZ z = true) (hl : z.times.length < 499) (hat : ∀ y ∈ z.times, y < at_) (h0 : 0 ≤ idx) (h1 : idx < z.types.length) : atZ (moreZ z at_ idx) sec = if at_ ≤ sec then idx else atZ z sec := by
  have hr := more_right h hl hat h0 h1
  obtain ⟨_, hle⟩ := right_parts h
  unfold atZ
  rw [hr, if_pos rfl, h, if_pos rfl]
  show (if 0 < begun (z.times ++ [at_]) sec then ((z.index ++ [idx])[begun (z.times ++ [at_]) sec - 1]?).getD 0 else max (firstStd z.types) 0) = _
  by_cases hs : at_ ≤ sec
  · rw [if_pos hs, begun_all (l := z.times ++ [at_]) (sec := sec) (by
      intro y hy
      rcases List.mem_append.1 hy with hy | hy
      · have := hat y hy; omega
      · simp at hy; omega)]
    simp [← hle]
  · rw [if_neg hs, begun_snoc_lt (by omega)]
    have hb := begun_le z.times sec
    by_cases hk : 0 < begun z.times sec
    · rw [if_pos hk, if_pos hk, List.getElem?_append_left (by omega)]
    · rw [if_neg hk, if_neg hk]
end Go.Proofs.Ytljkcnoicdhchaa.Tz
