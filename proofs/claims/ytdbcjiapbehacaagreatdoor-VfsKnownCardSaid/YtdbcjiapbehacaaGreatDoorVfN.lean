/-
  A region that draws its order, makes copies of slices ('append([]T{}, s...)', several, in whatever order), and ends in one operation that waits for all others: the free operations first, then the copies in any order at once, then the rest in a told order.
-/
import Derived.Test.YtdbcjiapbehacaaGreatDoorVfM
namespace Go.Proofs.YtdbcjiapbehacaaGreatDoor.Vf
open Go Go.RowKit

/-! What has come up, as a list. -/
def subs : List Nat → List (List Nat)
  | [] => [[]]
  | x :: l => subs l ++ (subs l).map (x :: ·)
theorem filter_subs (p : Nat → Bool) : ∀ l : List Nat, l.filter p ∈ subs l
  | [] => by simp [subs]
  | x :: l => by
    have ih := filter_subs p l
    unfold subs
    cases h : p x with
    | true => rw [List.filter_cons_of_pos h]; exact List.mem_append_right _ (List.mem_map.2 ⟨_, ih, rfl⟩)
    | false => rw [List.filter_cons_of_neg (by simp [h])]; exact List.mem_append_left _ ih
def marks : Array Bool → List Nat → Array Bool
  | L, [] => L
  | L, i :: T => marks (L.setIfInBounds i true) T
theorem marks_get : ∀ (T : List Nat) (L : Array Bool) (k : Nat), (marks L T)[k]? = if k ∈ T then (L[k]?).map (fun _ => true) else L[k]?
  | [], L, k => by simp [marks]
  | i :: T, L, k => by
    unfold marks
    rw [marks_get T, Array.getElem?_setIfInBounds]
    by_cases hi : i = k
    · subst hi
      by_cases hk : i < L.size
      · by_cases hT : i ∈ T <;> simp [hk, hT]
      · by_cases hT : i ∈ T <;> simp [hk, hT]
    · by_cases hT : k ∈ T <;> simp [hi, Ne.symm hi, hT]
theorem marks_set (L : Array Bool) (G : List Nat) (st : Nat → Bool) (i : Nat) (hi : i ∈ G) : (marks L (G.filter st)).setIfInBounds i true = marks L (G.filter fun k => k == i || st k) := by
  apply Array.ext_getElem?
  intro k
  rw [Array.getElem?_setIfInBounds, marks_get, marks_get]
  have hsz : (marks L (G.filter st)).size = L.size := by
    have h1 := marks_get (G.filter st) L
    generalize marks L (G.filter st) = M at h1
    rcases Nat.lt_trichotomy M.size L.size with h | h | h
    · have h2 := h1 M.size
      rw [Array.getElem?_eq_none (Nat.le_refl _), Array.getElem?_eq_getElem h] at h2
      split at h2 <;> cases h2
    · exact h
    · have h2 := h1 L.size
      rw [Array.getElem?_eq_none (Nat.le_refl L.size), Array.getElem?_eq_getElem h] at h2
      split at h2 <;> cases h2
  rw [hsz]
  by_cases hk : i = k
  · subst hk
    have hm : i ∈ G.filter fun k => k == i || st k := List.mem_filter.2 ⟨hi, by simp⟩
    by_cases hL : i < L.size
    · simp [hm, hL]
    · simp [hL]
  · have : (k ∈ G.filter fun k => k == i || st k) ↔ k ∈ G.filter st := by
      rw [List.mem_filter, List.mem_filter]; simp [Ne.symm hk]
    simp only [hk, if_false, this]
theorem cnt_drop (st : Nat → Bool) (i : Nat) : ∀ (G : List Nat), G.Nodup → i ∈ G → st i = false → (G.filter fun k => !st k).length = (G.filter fun k => !(k == i || st k)).length + 1
  | [], _, h, _ => by cases h
  | x :: G, hn, h, hs => by
    rw [List.nodup_cons] at hn
    by_cases hx : x = i
    · subst hx
      have e : (G.filter fun k => !(k == x || st k)) = G.filter fun k => !st k := by
        apply List.filter_congr
        intro k hk
        have : k ≠ x := fun e => hn.1 (e ▸ hk)
        simp [this]
      rw [List.filter_cons_of_pos (by simp [hs]), List.filter_cons_of_neg (by simp), e, List.length_cons]
    · have hG : i ∈ G := by
        rcases List.mem_cons.1 h with h | h
        · exact absurd h.symm hx
        · exact h
      have ih := cnt_drop st i G hn.2 hG hs
      cases hxs : st x with
      | true => rw [List.filter_cons_of_neg (by simp [hxs]), List.filter_cons_of_neg (by simp [hxs]), ih]
      | false => rw [List.filter_cons_of_pos (by simp [hxs]), List.filter_cons_of_pos (by simp [hxs, hx]), List.length_cons, List.length_cons, ih]
def closedB (md : Region.Mode) (ops : Array Oper) (G T : List Nat) : Bool :=
  T.all fun i => match ops[i]? with
    | some o => o.after.all fun e => !(Region.binds md e) || !(G.contains e.on) || T.contains e.on
    | none => true
def groupB (md : Region.Mode) (ops : Array Oper) (L : Array Bool) (G : List Nat) : Bool :=
  decide G.Nodup && G.all (fun i => !(L.getD i false)) &&
  (subs G).all fun T => !(closedB md ops G T) || G.all (T.contains ·) || (!(Region.ready md ops (marks L T)).isEmpty && (Region.ready md ops (marks L T)).all fun i => G.contains i && !T.contains i)

section
variable {P : Program} {md : Region.Mode} {S : World → Prop} {Q : Exit → Act → World → Prop}
theorem held_of_group {ops : Array Oper} {L : Array Bool} {G : List Nat} (hB : groupB md ops L G = true) (fuel : Nat) (I : (Nat → Bool) → Act → World → Prop) (hS : ∀ st a w, I st a w → S w)
    (hstep : ∀ st a w i, i ∈ G → st i = false → (∀ o, ops[i]? = some o → ∀ e ∈ o.after, Region.binds md e = true → e.on ∈ G → st e.on = true) → I st a w → wpOp P ops Q i (fun a' w' => I (fun k => k == i || st k) a' w') a w)
    (hend : ∀ st a w, (∀ i ∈ G, st i = true) → I st a w → wpAnyH P md ops Q S fuel (marks L G) a w) :
    ∀ (n : Nat) (st : Nat → Bool) (a : Act) (w : World), (G.filter fun k => !st k).length = n → (∀ i ∈ G, st i = true → ∀ o, ops[i]? = some o → ∀ e ∈ o.after, Region.binds md e = true → e.on ∈ G → st e.on = true) → I st a w → wpAnyH P md ops Q S (n + fuel) (marks L (G.filter st)) a w
  | 0, st, a, w, hn, _, h => by
    have hall : ∀ i ∈ G, st i = true := fun i hi => by
      cases hs : st i with
      | true => rfl
      | false =>
        have : i ∈ G.filter fun k => !st k := List.mem_filter.2 ⟨hi, by simp [hs]⟩
        rw [List.eq_nil_of_length_eq_zero hn] at this
        cases this
    rw [List.filter_eq_self.2 hall, Nat.zero_add]
    exact hend st a w hall h
  | n + 1, st, a, w, hn, hcl, h => by
    simp only [groupB, Bool.and_eq_true, decide_eq_true_eq] at hB
    have hB2 := List.all_eq_true.1 hB.2 _ (filter_subs st G)
    have hnot : ¬ (G.all ((G.filter st).contains ·)) = true := by
      intro hc
      have hz : (G.filter fun k => !st k) = [] := by
        rw [List.filter_eq_nil_iff]
        intro i hi
        have h2 := List.all_eq_true.1 hc i hi
        have h3 : i ∈ G.filter st := by simpa using h2
        simp [(List.mem_filter.1 h3).2]
      rw [hz] at hn
      cases hn
    have hclo : closedB md ops G (G.filter st) = true := by
      unfold closedB
      rw [List.all_eq_true]
      intro i hi
      obtain ⟨hiG, his⟩ := List.mem_filter.1 hi
      split
      · rename_i o ho
        rw [Array.all_eq_true']
        intro e he
        cases hb : Region.binds md e with
        | false => rfl
        | true =>
          by_cases hG : e.on ∈ G
          · have := hcl i hiG his o ho e he hb hG
            simp [hG, this]
          · simp [hG]
      · rfl
    simp only [Bool.or_eq_true, hclo, hnot, false_or, Bool.and_eq_true, Bool.not_eq_true', List.isEmpty_eq_false_iff, Bool.false_eq_true, Bool.true_eq_false, or_false] at hB2
    rw [show n + 1 + fuel = (n + fuel) + 1 by omega]
    refine wpAnyH_all rfl hB2.1 fun i hi => ?_
    have h1 := List.all_eq_true.1 hB2.2 i hi
    simp only [Bool.and_eq_true, Bool.not_eq_true', List.contains_eq_mem, decide_eq_true_eq, decide_eq_false_iff_not] at h1
    have hsi : st i = false := by
      cases hs : st i with
      | false => rfl
      | true => exact absurd (List.mem_filter.2 ⟨h1.1, hs⟩) h1.2
    obtain ⟨_, oi, hoi, hall⟩ := mem_ready.1 hi
    have hdep : ∀ o, ops[i]? = some o → ∀ e ∈ o.after, Region.binds md e = true → e.on ∈ G → st e.on = true := fun o ho e he hb hG => by
      have hoo : o = oi := Option.some.inj (ho.symm.trans hoi)
      subst hoo
      have h2 := hall e he hb
      have hLe : L.getD e.on false = false := by simpa using List.all_eq_true.1 hB.1.2 e.on hG
      rw [Array.getD_eq_getD_getElem?, marks_get] at h2
      rw [Array.getD_eq_getD_getElem?] at hLe
      by_cases hm : e.on ∈ G.filter st
      · exact (List.mem_filter.1 hm).2
      · rw [if_neg hm, hLe] at h2
        cases h2
    refine wpOp_mono (fun a' w' h' => ⟨hS _ _ _ h', ?_⟩) (hstep st a w i h1.1 hsi hdep h)
    · rw [marks_set L G st i h1.1]
      refine held_of_group (by simp only [groupB, Bool.and_eq_true, decide_eq_true_eq]; exact hB) fuel I hS hstep hend n _ a' w' ?_ (fun j hj hst o ho e he hb hG => ?_) h'
      · have := cnt_drop st i G hB.1.1 h1.1 hsi
        omega
      · simp only [Bool.or_eq_true, beq_iff_eq] at hst ⊢
        rcases hst with rfl | hst
        · exact .inr (hdep o ho e he hb hG)
        · exact .inr (hcl j hj hst o ho e he hb hG)
end

/-! Slots filled. -/
def fillT (vs : Nat → Value) : List Nat → Array Value → Array Value
  | [], t => t
  | d :: ds, t => fillT vs ds (t.setIfInBounds d (vs d))
theorem fillT_get (vs : Nat → Value) : ∀ (ds : List Nat) (t : Array Value) (k : Nat), (fillT vs ds t)[k]? = if k ∈ ds then (t[k]?).map (fun _ => vs k) else t[k]?
  | [], t, k => by simp [fillT]
  | d :: ds, t, k => by
    unfold fillT
    rw [fillT_get vs ds, Array.getElem?_setIfInBounds]
    by_cases hi : d = k
    · subst hi
      by_cases hk : d < t.size
      · by_cases hT : d ∈ ds <;> simp [hk, hT]
      · by_cases hT : d ∈ ds <;> simp [hk, hT]
    · by_cases hT : k ∈ ds <;> simp [hi, Ne.symm hi, hT]
def fill (vs : Nat → Value) (ds : List Nat) (a : Act) : Act := { a with tmps := fillT vs ds a.tmps }
theorem fill_ext {vs vs' : Nat → Value} {ds ds' : List Nat} (a : Act) (h : ∀ k, k ∈ ds ↔ k ∈ ds') (hv : ∀ k ∈ ds, vs k = vs' k) : fill vs ds a = fill vs' ds' a := by
  unfold fill
  congr 1
  apply Array.ext_getElem?
  intro k
  rw [fillT_get, fillT_get]
  by_cases hk : k ∈ ds
  · rw [if_pos hk, if_pos ((h k).1 hk), hv k hk]
  · rw [if_neg hk, if_neg (fun h2 => hk ((h k).2 h2))]
theorem fill_put (vs : Nat → Value) (ds : List Nat) (a : Act) (d : Nat) (v : Value) : (fill vs ds a).put (some d) v = fill (fun k => if k = d then v else vs k) (d :: ds) a := by
  show ({ a with tmps := (fillT vs ds a.tmps).setIfInBounds d v } : Act) = { a with tmps := fillT _ (d :: ds) a.tmps }
  congr 1
  apply Array.ext_getElem?
  intro k
  show ((fillT vs ds a.tmps).setIfInBounds d v)[k]? = _
  have hsz : ∀ (vs : Nat → Value) (ds : List Nat) (t : Array Value), (fillT vs ds t).size = t.size := fun vs ds => by
    induction ds with
    | nil => intro t; rfl
    | cons d ds ih => intro t; unfold fillT; rw [ih]; simp
  rw [Array.getElem?_setIfInBounds, fillT_get, fillT_get, hsz]
  by_cases hk : d = k
  · subst hk
    by_cases hL : d < a.tmps.size
    · simp [hL]
    · simp [hL]
  · by_cases hT : k ∈ ds <;> simp [hk, Ne.symm hk, hT]
theorem fill_far (vs : Nat → Value) {ds : List Nat} (a : Act) {t : Nat} (h : t ∉ ds) : (fill vs ds a).eval (.tmp t) = a.eval (.tmp t) := by
  show (fillT vs ds a.tmps).getD t undef = a.tmps.getD t undef
  rw [Array.getD_eq_getD_getElem?, fillT_get, if_neg h, Array.getD_eq_getD_getElem?]
theorem fill_at (vs : Nat → Value) {ds : List Nat} (a : Act) {t : Nat} (h : t ∈ ds) (hl : t < a.tmps.size) : (fill vs ds a).eval (.tmp t) = vs t := by
  show (fillT vs ds a.tmps).getD t undef = vs t
  rw [Array.getD_eq_getD_getElem?, fillT_get, if_pos h, Array.getElem?_eq_getElem hl]
  rfl

/-! Copies: 'append([]T{}, s...)' is two operations, b and then c. -/
structure CP where
  b : Nat
  c : Nat
  db : Nat
  dc : Nat
  T : TypeId
  X : Nat
  e : TypeId
  sz : Nat
  bytes : Nat
  z : Value
  x : Value
  xs : List (List Value)
structure CPOk (P : Program) (ops : Array Oper) (w0 : World) (a0 : Act) (p : CP) : Prop where
  ob : ∃ ob, ops[p.b]? = some ob ∧ ob.op = .buildSlice p.T 0 #[] ∧ ob.dst = some p.db ∧ ob.guard = none
  oc : ∃ oc, ops[p.c]? = some oc ∧ oc.op = .call { callee := .builtin .append, args := #[.tmp p.db, .tmp p.X], argTypes := #[p.T, p.T] } ∧ oc.dst = some p.dc ∧ oc.guard = none ∧ ∃ e ∈ oc.after, Region.binds .any e = true ∧ e.on = p.b
  ty : P.underlying p.T = some (.slice p.e)
  info : (P.info? p.e).map (fun i => (i.zero, i.size, i.bytes)) = some (some p.z, p.sz, p.bytes)
  zs : p.z.cells.size = p.sz
  sz0 : 0 < p.sz
  few : p.bytes ≤ 100
  src : a0.eval (.tmp p.X) = p.x
  reads : Reads w0 p.e p.sz p.x p.xs
  each : ∀ y ∈ p.xs, y.length = p.sz
  one : ∀ y ∈ p.xs, ∀ u ∈ y, u.oneCell' = true
  len : p.xs.length ≤ 100000000
  room : p.db < a0.tmps.size
structure Dist (ps : List CP) : Prop where
  same : ∀ p ∈ ps, ∀ q ∈ ps, p.b = q.b → p = q
  ops : ∀ p ∈ ps, ∀ q ∈ ps, p.b ≠ q.c ∧ (p.b ≠ q.b → p.c ≠ q.c)
  slots : ∀ p ∈ ps, ∀ q ∈ ps, p.db ≠ q.dc ∧ (p.b ≠ q.b → p.db ≠ q.db ∧ p.dc ≠ q.dc)
  src : ∀ p ∈ ps, ∀ q ∈ ps, p.X ≠ q.db ∧ p.X ≠ q.dc
def curV (st : Nat → Bool) (vs : Nat → Value) (p : CP) : Value := if st p.c then vs p.dc else if st p.b then vs p.db else .slice none 0 0
def curX (st : Nat → Bool) (p : CP) : List (List Value) := if st p.c then p.xs else []
def slotsOf (st : Nat → Bool) (ps : List CP) : List Nat := ps.flatMap fun p => (if st p.b then [p.db] else []) ++ (if st p.c then [p.dc] else [])
theorem mem_slots {st : Nat → Bool} {ps : List CP} {k : Nat} : k ∈ slotsOf st ps ↔ ∃ p ∈ ps, (st p.b = true ∧ k = p.db) ∨ (st p.c = true ∧ k = p.dc) := by
  unfold slotsOf
  rw [List.mem_flatMap]
  constructor
  · rintro ⟨p, hp, h⟩
    refine ⟨p, hp, ?_⟩
    rcases List.mem_append.1 h with h | h
    · split at h
      · exact .inl ⟨by assumption, by simpa using h⟩
      · cases h
    · split at h
      · exact .inr ⟨by assumption, by simpa using h⟩
      · cases h
  · rintro ⟨p, hp, ⟨h1, h2⟩ | ⟨h1, h2⟩⟩
    · exact ⟨p, hp, List.mem_append_left _ (by simp [h1, h2])⟩
    · exact ⟨p, hp, List.mem_append_right _ (by simp [h1, h2])⟩
structure CI (ps : List CP) (w0 : World) (a0 : Act) (vs : Nat → Value) (st : Nat → Bool) (a : Act) (w : World) : Prop where
  act : a = fill vs (slotsOf st ps) a0
  below : Below w0.heap.size w0 w
  shut : ∀ p ∈ ps, st p.c = true → st p.b = true
  own : ∀ p ∈ ps, OwnR w w0.heap.size p.e p.sz (curV st vs p) (curX st p)
  apart : ∀ p ∈ ps, ∀ q ∈ ps, p.b ≠ q.b → (curV st vs p).ownBlock = none ∨ (curV st vs p).ownBlock ≠ (curV st vs q).ownBlock
section
variable {ps : List CP} {w0 w w' : World} {a0 a : Act} {vs : Nat → Value} {st : Nat → Bool}
theorem CI.step (hd : Dist ps) (h : CI ps w0 a0 vs st a w) {p : CP} (hp : p ∈ ps) {i d : Nat} {v : Value} {X : List (List Value)}
    (hi : (i = p.b ∧ d = p.db ∧ st p.b = false ∧ X = []) ∨ (i = p.c ∧ d = p.dc ∧ st p.b = true ∧ X = p.xs))
    (hown : OwnR w' w0.heap.size p.e p.sz v X) (hg : w.grownBy w' (curV st vs p).ownBlock) (hv : v.ownBlock = (curV st vs p).ownBlock ∨ v.ownBlock = some w.heap.size) :
    CI ps w0 a0 (fun k => if k = d then v else vs k) (fun k => k == i || st k) (a.put (some d) v) w' := by
  have hbc := (hd.ops p hp p hp).1
  have hcp : curV (fun k => k == i || st k) (fun k => if k = d then v else vs k) p = v ∧ curX (fun k => k == i || st k) p = X := by
    rcases hi with ⟨rfl, rfl, h1, rfl⟩ | ⟨rfl, rfl, h1, rfl⟩
    · have hc : st p.c = false := by
        cases hc : st p.c with
        | false => rfl
        | true => have := h.shut p hp hc; rw [h1] at this; cases this
      have e : (p.c == p.b) = false := by simpa using Ne.symm hbc
      simp [curV, curX, hc, e]
    · simp [curV, curX]
  have hcq : ∀ q ∈ ps, q.b ≠ p.b → curV (fun k => k == i || st k) (fun k => if k = d then v else vs k) q = curV st vs q ∧ curX (fun k => k == i || st k) q = curX st q := by
    intro q hq hne
    have hdi : q.c ≠ i ∧ q.b ≠ i ∧ q.dc ≠ d ∧ q.db ≠ d := by
      rcases hi with ⟨rfl, rfl, _, _⟩ | ⟨rfl, rfl, _, _⟩
      · exact ⟨Ne.symm (hd.ops p hp q hq).1, hne, Ne.symm (hd.slots p hp q hq).1, ((hd.slots q hq p hp).2 hne).1⟩
      · exact ⟨(hd.ops q hq p hp).2 hne, (hd.ops q hq p hp).1, ((hd.slots q hq p hp).2 hne).2, (hd.slots q hq p hp).1⟩
    have e1 : (q.c == i) = false := by simpa using hdi.1
    have e2 : (q.b == i) = false := by simpa using hdi.2.1
    simp [curV, curX, e1, e2, hdi.2.2.1, hdi.2.2.2]
  have hib : ∀ q ∈ ps, q.b = i → q = p ∧ d = p.db := fun q hq e => by
    rcases hi with ⟨rfl, rfl, _, _⟩ | ⟨rfl, rfl, _, _⟩
    · exact ⟨hd.same q hq p hp e, rfl⟩
    · exact absurd e (hd.ops q hq p hp).1
  have hic : ∀ q ∈ ps, q.c = i → q = p ∧ d = p.dc ∧ st p.b = true := fun q hq e => by
    rcases hi with ⟨rfl, rfl, _, _⟩ | ⟨rfl, rfl, h1, _⟩
    · exact absurd e (Ne.symm (hd.ops p hp q hq).1)
    · refine ⟨hd.same q hq p hp ?_, rfl, h1⟩
      by_cases hqp : q.b = p.b
      · exact hqp
      · exact absurd e ((hd.ops q hq p hp).2 hqp)
  refine ⟨?_, h.below.trans ((h.own p hp).below hg (Nat.le_refl _) h.below.size), fun q hq hc => ?_, fun q hq => ?_, fun q hq r hr hne => ?_⟩
  · rw [h.act, fill_put]
    refine fill_ext a0 (fun k => ?_) (fun _ _ => rfl)
    rw [List.mem_cons, mem_slots, mem_slots]
    constructor
    · rintro (rfl | ⟨q, hq, ⟨h1, h2⟩ | ⟨h1, h2⟩⟩)
      · rcases hi with ⟨rfl, rfl, _, _⟩ | ⟨rfl, rfl, _, _⟩
        · exact ⟨p, hp, .inl ⟨by simp, rfl⟩⟩
        · exact ⟨p, hp, .inr ⟨by simp, rfl⟩⟩
      · exact ⟨q, hq, .inl ⟨by simp [h1], h2⟩⟩
      · exact ⟨q, hq, .inr ⟨by simp [h1], h2⟩⟩
    · rintro ⟨q, hq, ⟨h1, h2⟩ | ⟨h1, h2⟩⟩
      · simp only [Bool.or_eq_true, beq_iff_eq] at h1
        rcases h1 with h1 | h1
        · obtain ⟨rfl, e⟩ := hib q hq h1
          exact .inl (h2.trans e.symm)
        · exact .inr ⟨q, hq, .inl ⟨h1, h2⟩⟩
      · simp only [Bool.or_eq_true, beq_iff_eq] at h1
        rcases h1 with h1 | h1
        · obtain ⟨rfl, e, _⟩ := hic q hq h1
          exact .inl (h2.trans e.symm)
        · exact .inr ⟨q, hq, .inr ⟨h1, h2⟩⟩
  · simp only [Bool.or_eq_true, beq_iff_eq] at hc ⊢
    rcases hc with hc | hc
    · obtain ⟨rfl, _, h1⟩ := hic q hq hc
      exact .inr h1
    · exact .inr (h.shut q hq hc)
  · by_cases hqp : q.b = p.b
    · obtain rfl := hd.same q hq p hp hqp
      rw [hcp.1, hcp.2]; exact hown
    · rw [(hcq q hq hqp).1, (hcq q hq hqp).2]
      exact (h.own q hq).kept hg (h.apart q hq p hp hqp)
  · by_cases hqp : q.b = p.b
    · obtain rfl := hd.same q hq p hp hqp
      rw [hcp.1, (hcq r hr (Ne.symm hne)).1]
      rcases hv with hv | hv
      · rw [hv]; exact h.apart q hq r hr hne
      · refine .inr ?_
        rw [hv]
        intro e
        have := ((h.own r hr).lt _ e.symm).2
        omega
    · by_cases hrp : r.b = p.b
      · obtain rfl := hd.same r hr p hp hrp
        rw [hcp.1, (hcq q hq hqp).1]
        rcases hv with hv | hv
        · rw [hv]; exact h.apart q hq r hr hne
        · refine .inr ?_
          rw [hv]
          intro e
          have := ((h.own q hq).lt _ e).2
          omega
      · rw [(hcq q hq hqp).1, (hcq r hr hrp).1]
        exact h.apart q hq r hr hne
end
theorem wp_build_none {P : Program} {o : Oper} {a : Act} {w : World} {K : Act → World → Prop} {Q : Exit → Act → World → Prop} {T e : TypeId} {z : Value} {sz bytes : Nat} (ho : o.op = .buildSlice T 0 #[]) (hT : P.underlying T = some (.slice e)) (hi : (P.info? e).map (fun i => (i.zero, i.size, i.bytes)) = some (some z, sz, bytes))
    (h : K (a.put o.dst (.slice (some ⟨w.heap.size, 0, none⟩) 0 0)) (w.alloc (.cells #[] e))) : o.wp P a w K Q := by
  obtain ⟨i, hi', hz0, hz1, hz2⟩ := info_parts hi
  have hr : (Instr.buildSlice T 0 #[]).run P w = .ok (.slice (some ⟨w.heap.size, 0, none⟩) 0 0) (w.alloc (.cells #[] e)) := by
    have e : (Array.map (fun _ => (default : Value)) (Array.range 0)) = #[] := Array.eq_empty_of_size_eq_zero (by simp)
    simp [Instr.buildSlice, run_underlying hT, sizeOf, typeInfo, hi', Instr.fill, newRow, e]
  unfold Oper.wp execOp
  simp only [ho, Sem.run_bind, List.map_toArray, List.map_nil, hr, Result.andThen_ok]
  exact h
section
variable {P : Program} {S : World → Prop} {Q : Exit → Act → World → Prop} {ops : Array Oper} {ps : List CP} {w0 : World} {a0 : Act}
def opsOf (ps : List CP) : List Nat := ps.flatMap fun p => [p.b, p.c]
theorem held_of_copies {L : Array Bool} (hB : groupB .any ops L (opsOf ps) = true) (hd : Dist ps) (hok : ∀ p ∈ ps, CPOk P ops w0 a0 p) (hS : ∀ w', Below w0.heap.size w0 w' → S w') (fuel : Nat)
    (hend : ∀ vs w', Below w0.heap.size w0 w' → (∀ p ∈ ps, OwnR w' w0.heap.size p.e p.sz (vs p.dc) p.xs) → (∀ p ∈ ps, ∀ q ∈ ps, p.b ≠ q.b → (vs p.dc).ownBlock = none ∨ (vs p.dc).ownBlock ≠ (vs q.dc).ownBlock) → wpAnyH P .any ops Q S fuel (marks L (opsOf ps)) (fill vs (slotsOf (fun _ => true) ps) a0) w') :
    wpAnyH P .any ops Q S ((opsOf ps).length + fuel) L a0 w0 := by
  have h0 : CI ps w0 a0 (fun _ => undef) (fun _ => false) a0 w0 := by
    refine ⟨?_, Below.refl _ _, fun p _ h => (by cases h), fun p _ => OwnR.nil _ _ _ _, fun p _ q _ _ => .inl rfl⟩
    have e : slotsOf (fun _ => false) ps = [] := by
      rw [List.eq_nil_iff_forall_not_mem]
      intro k hk
      obtain ⟨_, _, ⟨h, _⟩ | ⟨h, _⟩⟩ := mem_slots.1 hk <;> cases h
    rw [e]; rfl
  have H := held_of_group (P := P) (md := .any) (S := S) (Q := Q) (G := opsOf ps) (L := L) hB fuel (fun st a w => ∃ vs, CI ps w0 a0 vs st a w) (fun st a w ⟨vs, h⟩ => hS w h.below) (fun st a w i hi hsi hdep ⟨vs, h⟩ => by
    obtain ⟨p, hp, hpi⟩ := List.mem_flatMap.1 hi
    have ok := hok p hp
    have hpi' : i = p.b ∨ i = p.c := by simpa using hpi
    rcases hpi' with rfl | rfl
    · obtain ⟨ob, hob, hop, hdst, hgd⟩ := ok.ob
      unfold wpOp
      simp only [hob]
      rw [if_pos (by simp [Region.wanted, hgd])]
      refine .inl (wp_build_none hop ok.ty ok.info ?_)
      rw [hdst]
      have hc : st p.c = false := by
        cases hc : st p.c with
        | false => rfl
        | true => have := h.shut p hp hc; rw [hsi] at this; cases this
      refine ⟨_, h.step hd hp (.inl ⟨rfl, rfl, hsi, rfl⟩) ⟨⟨by simp, .inr ⟨w.heap.size, 0, #[], rfl, h.below.size, heap_alloc_new w _, Nat.le_refl _, by decide, by simp, by simp⟩⟩, fun x hx => (by cases hx)⟩ ?_ (.inr rfl)⟩
      exact World.grownBy_alloc _ _ _
    · obtain ⟨oc, hoc, hop, hdst, hgd, e, he, heb, heo⟩ := ok.oc
      have hb : st p.b = true := by
        have h2 := hdep oc hoc e he heb (heo ▸ List.mem_flatMap.2 ⟨p, hp, by simp⟩)
        rw [heo] at h2
        exact h2
      unfold wpOp
      simp only [hoc]
      rw [if_pos (by simp [Region.wanted, hgd])]
      have hcv : curV st vs p = vs p.db := by simp [curV, hsi, hb]
      have hcx : curX st p = [] := by simp [curX, hsi]
      have hown := h.own p hp
      rw [hcv, hcx] at hown
      have hX : p.X ∉ slotsOf st ps := fun hm => by
        obtain ⟨q, hq, ⟨_, h2⟩ | ⟨_, h2⟩⟩ := mem_slots.1 hm
        · exact (hd.src p hp q hq).1 h2
        · exact (hd.src p hp q hq).2 h2
      have hrd : Reads w p.e p.sz p.x p.xs := ok.reads.keep fun g cur hg => h.below.block g (by
        rcases Nat.lt_or_ge g w0.heap.size with hl | hl
        · exact hl
        · rw [Array.getElem?_eq_none hl] at hg; cases hg)
      refine .inl (wp_append_row (.tmp p.db) (.tmp p.X) hop ok.ty ok.info ok.zs ok.sz0 ok.few (v := vs p.db) (x := p.x) (by rw [h.act]; exact fill_at vs a0 (mem_slots.2 ⟨p, hp, .inl ⟨hb, rfl⟩⟩) ok.room) (by rw [h.act, fill_far vs a0 hX]; exact ok.src) hown hrd ok.each ok.one (by simpa using ok.len) h.below.size fun v' w' h1 h2 h3 => ?_)
      rw [hdst]
      exact ⟨_, h.step hd hp (.inr ⟨rfl, rfl, hb, rfl⟩) (by simpa using h1) (by rw [hcv]; exact h2) (by rw [hcv]; exact h3)⟩) (fun st a w hall ⟨vs, h⟩ => by
    have hb : ∀ p ∈ ps, st p.b = true := fun p hp => hall p.b (List.mem_flatMap.2 ⟨p, hp, by simp⟩)
    have hc : ∀ p ∈ ps, st p.c = true := fun p hp => hall p.c (List.mem_flatMap.2 ⟨p, hp, by simp⟩)
    have e : a = fill vs (slotsOf (fun _ => true) ps) a0 := by
      rw [h.act]
      refine fill_ext a0 (fun k => ?_) (fun _ _ => rfl)
      rw [mem_slots, mem_slots]
      exact ⟨fun ⟨p, hp, h1⟩ => ⟨p, hp, h1.imp (fun h2 => ⟨rfl, h2.2⟩) (fun h2 => ⟨rfl, h2.2⟩)⟩, fun ⟨p, hp, h1⟩ => ⟨p, hp, h1.imp (fun h2 => ⟨hb p hp, h2.2⟩) (fun h2 => ⟨hc p hp, h2.2⟩)⟩⟩
    rw [e]
    refine hend vs w h.below (fun p hp => ?_) (fun p hp q hq hne => ?_)
    · have h1 := h.own p hp
      simp only [curV, curX, hc p hp, if_true] at h1
      exact h1
    · have h1 := h.apart p hp q hq hne
      simp only [curV, hc p hp, hc q hq, if_true] at h1
      exact h1) (opsOf ps).length (fun _ => false) a0 w0 (by simp) (fun i _ h => by cases h) ⟨_, h0⟩
  have e : (opsOf ps).filter (fun _ => false) = [] := by simp
  rw [e] at H
  exact H
end

/-! The region. -/
/-- Free operations, walked in a told order; then E. -/
def wpFree (P : Program) (S : World → Prop) (E : Act → Prop) : List Oper → Act → Prop
  | [], a => E a
  | o :: l, a => ∃ v, (∀ z, S z → (execOp a.eval o).run P z = .ok (.value v) z) ∧ wpFree P S E l (a.put o.dst v)
theorem wpFree_take {P : Program} {S : World → Prop} {E : Act → Prop} {o : Oper} {l : List Oper} {a : Act} (v : Value) (hv : ∀ z, S z → (execOp a.eval o).run P z = .ok (.value v) z) (h : wpFree P S E l (a.put o.dst v)) : wpFree P S E (o :: l) a := ⟨v, hv, h⟩
theorem wpFree_end {P : Program} {S : World → Prop} {E : Act → Prop} {a : Act} (h : E a) : wpFree P S E [] a := h
def pickL : List Nat → List Oper → List Oper
  | [], _ => []
  | k :: ks, l => match l[k]? with
    | some o => o :: pickL ks l
    | none => pickL ks l
def freeB (md : Region.Mode) (ops : Array Oper) : List Nat → Array Bool → Bool
  | [], _ => true
  | k :: ks, listed => (Region.ready md ops listed).contains k && Region.free md ops listed k && freeB md ops ks (listed.setIfInBounds k true)
section
variable {P : Program} {md : Region.Mode} {S : World → Prop} {N : Act → World → Prop} {Q : Exit → Act → World → Prop}
theorem held_of_free {ops : Array Oper} {l0 : List Oper} (hops : ops = l0.toArray) (hsel : Region.noSelect ops = true) (hg : ∀ (k : Nat) (o : Oper), ops[k]? = some o → o.guard = none) (fuel : Nat) {E : Act → Prop} {w : World} (hS : S w) :
    ∀ (ks : List Nat) (listed : Array Bool) (a : Act), (∀ x ∈ ks, x < l0.length) → freeB md ops ks listed = true → (∀ a', E a' → wpAnyH P md ops (NP N) S fuel (marks listed ks) a' w) → wpFree P S E (pickL ks l0) a →
    wpAnyH P md ops (NP N) S (ks.length + fuel) listed a w
  | [], listed, a, _, _, hE, h => by
    have h1 := hE a h
    rw [List.length_nil, Nat.zero_add]
    exact h1
  | k :: ks, listed, a, hl, hB, hE, h => by
    have hk : k < l0.length := hl k (by simp)
    have h0 : ops[k]? = some l0[k] := by rw [hops]; simp [hk]
    have e : pickL (k :: ks) l0 = l0[k] :: pickL ks l0 := by
      show (match l0[k]? with | some o => _ | none => _) = _
      rw [List.getElem?_eq_getElem hk]
    rw [e] at h
    simp only [freeB, Bool.and_eq_true] at hB
    obtain ⟨v, hv, hr⟩ := h
    have hw : Region.wanted l0[k] (yielded ops a.tmps) = true := by simp [Region.wanted, hg k _ h0]
    rw [List.length_cons, show ks.length + 1 + fuel = (ks.length + fuel) + 1 by omega]
    exact wpAnyH_take h0 hsel hB.1.2 hB.1.1 (fun _ _ _ h => h.elim) (.inl ⟨hw, hv⟩) hS (held_of_free hops hsel hg fuel hS ks _ _ (fun x hx => hl x (by simp [hx])) hB.2 hE hr)
theorem region_of_held {id : Nat} {l : List Oper} {a : Act} {w : World} (o : Oper) (hm : P.follows .mixedOrders = true) (ho : l.getLast? = some o) (hg : ∀ (j : Nat) (x : Oper), l.dropLast.toArray[j]? = some x → x.guard = none ∧ ∀ e ∈ x.after, e.on < j) (hog : o.guard = none) (hoa : ∀ e ∈ o.after, e.on < l.dropLast.toArray.size)
    (hwt : ∀ i, i < l.dropLast.toArray.size → (∃ e ∈ o.after, Region.binds .any e = true ∧ e.on = i) ∨ ∃ (j : Nat) (x : Oper), i < j ∧ l.dropLast.toArray[j]? = some x ∧ ∃ e ∈ x.after, Region.binds .any e = true ∧ e.on = i)
    (hH : wpAnyH P .any l.dropLast.toArray (NP fun a' w' => o.wp P a' w' (fun a'' w'' => Q .normal a'' w'') Q) S l.dropLast.toArray.size (Array.replicate l.dropLast.toArray.size false) a w.drew) : (Code.region id l.toArray true).wp P Q a w := by
  have hll : l = l.dropLast ++ [o] := by
    have hne : l ≠ [] := by rintro rfl; simp at ho
    rw [List.getLast?_eq_some_getLast hne] at ho
    injection ho with ho
    rw [← ho]; exact (List.dropLast_concat_getLast hne).symm
  have hL := lift_any (md := .any) (P := P) (Q := Q) (o := o) (fun k x hx => (hg k x hx).1) (fun j x hx => (hg j x hx).2) hog hoa hwt (fun _ _ h => h) _ _ _ _ (by simp) (fun j x _ hj => by
    rw [Array.getD_eq_getD_getElem?, Array.getElem?_replicate] at hj
    split at hj <;> cases hj) (wpAny_of_held _ _ _ _ hH)
  refine wp_region_any hm ?_
  have e1 : l.toArray = l.dropLast.toArray.push o := by rw [List.push_toArray]; exact congrArg List.toArray hll
  rw [e1]
  have e2 : Array.replicate (l.dropLast.toArray.push o).size false = (Array.replicate l.dropLast.toArray.size false).push false := by
    rw [Array.size_push, ← Array.replicate_succ]
  rw [e2, Array.size_push]
  exact hL
def copiesB (ops : Array Oper) (o : Oper) (ks : List Nat) (G : List Nat) (ks2 : List (Nat × Bool)) : Bool :=
  Region.noSelect ops && (List.range ops.size).all (fun j => match ops[j]? with | some x => x.guard.isNone && x.after.all fun e => decide (e.on < j) | none => true) && o.guard.isNone && o.after.all (fun e => decide (e.on < ops.size)) &&
  (List.range ops.size).all (fun i => (o.after.any fun e => Region.binds .any e && e.on == i) || (List.range ops.size).any fun j => decide (i < j) && match ops[j]? with | some x => x.after.any fun e => Region.binds .any e && e.on == i | none => false) && ks.all (fun x => decide (x < ops.size)) && ks2.all (fun x => decide (x.1 < ops.size)) &&
  decide (ks.length + (G.length + ks2.length) = ops.size) && freeB .any ops ks (Array.replicate ops.size false) && groupB .any ops (marks (Array.replicate ops.size false) ks) G && mixQ .any ops ks2 (marks (marks (Array.replicate ops.size false) ks) G)
theorem wp_region_copies (S : World → Prop) {id : Nat} {l : List Oper} {a : Act} {w : World} (ks : List Nat) (G : List Nat) (ks2 : List (Nat × Bool)) (o : Oper) (hm : P.follows .mixedOrders = true) (ho : l.getLast? = some o) (hB : copiesB l.dropLast.toArray o ks G ks2 = true) (hS : ∀ w', Below w.drew.heap.size w.drew w' → S w')
    (h : wpFree P S (fun a1 => ∃ ps, opsOf ps = G ∧ Dist ps ∧ (∀ p ∈ ps, CPOk P l.dropLast.toArray w.drew a1 p) ∧
      ∀ vs w', Below w.drew.heap.size w.drew w' → (∀ p ∈ ps, OwnR w' w.drew.heap.size p.e p.sz (vs p.dc) p.xs) → (∀ p ∈ ps, ∀ q ∈ ps, p.b ≠ q.b → (vs p.dc).ownBlock = none ∨ (vs p.dc).ownBlock ≠ (vs q.dc).ownBlock) →
        wpMix P S (fun a' w' => o.wp P a' w' (fun a'' w'' => Q .normal a'' w'') Q) (permL ks2 l.dropLast) (fill vs (slotsOf (fun _ => true) ps) a1) w') (pickL ks l.dropLast) a) : (Code.region id l.toArray true).wp P Q a w := by
  simp only [copiesB, Bool.and_eq_true, decide_eq_true_eq] at hB
  obtain ⟨⟨⟨⟨⟨⟨⟨⟨⟨⟨hsel, hops⟩, hog⟩, hoa⟩, hwt⟩, hks⟩, hks2⟩, hlen⟩, hfree⟩, hgrp⟩, hmix⟩ := hB
  have hop : ∀ (j : Nat) (x : Oper), l.dropLast.toArray[j]? = some x → x.guard = none ∧ ∀ e ∈ x.after, e.on < j := by
    intro j x hx
    have h1 := List.all_eq_true.1 hops j (List.mem_range.2 (Array.getElem?_eq_some_iff.1 hx).1)
    rw [hx] at h1
    simp only [Bool.and_eq_true] at h1
    exact ⟨by simpa using h1.1, fun e he => by simpa using Array.all_eq_true'.1 h1.2 e he⟩
  refine region_of_held (S := S) o hm ho hop (by simpa using hog) (fun e he => by simpa using Array.all_eq_true'.1 hoa e he) (fun i hi => by
    have h1 := List.all_eq_true.1 hwt i (List.mem_range.2 hi)
    simp only [Bool.or_eq_true] at h1
    rcases h1 with h1 | h1
    · obtain ⟨e, he, h2⟩ := Array.any_eq_true'.1 h1
      simp only [Bool.and_eq_true, beq_iff_eq] at h2
      exact .inl ⟨e, he, h2.1, h2.2⟩
    · obtain ⟨j, _, h2⟩ := List.any_eq_true.1 h1
      simp only [Bool.and_eq_true, decide_eq_true_eq] at h2
      cases hx : l.dropLast.toArray[j]? with
      | none => rw [hx] at h2; cases h2.2
      | some x =>
        rw [hx] at h2
        obtain ⟨e, he, h3⟩ := Array.any_eq_true'.1 h2.2
        simp only [Bool.and_eq_true, beq_iff_eq] at h3
        exact .inr ⟨j, x, h2.1, hx, e, he, h3.1, h3.2⟩) ?_
  rw [← hlen]
  refine held_of_free (l0 := l.dropLast) rfl hsel (fun k x hx => (hop k x hx).1) (G.length + ks2.length) (hS _ (Below.refl _ _)) ks _ a (fun x hx => by
    have := List.all_eq_true.1 hks x hx
    simpa using this) (by rw [hlen]; exact hfree) (fun a1 ⟨ps, hpG, hd, hok, hk⟩ => ?_) h
  rw [hlen]
  subst hpG
  refine held_of_copies hgrp hd hok hS ks2.length fun vs w' hb h1 h2 => ?_
  exact held_of_perm (l0 := l.dropLast) rfl hsel (fun k x hx => (hop k x hx).1) ks2 _ _ w' (fun x hx => by
    have := List.all_eq_true.1 hks2 x hx
    simpa using this) hmix (hS _ hb) (hk vs w' hb h1 h2)
end
end Go.Proofs.YtdbcjiapbehacaaGreatDoor.Vf
