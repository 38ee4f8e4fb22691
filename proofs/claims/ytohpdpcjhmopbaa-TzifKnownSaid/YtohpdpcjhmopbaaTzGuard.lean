/-
  A region that draws its order, with guarded operations ('&&', '||'), and ends in one operation that waits for all others: one walk in an order that is told.
-/
import Derived.Test.YtohpdpcjhmopbaaTzPerm
namespace Go.Proofs.Ytohpdpcjhmopbaa.Tz
open Go

section
variable {P : Program} {md : Region.Mode} {S : World → Prop} {N : Act → World → Prop} {Q : Exit → Act → World → Prop} {ops : Array Oper} {o : Oper}
/-- One walk; an operation whose guard says otherwise is passed over. -/
def wpMixG (P : Program) (ops : Array Oper) (S : World → Prop) (N : Act → World → Prop) : List (Oper × Bool) → Act → World → Prop
  | [], a, w => N a w
  | (o, true) :: l, a, w => ∃ v, YieldsIf P ops S o v a ∧ wpMixG P ops S N l (a.put o.dst v) w
  | (o, false) :: l, a, w => (Region.wanted o (yielded ops a.tmps) = true ∧ o.wp P a w (fun a' w' => S w' ∧ wpMixG P ops S N l a' w') (NP N)) ∨ (Region.wanted o (yielded ops a.tmps) = false ∧ wpMixG P ops S N l (a.put o.dst undef) w)
theorem held_of_guard {l0 : List Oper} (hops : ops = l0.toArray) (hsel : Region.noSelect ops = true) :
    ∀ (ks : List (Nat × Bool)) (listed : Array Bool) (a : Act) (w : World), (∀ x ∈ ks, x.1 < l0.length) → mixQ md ops ks listed = true → S w → wpMixG P ops S N (permL ks l0) a w →
    wpAnyH P md ops (NP N) S ks.length listed a w
  | [], listed, a, w, _, hB, _, h => ⟨by simpa [mixQ] using hB, h⟩
  | (k, true) :: ks, listed, a, w, hl, hB, hS, h => by
    have hk : k < l0.length := hl (k, true) (by simp)
    have h0 : ops[k]? = some l0[k] := by rw [hops]; simp [hk]
    have e : permL ((k, true) :: ks) l0 = (l0[k], true) :: permL ks l0 := by
      show (match l0[k]? with | some o => _ | none => _) = _
      rw [List.getElem?_eq_getElem hk]
    rw [e] at h
    simp only [mixQ, Bool.and_eq_true] at hB
    obtain ⟨v, hv, hr⟩ := h
    exact wpAnyH_take h0 hsel hB.1.2 hB.1.1 (fun _ _ _ h => h.elim) hv hS (held_of_guard hops hsel ks _ _ _ (fun x hx => hl x (by simp [hx])) hB.2 hS hr)
  | (k, false) :: ks, listed, a, w, hl, hB, hS, h => by
    have hk : k < l0.length := hl (k, false) (by simp)
    have h0 : ops[k]? = some l0[k] := by rw [hops]; simp [hk]
    have e : permL ((k, false) :: ks) l0 = (l0[k], false) :: permL ks l0 := by
      show (match l0[k]? with | some o => _ | none => _) = _
      rw [List.getElem?_eq_getElem hk]
    rw [e] at h
    simp only [mixQ, Bool.and_eq_true, decide_eq_true_eq] at hB
    refine wpAnyH_all hB.1 (by simp) fun i hi => ?_
    obtain rfl : i = k := by simpa using hi
    unfold wpOp
    rcases h with ⟨hw, h⟩ | ⟨hw, h⟩
    · simp only [h0, hw, if_true]
      exact .inl (wp_of_NP (fun a' w' h' => ⟨h'.1, held_of_guard hops hsel ks _ _ _ (fun x hx => hl x (by simp [hx])) hB.2 h'.1 h'.2⟩) h)
    · simp only [h0, hw, Bool.false_eq_true, if_false]
      exact ⟨hS, held_of_guard hops hsel ks _ _ _ (fun x hx => hl x (by simp [hx])) hB.2 hS h⟩
theorem wanted_push {x : Oper} {tmps : Array Value} (hg : ∀ (j : Nat) (b : Bool), x.guard = some (j, b) → j < ops.size) : Region.wanted x (yielded (ops.push o) tmps) = Region.wanted x (yielded ops tmps) := by
  unfold Region.wanted
  cases hx : x.guard with
  | none => rfl
  | some y =>
    obtain ⟨j, b⟩ := y
    have hj := hg j b hx
    have e : yielded (ops.push o) tmps j = yielded ops tmps j := by
      unfold yielded
      rw [Array.getElem?_push, if_neg (by omega)]
    simp only [e]
theorem all_bound {listed : Array Bool} (hs : listed.size = ops.size) (hb : ∀ (j : Nat) (o : Oper), ops[j]? = some o → ∀ e ∈ o.after, Region.binds md e = true → e.on < j) (h : Region.ready md ops listed = []) : ∀ i, i < ops.size → listed.getD i false = true := by
  intro i
  induction i using Nat.strongRecOn with
  | _ i ih =>
    intro hi
    cases hc : listed.getD i false with
    | true => rfl
    | false =>
      have hu : listed.getD i true = false := by
        have hlt : i < listed.size := by omega
        simp [hlt] at hc ⊢; exact hc
      have : i ∈ Region.ready md ops listed := mem_ready.2 ⟨hu, ops[i], Array.getElem?_eq_getElem hi, fun e he hbb => ih e.on (hb i _ (Array.getElem?_eq_getElem hi) e he hbb) (by have := hb i _ (Array.getElem?_eq_getElem hi) e he hbb; omega)⟩
      rw [h] at this; cases this
theorem lift_guard (hgd : ∀ (k : Nat) (x : Oper) (j : Nat) (b : Bool), ops[k]? = some x → x.guard = some (j, b) → j < ops.size) (hb : ∀ (j : Nat) (x : Oper), ops[j]? = some x → ∀ e ∈ x.after, Region.binds md e = true → e.on < j) (ho : o.guard = none) (he : ∀ e ∈ o.after, e.on < ops.size) (hw : ∀ i, i < ops.size → (∃ e ∈ o.after, Region.binds md e = true ∧ e.on = i) ∨ ∃ (j : Nat) (x : Oper), i < j ∧ ops[j]? = some x ∧ ∃ e ∈ x.after, Region.binds md e = true ∧ e.on = i)
    (hN : ∀ a w, N a w → o.wp P a w (fun a' w' => Q .normal a' w') Q) : ∀ (f : Nat) (listed : Array Bool) (a : Act) (w : World), listed.size = ops.size → Shut md ops listed → wpAny P md ops (NP N) f listed a w → wpAny P md (ops.push o) Q (f + 1) (listed.push false) a w
  | 0, listed, a, w, hs, _, h => last_any ho he hN hs (all_bound hs hb h.1) h.2 0
  | f + 1, listed, a, w, hs, hc, h => by
    by_cases hr : Region.ready md ops listed = []
    · exact last_any ho he hN hs (all_bound hs hb hr) (h.1 hr) (f + 1)
    · obtain ⟨k, hk⟩ := List.exists_mem_of_ne_nil _ hr
      obtain ⟨hku, ok, hok, hka⟩ := mem_ready.1 hk
      have hkl : k < ops.size := (Array.getElem?_eq_some_iff.1 hok).1
      have up : ∀ (j : Nat) (x : Oper), ops[j]? = some x → (ops.push o)[j]? = some x := fun j x hx => by
        rw [Array.getElem?_push, if_neg (by have := (Array.getElem?_eq_some_iff.1 hx).1; omega)]; exact hx
      refine ⟨fun h0 => ?_, fun i hi => ?_⟩
      · have : k ∈ Region.ready md (ops.push o) (listed.push false) := mem_ready.2 ⟨by rw [getD_push_lt (by omega)]; exact hku, ok, up k ok hok, fun e hee hbb => by
          rw [getD_push_lt (by have := hb k ok hok e hee hbb; omega)]; exact hka e hee hbb⟩
        rw [h0] at this; cases this
      · obtain ⟨hu, oi, hoi, hall⟩ := mem_ready.1 hi
        have hlt : i < (ops.push o).size := (Array.getElem?_eq_some_iff.1 hoi).1
        rw [Array.size_push] at hlt
        rcases Nat.lt_or_ge i ops.size with hl | hl
        · have hoi' : ops[i]? = some oi := by rw [Array.getElem?_push, if_neg (by omega)] at hoi; exact hoi
          rw [getD_push_lt (by omega)] at hu
          have hi' : i ∈ Region.ready md ops listed := mem_ready.2 ⟨hu, oi, hoi', fun e hee hbb => by
            have := hall e hee hbb
            rwa [getD_push_lt (by have := hb i oi hoi' e hee hbb; omega)] at this⟩
          have h2 := h.2 i hi'
          have hwt : Region.wanted oi (yielded (ops.push o) a.tmps) = Region.wanted oi (yielded ops a.tmps) := wanted_push fun j b hx => hgd i oi j b hoi' hx
          unfold wpOp at h2 ⊢
          simp only [hoi', hoi, hwt] at h2 ⊢
          rw [push_set (by omega)]
          split at h2
          · rename_i hwi
            rw [if_pos hwi]
            rcases h2 with h2 | ⟨_, _, _, h2⟩
            · exact .inl (wp_of_NP (fun a' w' h3 => lift_guard hgd hb ho he hw hN f _ _ _ (by simpa using hs) (hc.set hi') h3) h2)
            · exact h2.elim
          · rename_i hwi
            rw [if_neg hwi]
            exact lift_guard hgd hb ho he hw hN f _ _ _ (by simpa using hs) (hc.set hi') h2
        · obtain rfl : i = ops.size := by omega
          have hoo : oi = o := by simpa using hoi.symm
          subst hoo
          have hk2 := hc.all hw (fun e hee hbb => by
            have h3 := hall e hee hbb
            rwa [getD_push_lt (by have := he e hee; omega)] at h3) k hkl
          rw [getD_flip (by omega) false true, hku] at hk2
          cases hk2
def guardIn (n : Nat) (x : Oper) : Bool := match x.guard with | none => true | some y => decide (y.1 < n)
def guardTailB (ops : Array Oper) (o : Oper) (ks : List (Nat × Bool)) : Bool :=
  Region.noSelect ops && (List.range ops.size).all (fun j => match ops[j]? with | some x => guardIn ops.size x && x.after.all fun e => !Region.binds .any e || decide (e.on < j) | none => true) && o.guard.isNone && o.after.all (fun e => decide (e.on < ops.size)) &&
  (List.range ops.size).all (fun i => (o.after.any fun e => Region.binds .any e && e.on == i) || (List.range ops.size).any fun j => decide (i < j) && match ops[j]? with | some x => x.after.any fun e => Region.binds .any e && e.on == i | none => false) && ks.all (fun x => decide (x.1 < ops.size)) && mixQ .any ops ks (Array.replicate ops.size false)
theorem wp_region_guard (S : World → Prop) {id : Nat} {l : List Oper} {a : Act} {w : World} (ks : List (Nat × Bool)) (o : Oper) (hm : P.follows .mixedOrders = true) (ho : l.getLast? = some o) (hB : guardTailB l.dropLast.toArray o ks = true) (hkl : ks.length = l.dropLast.length) (hS : S w.drew)
    (h : wpMixG P l.dropLast.toArray S (fun a' w' => o.wp P a' w' (fun a'' w'' => Q .normal a'' w'') Q) (permL ks l.dropLast) a w.drew) : (Code.region id l.toArray true).wp P Q a w := by
  simp only [guardTailB, Bool.and_eq_true] at hB
  obtain ⟨⟨⟨⟨⟨⟨hsel, hops⟩, hog⟩, hoa⟩, hwt⟩, hks⟩, hmix⟩ := hB
  have hop : ∀ (j : Nat) (x : Oper), l.dropLast.toArray[j]? = some x → guardIn l.dropLast.toArray.size x = true ∧ ∀ e ∈ x.after, Region.binds .any e = true → e.on < j := by
    intro j x hx
    have h1 := List.all_eq_true.1 hops j (List.mem_range.2 (Array.getElem?_eq_some_iff.1 hx).1)
    rw [hx] at h1
    simp only [Bool.and_eq_true] at h1
    exact ⟨h1.1, fun e he hbb => by
      have h2 := Array.all_eq_true'.1 h1.2 e he
      rw [hbb] at h2
      simpa using h2⟩
  have hll : l = l.dropLast ++ [o] := by
    have hne : l ≠ [] := by rintro rfl; simp at ho
    rw [List.getLast?_eq_some_getLast hne] at ho
    injection ho with ho
    rw [← ho]; exact (List.dropLast_concat_getLast hne).symm
  have hH := held_of_guard (md := .any) (P := P) (S := S) (l0 := l.dropLast) rfl hsel ks (Array.replicate l.dropLast.toArray.size false) a w.drew (fun x hx => by
    have := List.all_eq_true.1 hks x hx
    simpa using this) hmix hS h
  rw [hkl, show l.dropLast.length = l.dropLast.toArray.size from rfl] at hH
  have hL := lift_guard (md := .any) (P := P) (Q := Q) (o := o) (fun k x j b hx hgx => by
    have h1 := (hop k x hx).1
    unfold guardIn at h1
    rw [hgx] at h1
    simpa using h1) (fun j x hx => (hop j x hx).2) (by simpa using hog) (fun e he => by simpa using Array.all_eq_true'.1 hoa e he) (fun i hi => by
    have h1 := List.all_eq_true.1 hwt i (List.mem_range.2 hi)
    simp only [Bool.or_eq_true] at h1
    rcases h1 with h1 | h1
    · obtain ⟨e, he, h2⟩ := Array.any_eq_true'.1 h1
      simp only [Bool.and_eq_true, beq_iff_eq] at h2
      exact .inl ⟨e, he, h2.1, h2.2⟩
    · obtain ⟨j, _, h2⟩ := List.any_eq_true.1 h1
      simp only [Bool.and_eq_true, decide_eq_true_eq] at h2
      cases hx : l.dropLast.toArray[j]? with
      | none => rw [hx] at h2; cases h2.2
      | some x =>
        rw [hx] at h2
        obtain ⟨e, he, h3⟩ := Array.any_eq_true'.1 h2.2
        simp only [Bool.and_eq_true, beq_iff_eq] at h3
        exact .inr ⟨j, x, h2.1, hx, e, he, h3.1, h3.2⟩) (fun _ _ h => h) _ _ _ _ (by simp) (fun j x _ hj => by
    rw [Array.getD_eq_getD_getElem?, Array.getElem?_replicate] at hj
    split at hj <;> cases hj) (wpAny_of_held _ _ _ _ hH)
  refine wp_region_any hm ?_
  have e1 : l.toArray = l.dropLast.toArray.push o := by rw [List.push_toArray]; exact congrArg List.toArray hll
  rw [e1]
  have e2 : Array.replicate (l.dropLast.toArray.push o).size false = (Array.replicate l.dropLast.toArray.size false).push false := by
    rw [Array.size_push, ← Array.replicate_succ]
  rw [e2, Array.size_push]
  exact hL
theorem wpMixG_free {l : List (Oper × Bool)} {a : Act} {w : World} (v : Value) (hw : Region.wanted o (yielded ops a.tmps) = true) (hv : ∀ z, S z → (execOp a.eval o).run P z = .ok (.value v) z) (h : wpMixG P ops S N l (a.put o.dst v) w) : wpMixG P ops S N ((o, true) :: l) a w := ⟨v, .inl ⟨hw, hv⟩, h⟩
theorem wpMixG_skip {l : List (Oper × Bool)} {f : Bool} {a : Act} {w : World} (hw : Region.wanted o (yielded ops a.tmps) = false) (h : wpMixG P ops S N l (a.put o.dst undef) w) : wpMixG P ops S N ((o, f) :: l) a w := by
  cases f
  · exact .inr ⟨hw, h⟩
  · exact ⟨undef, .inr ⟨hw, rfl⟩, h⟩
theorem wpMixG_turn {l : List (Oper × Bool)} {a : Act} {w : World} (hw : Region.wanted o (yielded ops a.tmps) = true) (h : ∀ K : Act → World → Prop, (∀ a' w', S w' → wpMixG P ops S N l a' w' → K a' w') → o.wp P a w K (NP N)) : wpMixG P ops S N ((o, false) :: l) a w := .inl ⟨hw, h _ fun _ _ h1 h2 => ⟨h1, h2⟩⟩
theorem wpMixG_end {a : Act} {w : World} (h : N a w) : wpMixG P ops S N [] a w := h
end
end Go.Proofs.Ytohpdpcjhmopbaa.Tz
