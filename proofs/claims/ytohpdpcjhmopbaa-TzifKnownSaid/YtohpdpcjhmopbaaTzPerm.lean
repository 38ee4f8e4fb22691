/-
  A region that draws its order and ends in one operation that waits for all others: one walk in an order that is told: free operations first, so that each one that turns the world is alone.
-/
import Derived.Test.YtohpdpcjhmopbaaTzMb
namespace Go.Proofs.Ytohpdpcjhmopbaa.Tz
open Go

/-- The operations of an order, with their flags. -/
def permL : List (Nat × Bool) → List Oper → List (Oper × Bool)
  | [], _ => []
  | (k, f) :: ks, l => match l[k]? with
    | some o => (o, f) :: permL ks l
    | none => permL ks l
def mixQ (md : Region.Mode) (ops : Array Oper) : List (Nat × Bool) → Array Bool → Bool
  | [], listed => (Region.ready md ops listed).isEmpty
  | (k, true) :: ks, listed => (Region.ready md ops listed).contains k && Region.free md ops listed k && mixQ md ops ks (listed.setIfInBounds k true)
  | (k, false) :: ks, listed => decide (Region.ready md ops listed = [k]) && mixQ md ops ks (listed.setIfInBounds k true)
section
variable {P : Program} {md : Region.Mode} {S : World → Prop} {N : Act → World → Prop} {Q : Exit → Act → World → Prop}
theorem permL_len {l : List Oper} : ∀ {ks : List (Nat × Bool)}, (∀ x ∈ ks, x.1 < l.length) → (permL ks l).length = ks.length
  | [], _ => rfl
  | (k, f) :: ks, h => by
    have hk : k < l.length := h (k, f) (by simp)
    unfold permL
    rw [List.getElem?_eq_getElem hk]
    simp [permL_len (ks := ks) fun x hx => h x (by simp [hx])]
theorem held_of_perm {ops : Array Oper} {l0 : List Oper} (hops : ops = l0.toArray) (hsel : Region.noSelect ops = true) (hg : ∀ (k : Nat) (o : Oper), ops[k]? = some o → o.guard = none) :
    ∀ (ks : List (Nat × Bool)) (listed : Array Bool) (a : Act) (w : World), (∀ x ∈ ks, x.1 < l0.length) → mixQ md ops ks listed = true → S w → wpMix P S N (permL ks l0) a w →
    wpAnyH P md ops (NP N) S ks.length listed a w
  | [], listed, a, w, _, hB, _, h => ⟨by simpa [mixQ] using hB, h⟩
  | (k, true) :: ks, listed, a, w, hl, hB, hS, h => by
    have hk : k < l0.length := hl (k, true) (by simp)
    have h0 : ops[k]? = some l0[k] := by rw [hops]; simp [hk]
    have e : permL ((k, true) :: ks) l0 = (l0[k], true) :: permL ks l0 := by
      show (match l0[k]? with | some o => _ | none => _) = _
      rw [List.getElem?_eq_getElem hk]
    rw [e] at h
    simp only [mixQ, Bool.and_eq_true] at hB
    obtain ⟨v, hv, hr⟩ := h
    have hw : Region.wanted l0[k] (yielded ops a.tmps) = true := by simp [Region.wanted, hg k _ h0]
    exact wpAnyH_take h0 hsel hB.1.2 hB.1.1 (fun _ _ _ h => h.elim) (.inl ⟨hw, hv⟩) hS (held_of_perm hops hsel hg ks _ _ _ (fun x hx => hl x (by simp [hx])) hB.2 hS hr)
  | (k, false) :: ks, listed, a, w, hl, hB, hS, h => by
    have hk : k < l0.length := hl (k, false) (by simp)
    have h0 : ops[k]? = some l0[k] := by rw [hops]; simp [hk]
    have e : permL ((k, false) :: ks) l0 = (l0[k], false) :: permL ks l0 := by
      show (match l0[k]? with | some o => _ | none => _) = _
      rw [List.getElem?_eq_getElem hk]
    rw [e] at h
    simp only [mixQ, Bool.and_eq_true, decide_eq_true_eq] at hB
    have hw : Region.wanted l0[k] (yielded ops a.tmps) = true := by simp [Region.wanted, hg k _ h0]
    refine wpAnyH_all hB.1 (by simp) fun i hi => ?_
    obtain rfl : i = k := by simpa using hi
    unfold wpOp
    simp only [h0, hw, if_true]
    exact .inl (wp_of_NP (fun a' w' h' => ⟨h'.1, held_of_perm hops hsel hg ks _ _ _ (fun x hx => hl x (by simp [hx])) hB.2 h'.1 h'.2⟩) h)
def permTailB (ops : Array Oper) (o : Oper) (ks : List (Nat × Bool)) : Bool :=
  Region.noSelect ops && (List.range ops.size).all (fun j => match ops[j]? with | some x => x.guard.isNone && x.after.all fun e => decide (e.on < j) | none => true) && o.guard.isNone && o.after.all (fun e => decide (e.on < ops.size)) &&
  (List.range ops.size).all (fun i => (o.after.any fun e => Region.binds .any e && e.on == i) || (List.range ops.size).any fun j => decide (i < j) && match ops[j]? with | some x => x.after.any fun e => Region.binds .any e && e.on == i | none => false) && ks.all (fun x => decide (x.1 < ops.size)) && mixQ .any ops ks (Array.replicate ops.size false)
theorem wp_region_perm (S : World → Prop) {id : Nat} {l : List Oper} {a : Act} {w : World} (ks : List (Nat × Bool)) (o : Oper) (hm : P.follows .mixedOrders = true) (ho : l.getLast? = some o) (hB : permTailB l.dropLast.toArray o ks = true) (hkl : ks.length = l.dropLast.length) (hS : S w.drew)
    (h : wpMix P S (fun a' w' => o.wp P a' w' (fun a'' w'' => Q .normal a'' w'') Q) (permL ks l.dropLast) a w.drew) : (Code.region id l.toArray true).wp P Q a w := by
  simp only [permTailB, Bool.and_eq_true] at hB
  obtain ⟨⟨⟨⟨⟨⟨hsel, hops⟩, hog⟩, hoa⟩, hwt⟩, hks⟩, hmix⟩ := hB
  have hop : ∀ (j : Nat) (x : Oper), l.dropLast.toArray[j]? = some x → x.guard = none ∧ ∀ e ∈ x.after, e.on < j := by
    intro j x hx
    have h1 := List.all_eq_true.1 hops j (List.mem_range.2 (Array.getElem?_eq_some_iff.1 hx).1)
    rw [hx] at h1
    simp only [Bool.and_eq_true] at h1
    exact ⟨by simpa using h1.1, fun e he => by simpa using Array.all_eq_true'.1 h1.2 e he⟩
  have hll : l = l.dropLast ++ [o] := by
    have hne : l ≠ [] := by rintro rfl; simp at ho
    rw [List.getLast?_eq_some_getLast hne] at ho
    injection ho with ho
    rw [← ho]; exact (List.dropLast_concat_getLast hne).symm
  have hH := held_of_perm (md := .any) (P := P) (S := S) (l0 := l.dropLast) rfl hsel (fun k x hx => (hop k x hx).1) ks (Array.replicate l.dropLast.toArray.size false) a w.drew (fun x hx => by
    have := List.all_eq_true.1 hks x hx
    simpa using this) hmix hS h
  rw [hkl, show l.dropLast.length = l.dropLast.toArray.size from rfl] at hH
  have hL := lift_any (md := .any) (P := P) (Q := Q) (o := o) (fun k x hx => (hop k x hx).1) (fun j x hx => (hop j x hx).2) (by simpa using hog) (fun e he => by simpa using Array.all_eq_true'.1 hoa e he) (fun i hi => by
    have h1 := List.all_eq_true.1 hwt i (List.mem_range.2 hi)
    simp only [Bool.or_eq_true] at h1
    rcases h1 with h1 | h1
    · obtain ⟨e, he, h2⟩ := Array.any_eq_true'.1 h1
      simp only [Bool.and_eq_true, beq_iff_eq] at h2
      exact .inl ⟨e, he, h2.1, h2.2⟩
    · obtain ⟨j, _, h2⟩ := List.any_eq_true.1 h1
      simp only [Bool.and_eq_true, decide_eq_true_eq] at h2
      cases hx : l.dropLast.toArray[j]? with
      | none => rw [hx] at h2; cases h2.2
      | some x =>
        rw [hx] at h2
        obtain ⟨e, he, h3⟩ := Array.any_eq_true'.1 h2.2
        simp only [Bool.and_eq_true, beq_iff_eq] at h3
        exact .inr ⟨j, x, h2.1, hx, e, he, h3.1, h3.2⟩) (fun _ _ h => h) _ _ _ _ (by simp) (fun j x _ hj => by
    rw [Array.getD_eq_getD_getElem?, Array.getElem?_replicate] at hj
    split at hj <;> cases hj) (wpAny_of_held _ _ _ _ hH)
  refine wp_region_any hm ?_
  have e1 : l.toArray = l.dropLast.toArray.push o := by rw [List.push_toArray]; exact congrArg List.toArray hll
  rw [e1]
  have e2 : Array.replicate (l.dropLast.toArray.push o).size false = (Array.replicate l.dropLast.toArray.size false).push false := by
    rw [Array.size_push, ← Array.replicate_succ]
  rw [e2, Array.size_push]
  exact hL
end
end Go.Proofs.Ytohpdpcjhmopbaa.Tz
