/-
  A region that draws its order: free operations and a chain of those that turn the world, in an order that is told (as at layer 5).
-/
import Derived.OrdersHeld
import Derived.Tactics
import Derived.KernelRfl
import Derived.ProofKit
namespace Go.Proofs.YtokeepmlibolfaaDoor.Ln
open Go

/-- It ends normally, and so. -/
def NP (N : Act → World → Prop) : Exit → Act → World → Prop
  | .normal, a, w => N a w
  | _, _, _ => False
section
variable {P : Program} {md : Region.Mode} {S : World → Prop} {N : Act → World → Prop} {Q : Exit → Act → World → Prop}
theorem wp_of_NP {o : Oper} {a : Act} {w : World} {K K' : Act → World → Prop} (hk : ∀ a w, K a w → K' a w) (h : o.wp P a w K (NP N)) : o.wp P a w K' Q := by
  unfold Oper.wp at *
  generalize (execOp a.eval o).run P w = r at *
  match r, h with
  | .ok (.value v) w', h => exact hk _ _ h
  | .ok .skip w', h => exact hk _ _ h
  | .ok (.defer d) w', h => exact hk _ _ h
  | .ok (.enter f args) w', h =>
    refine Calls.mono h fun e w'' he => ?_
    cases e with
    | returned v => exact hk _ _ he
    | panicked c => exact he.elim
    | outgrown => obtain ⟨_, _, h0⟩ := he; exact h0.elim
  | .ok (.row row args) w', h => exact Rows.mono h fun _ _ he => hk _ _ he
  | .halt (.panic v) w', h => exact h.elim

/-- The walk in the text's order; true: it is free. -/
def wpMix (P : Program) (S : World → Prop) (N : Act → World → Prop) : List (Oper × Bool) → Act → World → Prop
  | [], a, w => N a w
  | (o, true) :: l, a, w => ∃ v, (∀ z, S z → (execOp a.eval o).run P z = .ok (.value v) z) ∧ wpMix P S N l (a.put o.dst v) w
  | (o, false) :: l, a, w => o.wp P a w (fun a' w' => S w' ∧ wpMix P S N l a' w') (NP N)
def mixB (md : Region.Mode) (ops : Array Oper) : List Bool → Nat → Array Bool → Bool
  | [], _, listed => (Region.ready md ops listed).isEmpty
  | true :: fl, k, listed => (Region.ready md ops listed).contains k && Region.free md ops listed k && mixB md ops fl (k + 1) (listed.setIfInBounds k true)
  | false :: fl, k, listed => decide (Region.ready md ops listed = [k]) && mixB md ops fl (k + 1) (listed.setIfInBounds k true)

theorem held_of_mix {ops : Array Oper} (hsel : Region.noSelect ops = true) (hg : ∀ (k : Nat) (o : Oper), ops[k]? = some o → o.guard = none) :
    ∀ (l : List (Oper × Bool)) (k : Nat) (listed : Array Bool) (a : Act) (w : World), (∀ (j : Nat) (x : Oper × Bool), l[j]? = some x → ops[k + j]? = some x.1) → mixB md ops (l.map (·.2)) k listed = true → S w → wpMix P S N l a w →
    wpAnyH P md ops (NP N) S l.length listed a w
  | [], k, listed, a, w, _, hB, _, h => ⟨by simpa [mixB] using hB, h⟩
  | (o, true) :: l, k, listed, a, w, hl, hB, hS, h => by
    have h0 : ops[k]? = some o := hl 0 (o, true) rfl
    simp only [List.map_cons, mixB, Bool.and_eq_true] at hB
    obtain ⟨v, hv, hr⟩ := h
    have hw : Region.wanted o (yielded ops a.tmps) = true := by simp [Region.wanted, hg k o h0]
    exact wpAnyH_take h0 hsel hB.1.2 hB.1.1 (fun _ _ _ h => h.elim) (.inl ⟨hw, hv⟩) hS (held_of_mix hsel hg l (k + 1) _ _ _ (fun j x hj => by rw [show k + 1 + j = k + (j + 1) by omega]; exact hl (j + 1) x (by simpa using hj)) hB.2 hS hr)
  | (o, false) :: l, k, listed, a, w, hl, hB, hS, h => by
    have h0 : ops[k]? = some o := hl 0 (o, false) rfl
    simp only [List.map_cons, mixB, Bool.and_eq_true, decide_eq_true_eq] at hB
    have hw : Region.wanted o (yielded ops a.tmps) = true := by simp [Region.wanted, hg k o h0]
    refine wpAnyH_all hB.1 (by simp) fun i hi => ?_
    obtain rfl : i = k := by simpa using hi
    unfold wpOp
    simp only [h0, hw, if_true]
    exact .inl (wp_of_NP (fun a' w' h' => ⟨h'.1, held_of_mix hsel hg l (i + 1) _ _ _ (fun j x hj => by rw [show i + 1 + j = i + (j + 1) by omega]; exact hl (j + 1) x (by simpa using hj)) hB.2 h'.1 h'.2⟩) h)

/-- Nothing is ready: all have come up. -/
theorem all_listed {ops : Array Oper} {listed : Array Bool} (hs : listed.size = ops.size) (hb : ∀ (j : Nat) (o : Oper), ops[j]? = some o → ∀ e ∈ o.after, e.on < j) (h : Region.ready md ops listed = []) : ∀ i, i < ops.size → listed.getD i false = true := by
  intro i
  induction i using Nat.strongRecOn with
  | _ i ih =>
    intro hi
    cases hc : listed.getD i false with
    | true => rfl
    | false =>
      have hu : listed.getD i true = false := by
        have hlt : i < listed.size := by omega
        simp [hlt] at hc ⊢; exact hc
      have : i ∈ Region.ready md ops listed := mem_ready.2 ⟨hu, ops[i], Array.getElem?_eq_getElem hi, fun e he _ => ih e.on (hb i _ (Array.getElem?_eq_getElem hi) e he) (by have := hb i _ (Array.getElem?_eq_getElem hi) e he; omega)⟩
      rw [h] at this; cases this

theorem getD_push_lt {x : Array Bool} {b d : Bool} {i : Nat} (h : i < x.size) : (x.push b).getD i d = x.getD i d := by
  rw [Array.getD_eq_getD_getElem?, Array.getD_eq_getD_getElem?, Array.getElem?_push, if_neg (by omega)]
theorem getD_push_eq {x : Array Bool} {b d : Bool} : (x.push b).getD x.size d = b := by
  rw [Array.getD_eq_getD_getElem?, Array.getElem?_push, if_pos rfl]; rfl
theorem push_set {x : Array Bool} {b : Bool} {i : Nat} (h : i < x.size) : (x.push b).setIfInBounds i true = (x.setIfInBounds i true).push b := by
  apply Array.ext_getElem?
  intro j
  rw [Array.getElem?_setIfInBounds, Array.getElem?_push, Array.getElem?_push, Array.getElem?_setIfInBounds, Array.size_setIfInBounds, Array.size_push]
  by_cases hij : i = j
  · subst hij
    rw [if_pos rfl, if_pos (by omega), if_neg (by omega), if_pos rfl, if_pos h]
  · rw [if_neg hij, if_neg hij]
theorem getD_flip {x : Array Bool} {i : Nat} (h : i < x.size) (d d' : Bool) : x.getD i d = x.getD i d' := by
  rw [Array.getD_eq_getD_getElem?, Array.getD_eq_getD_getElem?, Array.getElem?_eq_getElem h]; rfl

variable {ops : Array Oper} {o : Oper}
/-- What came up came behind what it waits for. -/
def Shut (md : Region.Mode) (ops : Array Oper) (listed : Array Bool) : Prop := ∀ (j : Nat) (x : Oper), ops[j]? = some x → listed.getD j false = true → ∀ e ∈ x.after, Region.binds md e = true → listed.getD e.on false = true
theorem Shut.set {listed : Array Bool} {i : Nat} (h : Shut md ops listed) (hi : i ∈ Region.ready md ops listed) : Shut md ops (listed.setIfInBounds i true) := by
  intro j x hx hj e he hbb
  obtain ⟨_, oi, hoi, hall⟩ := mem_ready.1 hi
  by_cases hij : i = j
  · subst hij
    obtain rfl : x = oi := Option.some.inj (hx.symm.trans hoi)
    exact getD_set_true (hall e he hbb)
  · rw [getD_set_ne false hij] at hj
    exact getD_set_true (h j x hx hj e he hbb)
theorem Shut.all {listed : Array Bool} (h : Shut md ops listed) (hw : ∀ i, i < ops.size → (∃ e ∈ o.after, Region.binds md e = true ∧ e.on = i) ∨ ∃ (j : Nat) (x : Oper), i < j ∧ ops[j]? = some x ∧ ∃ e ∈ x.after, Region.binds md e = true ∧ e.on = i)
    (ho : ∀ e ∈ o.after, Region.binds md e = true → listed.getD e.on false = true) : ∀ i, i < ops.size → listed.getD i false = true := by
  have main : ∀ (d i : Nat), ops.size - i = d → i < ops.size → listed.getD i false = true := by
    intro d
    induction d using Nat.strongRecOn with
    | _ d ih =>
      intro i hd hi
      rcases hw i hi with ⟨e, he, hbb, hon⟩ | ⟨j, x, hij, hx, e, he, hbb, hon⟩
      · rw [← hon]; exact ho e he hbb
      · have hj : j < ops.size := (Array.getElem?_eq_some_iff.1 hx).1
        rw [← hon]
        exact h j x hx (ih (ops.size - j) (by omega) j rfl hj) e he hbb
  exact fun i hi => main _ i rfl hi
/-- The last operation, behind all others. -/
theorem last_any (ho : o.guard = none) (he : ∀ e ∈ o.after, e.on < ops.size) (hN : ∀ a w, N a w → o.wp P a w (fun a' w' => Q .normal a' w') Q) {listed : Array Bool} (hs : listed.size = ops.size) (hall : ∀ i, i < ops.size → listed.getD i false = true) {a : Act} {w : World} (h : N a w) (g : Nat) : wpAny P md (ops.push o) Q (g + 1) (listed.push false) a w := by
  have hm : (ops.push o)[ops.size]? = some o := by simp
  have hr : ops.size ∈ Region.ready md (ops.push o) (listed.push false) := by
    refine mem_ready.2 ⟨by rw [← hs]; exact getD_push_eq, o, hm, fun e hee _ => ?_⟩
    rw [getD_push_lt (by have := he e hee; omega)]
    exact hall _ (he e hee)
  refine ⟨fun h0 => (by rw [h0] at hr; cases hr), fun i hi => ?_⟩
  obtain ⟨hu, oi, hoi, _⟩ := mem_ready.1 hi
  have hlt : i < (ops.push o).size := (Array.getElem?_eq_some_iff.1 hoi).1
  rw [Array.size_push] at hlt
  have him : i = ops.size := by
    rcases Nat.lt_or_ge i ops.size with hl | hl
    · rw [getD_push_lt (by omega), getD_flip (by omega) true false, hall i hl] at hu; cases hu
    · omega
  subst him
  have hdone : ∀ j, ((listed.push false).setIfInBounds ops.size true).getD j true = true := by
    intro j
    rw [Array.getD_eq_getD_getElem?, Array.getElem?_setIfInBounds]
    by_cases hj : ops.size = j
    · rw [if_pos hj]; split <;> rfl
    · rw [if_neg hj, Array.getElem?_push]
      by_cases hj2 : j = listed.size
      · omega
      · rw [if_neg hj2, ← Array.getD_eq_getD_getElem?]
        rcases Nat.lt_or_ge j ops.size with hl | hl
        · rw [getD_flip (by omega) true false]; exact hall j hl
        · rw [Array.getD_eq_getD_getElem?, Array.getElem?_eq_none (by omega)]; rfl
  have hnil : Region.ready md (ops.push o) ((listed.push false).setIfInBounds ops.size true) = [] := by
    apply List.eq_nil_iff_forall_not_mem.2
    intro j hj
    have := (mem_ready.1 hj).1
    rw [hdone j] at this; cases this
  unfold wpOp
  simp only [hm]
  rw [if_pos (by simp [Region.wanted, ho])]
  refine .inl (Oper.wp_mono (fun a' w' hq => ?_) (hN a w h))
  cases g with
  | zero => exact ⟨hnil, hq⟩
  | succ g => exact ⟨fun _ => hq, fun j hj => by rw [hnil] at hj; cases hj⟩

theorem lift_any (hg : ∀ (k : Nat) (x : Oper), ops[k]? = some x → x.guard = none) (hb : ∀ (j : Nat) (x : Oper), ops[j]? = some x → ∀ e ∈ x.after, e.on < j) (ho : o.guard = none) (he : ∀ e ∈ o.after, e.on < ops.size) (hw : ∀ i, i < ops.size → (∃ e ∈ o.after, Region.binds md e = true ∧ e.on = i) ∨ ∃ (j : Nat) (x : Oper), i < j ∧ ops[j]? = some x ∧ ∃ e ∈ x.after, Region.binds md e = true ∧ e.on = i)
    (hN : ∀ a w, N a w → o.wp P a w (fun a' w' => Q .normal a' w') Q) : ∀ (f : Nat) (listed : Array Bool) (a : Act) (w : World), listed.size = ops.size → Shut md ops listed → wpAny P md ops (NP N) f listed a w → wpAny P md (ops.push o) Q (f + 1) (listed.push false) a w
  | 0, listed, a, w, hs, _, h => last_any ho he hN hs (all_listed hs hb h.1) h.2 0
  | f + 1, listed, a, w, hs, hc, h => by
    by_cases hr : Region.ready md ops listed = []
    · exact last_any ho he hN hs (all_listed hs hb hr) (h.1 hr) (f + 1)
    · obtain ⟨k, hk⟩ := List.exists_mem_of_ne_nil _ hr
      obtain ⟨hku, ok, hok, hka⟩ := mem_ready.1 hk
      have hkl : k < ops.size := (Array.getElem?_eq_some_iff.1 hok).1
      have up : ∀ (j : Nat) (x : Oper), ops[j]? = some x → (ops.push o)[j]? = some x := fun j x hx => by
        rw [Array.getElem?_push, if_neg (by have := (Array.getElem?_eq_some_iff.1 hx).1; omega)]; exact hx
      refine ⟨fun h0 => ?_, fun i hi => ?_⟩
      · have : k ∈ Region.ready md (ops.push o) (listed.push false) := mem_ready.2 ⟨by rw [getD_push_lt (by omega)]; exact hku, ok, up k ok hok, fun e hee hbb => by
          rw [getD_push_lt (by have := hb k ok hok e hee; omega)]; exact hka e hee hbb⟩
        rw [h0] at this; cases this
      · obtain ⟨hu, oi, hoi, hall⟩ := mem_ready.1 hi
        have hlt : i < (ops.push o).size := (Array.getElem?_eq_some_iff.1 hoi).1
        rw [Array.size_push] at hlt
        rcases Nat.lt_or_ge i ops.size with hl | hl
        · have hoi' : ops[i]? = some oi := by rw [Array.getElem?_push, if_neg (by omega)] at hoi; exact hoi
          rw [getD_push_lt (by omega)] at hu
          have hi' : i ∈ Region.ready md ops listed := mem_ready.2 ⟨hu, oi, hoi', fun e hee hbb => by
            have := hall e hee hbb
            rwa [getD_push_lt (by have := hb i oi hoi' e hee; omega)] at this⟩
          have h2 := h.2 i hi'
          have hwt : ∀ y, Region.wanted oi y = true := fun y => by simp [Region.wanted, hg i oi hoi']
          unfold wpOp at h2 ⊢
          simp only [hoi', hoi, hwt, if_true] at h2 ⊢
          rw [push_set (by omega)]
          rcases h2 with h2 | ⟨_, _, _, h2⟩
          · exact .inl (wp_of_NP (fun a' w' h3 => lift_any hg hb ho he hw hN f _ _ _ (by simpa using hs) (hc.set hi') h3) h2)
          · exact h2.elim
        · obtain rfl : i = ops.size := by omega
          have hoo : oi = o := by simpa using hoi.symm
          subst hoo
          have hk2 := hc.all hw (fun e hee hbb => by
            have h3 := hall e hee hbb
            rwa [getD_push_lt (by have := he e hee; omega)] at h3) k hkl
          rw [getD_flip (by omega) false true, hku] at hk2
          cases hk2

def mixTailB (ops : Array Oper) (o : Oper) (fl : List Bool) : Bool :=
  Region.noSelect ops && (List.range ops.size).all (fun j => match ops[j]? with | some x => x.guard.isNone && x.after.all fun e => decide (e.on < j) | none => true) && o.guard.isNone && o.after.all (fun e => decide (e.on < ops.size)) &&
  (List.range ops.size).all (fun i => (o.after.any fun e => Region.binds .any e && e.on == i) || (List.range ops.size).any fun j => decide (i < j) && match ops[j]? with | some x => x.after.any fun e => Region.binds .any e && e.on == i | none => false) && decide (fl.length = ops.size) && mixB .any ops fl 0 (Array.replicate ops.size false)
theorem wp_region_mix (S : World → Prop) {id : Nat} {l : List Oper} {a : Act} {w : World} (fl : List Bool) (o : Oper) (hm : P.follows .mixedOrders = true) (ho : l.getLast? = some o) (hB : mixTailB l.dropLast.toArray o fl = true) (hS : S w.drew)
    (h : wpMix P S (fun a' w' => o.wp P a' w' (fun a'' w'' => Q .normal a'' w'') Q) (l.dropLast.zip fl) a w.drew) : (Code.region id l.toArray true).wp P Q a w := by
  simp only [mixTailB, Bool.and_eq_true, decide_eq_true_eq] at hB
  obtain ⟨⟨⟨⟨⟨⟨hsel, hops⟩, hog⟩, hoa⟩, hwt⟩, hfl⟩, hmix⟩ := hB
  have hop : ∀ (j : Nat) (x : Oper), l.dropLast.toArray[j]? = some x → x.guard = none ∧ ∀ e ∈ x.after, e.on < j := by
    intro j x hx
    have h1 := List.all_eq_true.1 hops j (List.mem_range.2 (Array.getElem?_eq_some_iff.1 hx).1)
    rw [hx] at h1
    simp only [Bool.and_eq_true] at h1
    exact ⟨by simpa using h1.1, fun e he => by simpa using Array.all_eq_true'.1 h1.2 e he⟩
  have hll : l = l.dropLast ++ [o] := by
    have hne : l ≠ [] := by rintro rfl; simp at ho
    rw [List.getLast?_eq_some_getLast hne] at ho
    injection ho with ho
    rw [← ho]; exact (List.dropLast_concat_getLast hne).symm
  have hlen : (l.dropLast.zip fl).length = l.dropLast.toArray.size := by
    rw [List.length_zip, hfl]; simp
  have hH := held_of_mix (md := .any) (P := P) (S := S) hsel (fun k x hx => (hop k x hx).1) (l.dropLast.zip fl) 0 (Array.replicate l.dropLast.toArray.size false) a w.drew (fun j x hx => by
    rw [Nat.zero_add]
    rw [List.getElem?_zip_eq_some] at hx
    simpa using hx.1) (by rw [show (l.dropLast.zip fl).map (·.2) = fl from by
      rw [← List.unzip_snd, List.unzip_zip_right (by rw [hfl]; simp)]]; exact hmix) hS h
  rw [hlen] at hH
  have hL := lift_any (md := .any) (P := P) (Q := Q) (o := o) (fun k x hx => (hop k x hx).1) (fun j x hx => (hop j x hx).2) (by simpa using hog) (fun e he => by simpa using Array.all_eq_true'.1 hoa e he) (fun i hi => by
    have h1 := List.all_eq_true.1 hwt i (List.mem_range.2 hi)
    simp only [Bool.or_eq_true] at h1
    rcases h1 with h1 | h1
    · obtain ⟨e, he, h2⟩ := Array.any_eq_true'.1 h1
      simp only [Bool.and_eq_true, beq_iff_eq] at h2
      exact .inl ⟨e, he, h2.1, h2.2⟩
    · obtain ⟨j, _, h2⟩ := List.any_eq_true.1 h1
      simp only [Bool.and_eq_true, decide_eq_true_eq] at h2
      cases hx : l.dropLast.toArray[j]? with
      | none => rw [hx] at h2; cases h2.2
      | some x =>
        rw [hx] at h2
        obtain ⟨e, he, h3⟩ := Array.any_eq_true'.1 h2.2
        simp only [Bool.and_eq_true, beq_iff_eq] at h3
        exact .inr ⟨j, x, h2.1, hx, e, he, h3.1, h3.2⟩) (fun _ _ h => h) _ _ _ _ (by simp) (fun j x _ hj => by
    rw [Array.getD_eq_getD_getElem?, Array.getElem?_replicate] at hj
    split at hj <;> cases hj) (wpAny_of_held _ _ _ _ hH)
  refine wp_region_any hm ?_
  have e1 : l.toArray = l.dropLast.toArray.push o := by rw [List.push_toArray]; exact congrArg List.toArray hll
  rw [e1]
  have e2 : Array.replicate (l.dropLast.toArray.push o).size false = (Array.replicate l.dropLast.toArray.size false).push false := by
    rw [Array.size_push, ← Array.replicate_succ]
  rw [e2, Array.size_push]
  exact hL
theorem wpMix_free {o : Oper} {l : List (Oper × Bool)} {a : Act} {w : World} (v : Value) (hv : ∀ z, S z → (execOp a.eval o).run P z = .ok (.value v) z) (h : wpMix P S N l (a.put o.dst v) w) : wpMix P S N ((o, true) :: l) a w := ⟨v, hv, h⟩
theorem wpMix_turn {o : Oper} {l : List (Oper × Bool)} {a : Act} {w : World} (h : ∀ K : Act → World → Prop, (∀ a' w', S w' → wpMix P S N l a' w' → K a' w') → o.wp P a w K (NP N)) : wpMix P S N ((o, false) :: l) a w := h _ fun _ _ h1 h2 => ⟨h1, h2⟩
theorem wpMix_end {a : Act} {w : World} (h : N a w) : wpMix P S N [] a w := h
end
end Go.Proofs.YtokeepmlibolfaaDoor.Ln

namespace Go.Proofs.YtokeepmlibolfaaDoor.Ln
open Go

/-- The operations of an order, with their flags. -/
def permL : List (Nat × Bool) → List Oper → List (Oper × Bool)
  | [], _ => []
  | (k, f) :: ks, l => match l[k]? with
    | some o => (o, f) :: permL ks l
    | none => permL ks l
def mixQ (md : Region.Mode) (ops : Array Oper) : List (Nat × Bool) → Array Bool → Bool
  | [], listed => (Region.ready md ops listed).isEmpty
  | (k, true) :: ks, listed => (Region.ready md ops listed).contains k && Region.free md ops listed k && mixQ md ops ks (listed.setIfInBounds k true)
  | (k, false) :: ks, listed => decide (Region.ready md ops listed = [k]) && mixQ md ops ks (listed.setIfInBounds k true)
section
variable {P : Program} {md : Region.Mode} {S : World → Prop} {N : Act → World → Prop} {Q : Exit → Act → World → Prop}
theorem permL_len {l : List Oper} : ∀ {ks : List (Nat × Bool)}, (∀ x ∈ ks, x.1 < l.length) → (permL ks l).length = ks.length
  | [], _ => rfl
  | (k, f) :: ks, h => by
    have hk : k < l.length := h (k, f) (by simp)
    unfold permL
    rw [List.getElem?_eq_getElem hk]
    simp [permL_len (ks := ks) fun x hx => h x (by simp [hx])]
theorem held_of_perm {ops : Array Oper} {l0 : List Oper} (hops : ops = l0.toArray) (hsel : Region.noSelect ops = true) (hg : ∀ (k : Nat) (o : Oper), ops[k]? = some o → o.guard = none) :
    ∀ (ks : List (Nat × Bool)) (listed : Array Bool) (a : Act) (w : World), (∀ x ∈ ks, x.1 < l0.length) → mixQ md ops ks listed = true → S w → wpMix P S N (permL ks l0) a w →
    wpAnyH P md ops (NP N) S ks.length listed a w
  | [], listed, a, w, _, hB, _, h => ⟨by simpa [mixQ] using hB, h⟩
  | (k, true) :: ks, listed, a, w, hl, hB, hS, h => by
    have hk : k < l0.length := hl (k, true) (by simp)
    have h0 : ops[k]? = some l0[k] := by rw [hops]; simp [hk]
    have e : permL ((k, true) :: ks) l0 = (l0[k], true) :: permL ks l0 := by
      show (match l0[k]? with | some o => _ | none => _) = _
      rw [List.getElem?_eq_getElem hk]
    rw [e] at h
    simp only [mixQ, Bool.and_eq_true] at hB
    obtain ⟨v, hv, hr⟩ := h
    have hw : Region.wanted l0[k] (yielded ops a.tmps) = true := by simp [Region.wanted, hg k _ h0]
    exact wpAnyH_take h0 hsel hB.1.2 hB.1.1 (fun _ _ _ h => h.elim) (.inl ⟨hw, hv⟩) hS (held_of_perm hops hsel hg ks _ _ _ (fun x hx => hl x (by simp [hx])) hB.2 hS hr)
  | (k, false) :: ks, listed, a, w, hl, hB, hS, h => by
    have hk : k < l0.length := hl (k, false) (by simp)
    have h0 : ops[k]? = some l0[k] := by rw [hops]; simp [hk]
    have e : permL ((k, false) :: ks) l0 = (l0[k], false) :: permL ks l0 := by
      show (match l0[k]? with | some o => _ | none => _) = _
      rw [List.getElem?_eq_getElem hk]
    rw [e] at h
    simp only [mixQ, Bool.and_eq_true, decide_eq_true_eq] at hB
    have hw : Region.wanted l0[k] (yielded ops a.tmps) = true := by simp [Region.wanted, hg k _ h0]
    refine wpAnyH_all hB.1 (by simp) fun i hi => ?_
    obtain rfl : i = k := by simpa using hi
    unfold wpOp
    simp only [h0, hw, if_true]
    exact .inl (wp_of_NP (fun a' w' h' => ⟨h'.1, held_of_perm hops hsel hg ks _ _ _ (fun x hx => hl x (by simp [hx])) hB.2 h'.1 h'.2⟩) h)
def permTailB (ops : Array Oper) (o : Oper) (ks : List (Nat × Bool)) : Bool :=
  Region.noSelect ops && (List.range ops.size).all (fun j => match ops[j]? with | some x => x.guard.isNone && x.after.all fun e => decide (e.on < j) | none => true) && o.guard.isNone && o.after.all (fun e => decide (e.on < ops.size)) &&
  (List.range ops.size).all (fun i => (o.after.any fun e => Region.binds .any e && e.on == i) || (List.range ops.size).any fun j => decide (i < j) && match ops[j]? with | some x => x.after.any fun e => Region.binds .any e && e.on == i | none => false) && ks.all (fun x => decide (x.1 < ops.size)) && mixQ .any ops ks (Array.replicate ops.size false)
theorem wp_region_perm (S : World → Prop) {id : Nat} {l : List Oper} {a : Act} {w : World} (ks : List (Nat × Bool)) (o : Oper) (hm : P.follows .mixedOrders = true) (ho : l.getLast? = some o) (hB : permTailB l.dropLast.toArray o ks = true) (hkl : ks.length = l.dropLast.length) (hS : S w.drew)
    (h : wpMix P S (fun a' w' => o.wp P a' w' (fun a'' w'' => Q .normal a'' w'') Q) (permL ks l.dropLast) a w.drew) : (Code.region id l.toArray true).wp P Q a w := by
  simp only [permTailB, Bool.and_eq_true] at hB
  obtain ⟨⟨⟨⟨⟨⟨hsel, hops⟩, hog⟩, hoa⟩, hwt⟩, hks⟩, hmix⟩ := hB
  have hop : ∀ (j : Nat) (x : Oper), l.dropLast.toArray[j]? = some x → x.guard = none ∧ ∀ e ∈ x.after, e.on < j := by
    intro j x hx
    have h1 := List.all_eq_true.1 hops j (List.mem_range.2 (Array.getElem?_eq_some_iff.1 hx).1)
    rw [hx] at h1
    simp only [Bool.and_eq_true] at h1
    exact ⟨by simpa using h1.1, fun e he => by simpa using Array.all_eq_true'.1 h1.2 e he⟩
  have hll : l = l.dropLast ++ [o] := by
    have hne : l ≠ [] := by rintro rfl; simp at ho
    rw [List.getLast?_eq_some_getLast hne] at ho
    injection ho with ho
    rw [← ho]; exact (List.dropLast_concat_getLast hne).symm
  have hH := held_of_perm (md := .any) (P := P) (S := S) (l0 := l.dropLast) rfl hsel (fun k x hx => (hop k x hx).1) ks (Array.replicate l.dropLast.toArray.size false) a w.drew (fun x hx => by
    have := List.all_eq_true.1 hks x hx
    simpa using this) hmix hS h
  rw [hkl, show l.dropLast.length = l.dropLast.toArray.size from rfl] at hH
  have hL := lift_any (md := .any) (P := P) (Q := Q) (o := o) (fun k x hx => (hop k x hx).1) (fun j x hx => (hop j x hx).2) (by simpa using hog) (fun e he => by simpa using Array.all_eq_true'.1 hoa e he) (fun i hi => by
    have h1 := List.all_eq_true.1 hwt i (List.mem_range.2 hi)
    simp only [Bool.or_eq_true] at h1
    rcases h1 with h1 | h1
    · obtain ⟨e, he, h2⟩ := Array.any_eq_true'.1 h1
      simp only [Bool.and_eq_true, beq_iff_eq] at h2
      exact .inl ⟨e, he, h2.1, h2.2⟩
    · obtain ⟨j, _, h2⟩ := List.any_eq_true.1 h1
      simp only [Bool.and_eq_true, decide_eq_true_eq] at h2
      cases hx : l.dropLast.toArray[j]? with
      | none => rw [hx] at h2; cases h2.2
      | some x =>
        rw [hx] at h2
        obtain ⟨e, he, h3⟩ := Array.any_eq_true'.1 h2.2
        simp only [Bool.and_eq_true, beq_iff_eq] at h3
        exact .inr ⟨j, x, h2.1, hx, e, he, h3.1, h3.2⟩) (fun _ _ h => h) _ _ _ _ (by simp) (fun j x _ hj => by
    rw [Array.getD_eq_getD_getElem?, Array.getElem?_replicate] at hj
    split at hj <;> cases hj) (wpAny_of_held _ _ _ _ hH)
  refine wp_region_any hm ?_
  have e1 : l.toArray = l.dropLast.toArray.push o := by rw [List.push_toArray]; exact congrArg List.toArray hll
  rw [e1]
  have e2 : Array.replicate (l.dropLast.toArray.push o).size false = (Array.replicate l.dropLast.toArray.size false).push false := by
    rw [Array.size_push, ← Array.replicate_succ]
  rw [e2, Array.size_push]
  exact hL
end
end Go.Proofs.YtokeepmlibolfaaDoor.Ln
