/-
  Layer 12 (words): a map read as a list of entries (as at layer 5); the map of what bytes stand for.
-/
import Derived.Maps.Own
import Derived.Maps.OwnOps
import Derived.Maps.OwnSet
import Derived.Maps.RangeWalk
import Derived.WalkKit
import Derived.Test.YtffmchbcpihjhaaWdRead
/-! A map of the model's read as a list of entries, in whichever order: what looks-up, stores, deletes, lengths and ranges do with it. -/
namespace Go.Proofs.Ytffmchbcpihjhaa.Wd
open Go.Maps Go.MapKept Go.WideShapes
open Go.ChangeMaps (notKey putKey delKey eq_of_perm_sorted rising_of_pairwise)

/-- An element's value, as it is. -/
def asIs (v : Value) : Option (DataW Value × List MemPlace) := some (.held v, [])
/-- What a key reads as. -/
noncomputable def lit (P : Program) (k : TypeId) (v : Value) : Lit := (keyOf P k v).getD .nil
section
variable {α β : Type}
/-- How keys and elements lie in a map of type k's keys. -/
structure Laid (P : Program) (k : TypeId) (ok : α → Prop) (mk : α → Value) : Prop where
  law : Keyed P k
  key : ∀ a, ok a → keyOf P k (mk a) = some (lit P k (mk a))
  inj : ∀ a b, mk a = mk b → a = b
variable (P : Program) (k : TypeId) (mk : α → Value) (mv : β → Value)
noncomputable def ent (p : α × β) : Lit × DataW Value := (lit P k (mk p.1), .held (mv p.2))
noncomputable def dat (l : List (α × β)) : DataW Value := .map ((l.map (ent P k mk mv)).foldr DataW.insert [])
/-- Block b is a map that holds just the entries l, no key twice. -/
structure MapL (ok : α → Prop) (w : World) (b : Nat) (l : List (α × β)) : Prop where
  own : w.ownsMap P k asIs b l.length (dat P k mk mv l)
  good : ∀ p ∈ l, ok p.1
  apart : l.Pairwise (fun p q => p.1 ≠ q.1)
def look [DecidableEq α] (l : List (α × β)) (a : α) : Option β := (l.find? fun p => decide (p.1 = a)).map (·.2)
def strike [DecidableEq α] (l : List (α × β)) (a : α) : List (α × β) := l.filter fun p => !decide (p.1 = a)
def store [DecidableEq α] (l : List (α × β)) (a : α) (b : β) : List (α × β) := (a, b) :: strike l a
variable {P k mk mv} {ok : α → Prop} {w : World} {b n : Nat} {l : List (α × β)}

section
variable [DecidableEq α]
theorem look_mem {a : α} {v : β} (h : look l a = some v) : (a, v) ∈ l := by
  unfold look at h
  obtain ⟨p, hp, rfl⟩ := Option.map_eq_some_iff.1 h
  have h1 := List.mem_of_find?_eq_some hp
  have h2 : p.1 = a := by simpa using List.find?_some hp
  rw [← h2]; exact h1
theorem look_none {a : α} : look l a = none ↔ ∀ p ∈ l, p.1 ≠ a := by
  unfold look
  rw [Option.map_eq_none_iff, List.find?_eq_none]
  simp
theorem look_of_mem (hd : l.Pairwise (fun p q => p.1 ≠ q.1)) {a : α} {v : β} (h : (a, v) ∈ l) : look l a = some v := by
  induction l with
  | nil => cases h
  | cons x l ih =>
    obtain ⟨h1, h2⟩ := List.pairwise_cons.1 hd
    unfold look
    rw [List.find?_cons]
    rcases List.mem_cons.1 h with rfl | h
    · simp
    · have : x.1 ≠ a := h1 _ h
      simp only [this, decide_false]
      exact ih h2 h
theorem look_perm {l' : List (α × β)} (hd : l.Pairwise (fun p q => p.1 ≠ q.1)) (hp : l.Perm l') (a : α) : look l a = look l' a := by
  have hd' : l'.Pairwise (fun p q => p.1 ≠ q.1) := (hp.pairwise_iff (fun {_ _} h => Ne.symm h)).1 hd
  cases h : look l' a with
  | none => rw [look_none] at h ⊢; exact fun p hp' => h p (hp.mem_iff.1 hp')
  | some v => exact look_of_mem hd (hp.mem_iff.2 (look_mem h))
theorem strike_apart (hd : l.Pairwise (fun p q => p.1 ≠ q.1)) (a : α) : (strike l a).Pairwise (fun p q => p.1 ≠ q.1) := hd.filter _
theorem mem_strike {a : α} {p : α × β} : p ∈ strike l a ↔ p ∈ l ∧ p.1 ≠ a := by simp [strike]
theorem store_apart (hd : l.Pairwise (fun p q => p.1 ≠ q.1)) (a : α) (v : β) : (store l a v).Pairwise (fun p q => p.1 ≠ q.1) :=
  List.pairwise_cons.2 ⟨fun _ hp => (mem_strike.1 hp).2.symm, strike_apart hd a⟩
theorem look_strike_same {a : α} : look (strike l a) a = none := look_none.2 fun _ hp => (mem_strike.1 hp).2
theorem look_strike_other {a c : α} (h : c ≠ a) : look (strike l a) c = look l c := by
  unfold look strike
  rw [List.find?_filter]
  congr 1
  induction l with
  | nil => rfl
  | cons x l ih =>
    rw [List.find?_cons, List.find?_cons]
    by_cases hx : x.1 = c
    · have : x.1 ≠ a := by rw [hx]; exact h
      simp [hx, h]
    · simp [hx]; simpa using ih
theorem look_store_same {a : α} {v : β} : look (store l a v) a = some v := by simp [look, store]
theorem look_store_other {a c : α} {v : β} (h : c ≠ a) : look (store l a v) c = look l c := by
  rw [← look_strike_other (l := l) h]
  unfold look store
  rw [List.find?_cons]
  simp [h.symm]
theorem strike_none {a : α} (h : look l a = none) : strike l a = l := by
  unfold strike
  rw [List.filter_eq_self]
  intro p hp
  simpa using look_none.1 h p hp
theorem length_strike_some (hd : l.Pairwise (fun p q => p.1 ≠ q.1)) {a : α} {v : β} (h : look l a = some v) : (strike l a).length + 1 = l.length := by
  induction l with
  | nil => simp [look] at h
  | cons x l ih =>
    obtain ⟨h1, h2⟩ := List.pairwise_cons.1 hd
    by_cases hx : x.1 = a
    · have hn : look l a = none := look_none.2 fun p hp => by rw [← hx]; exact (h1 p hp).symm
      have : strike (x :: l) a = l := by
        have e := strike_none hn
        unfold strike at e ⊢
        rw [List.filter_cons]; simp [hx, e]
      rw [this]; rfl
    · have hl : look l a = some v := by
        unfold look at h ⊢; rw [List.find?_cons] at h; simpa [hx] using h
      have e : strike (x :: l) a = x :: strike l a := by unfold strike; rw [List.filter_cons]; simp [hx]
      rw [e]; simp [ih h2 hl]

end

/-- How many there are is at most how many are read. -/
theorem MapL.of_own {n : Nat} (h : w.ownsMap P k asIs b n (dat P k mk mv l)) (hg : ∀ p ∈ l, ok p.1) (hd : l.Pairwise (fun p q => p.1 ≠ q.1)) : MapL P k mk mv ok w b l := by
  obtain ⟨es, clock, h1, h2, _, h4⟩ := h
  refine ⟨⟨es, clock, h1, h2, ?_, h4⟩, hg, hd⟩
  have e := congrArg Maps.size h4
  simp [dat, Maps.size, length_sorted] at e
  omega

section
variable (L : Laid P k ok mk)
include L
theorem lit_inj {a c : α} (ha : ok a) (hc : ok c) (h : lit P k (mk a) = lit P k (mk c)) : a = c := by
  have h1 := L.key a ha
  have h2 := L.key c hc
  rw [h] at h1
  exact L.inj _ _ (L.law.inj h1 h2)
theorem ent_keys (hg : ∀ p ∈ l, ok p.1) : Keys (KeysOf P k) (l.map (ent P k mk mv)) := by
  intro q hq
  obtain ⟨p, hp, rfl⟩ := List.mem_map.1 hq
  exact ⟨mk p.1, L.key _ (hg p hp)⟩
theorem ent_apart (hg : ∀ p ∈ l, ok p.1) (hd : l.Pairwise (fun p q => p.1 ≠ q.1)) : (l.map (ent P k mk mv)).Pairwise (fun p q => p.1 ≠ q.1) := by
  rw [List.pairwise_map]
  exact hd.imp_of_mem fun {p q} hp hq hne e => hne (lit_inj L (hg p hp) (hg q hq) e)
section
variable [DecidableEq α]
theorem ent_notKey (hg : ∀ p ∈ l, ok p.1) {a : α} (ha : ok a) : (l.map (ent P k mk mv)).filter (notKey (lit P k (mk a))) = (strike l a).map (ent P k mk mv) := by
  rw [List.filter_map]
  unfold strike
  congr 1
  apply List.filter_congr
  intro p hp
  have hk : WideAt.IsKeyLit (lit P k (mk a)) := L.law.key (L.key a ha)
  have hi := Maps.notKey_iff (p := ent P k mk mv p) hk
  by_cases e : p.1 = a
  · subst e
    have : ¬ notKey (lit P k (mk p.1)) (ent P k mk mv p) = true := fun h => hi.1 h rfl
    simp at this ⊢; exact this
  · have : notKey (lit P k (mk a)) (ent P k mk mv p) = true := hi.2 fun h => e (lit_inj L (hg p hp) ha h)
    simp [this, e]
theorem dat_del (hg : ∀ p ∈ l, ok p.1) (hd : l.Pairwise (fun p q => p.1 ≠ q.1)) {a : α} (ha : ok a) : (dat P k mk mv l).del (lit P k (mk a)) = dat P k mk mv (strike l a) := by
  unfold dat
  rw [DataW.del_eq, ← Maps.sorted_del (L.law.one) (ent_keys L hg) (ent_apart L hg hd) (.refl _), ent_notKey L hg ha]
theorem dat_put (hg : ∀ p ∈ l, ok p.1) (hd : l.Pairwise (fun p q => p.1 ≠ q.1)) {a : α} (ha : ok a) (v : β) : (dat P k mk mv l).put (lit P k (mk a)) (.held (mv v)) = dat P k mk mv (store l a v) := by
  unfold dat
  rw [DataW.put_eq, ← Maps.sorted_put (L.law.one) ⟨mk a, L.key a ha⟩ (ent_keys L hg) (ent_apart L hg hd) (.refl _), ent_notKey L hg ha]
  rfl
end
theorem dat_perm {l' : List (α × β)} (hg : ∀ p ∈ l, ok p.1) (hd : l.Pairwise (fun p q => p.1 ≠ q.1)) (hp : l.Perm l') : dat P k mk mv l = dat P k mk mv l' := by
  have hg' : ∀ p ∈ l', ok p.1 := fun p h => hg p (hp.mem_iff.2 h)
  have hd' : l'.Pairwise (fun p q => p.1 ≠ q.1) := (hp.pairwise_iff (fun {_ _} h => Ne.symm h)).1 hd
  unfold dat
  congr 1
  exact eq_of_perm_sorted (((sorted_perm _).trans (hp.map _)).trans (sorted_perm _).symm) (sorted_sorted L.law.one _ (ent_keys L hg) (ent_apart L hg hd)) (sorted_sorted L.law.one _ (ent_keys L hg') (ent_apart L hg' hd'))
theorem MapL.perm {l' : List (α × β)} (h : MapL P k mk mv ok w b l) (hp : l.Perm l') : MapL P k mk mv ok w b l' :=
  ⟨by rw [← dat_perm L h.good h.apart hp, ← hp.length_eq]; exact h.own, fun p hp' => h.good p (hp.mem_iff.2 hp'), (hp.pairwise_iff (fun {_ _} h => Ne.symm h)).1 h.apart⟩
section
variable [DecidableEq α]
theorem dat_at (hg : ∀ p ∈ l, ok p.1) (hd : l.Pairwise (fun p q => p.1 ≠ q.1)) {a : α} (ha : ok a) (z : DataW Value) : (dat P k mk mv l).atKey (lit P k (mk a)) z = ((look l a).map fun v => DataW.held (mv v)).getD z := by
  have hr : DataW.rising ((l.map (ent P k mk mv)).foldr DataW.insert []) = true := rising_of_pairwise _ (sorted_sorted L.law.one _ (ent_keys L hg) (ent_apart L hg hd))
  have h := atKey_sorted (l.map (ent P k mk mv)) hr (lit P k (mk a)) (L.law.key (L.key a ha))
  cases hl : look l a with
  | none =>
    refine (h.1 fun q hq e => ?_) z
    obtain ⟨p, hp, rfl⟩ := List.mem_map.1 hq
    exact look_none.1 hl p hp (lit_inj L (hg p hp) ha e)
  | some v => exact h.2 (ent P k mk mv (a, v)) (List.mem_map.2 ⟨_, look_mem hl, rfl⟩) rfl z
theorem dat_has (hg : ∀ p ∈ l, ok p.1) (hd : l.Pairwise (fun p q => p.1 ≠ q.1)) {a : α} (ha : ok a) : Maps.has (dat P k mk mv l) (lit P k (mk a)) = (look l a).isSome := by
  have h := dat_at (mv := mv) L hg hd ha
  cases hl : look l a with
  | none => exact Maps.has_false_of_atKey fun z => by rw [h z, hl]; rfl
  | some v => exact Maps.has_true_of_atKey (y := .held (mv v)) fun z => by rw [h z, hl]; rfl
end
end
theorem dat_size : Maps.size (dat P k mk mv l) = l.length := by simp [dat, Maps.size, length_sorted]
theorem MapL.kept {w' : World} {row : Option Nat} (h : MapL P k mk mv ok w b l) (hg : w.grownBy w' row) (hne : some b ≠ row) : MapL P k mk mv ok w' b l := ⟨h.own.kept hg hne, h.good, h.apart⟩
theorem MapL.lt (h : MapL P k mk mv ok w b l) : b < w.heap.size := h.own.lt
theorem MapL.same {w' : World} (h : MapL P k mk mv ok w b l) (hb : w'.heap[b]? = w.heap[b]?) : MapL P k mk mv ok w' b l := by
  obtain ⟨⟨es, clock, h1, h2⟩, h3, h4⟩ := h
  exact ⟨⟨es, clock, hb.trans h1, h2⟩, h3, h4⟩
theorem MapL.made (w : World) : MapL P k mk mv ok (w.alloc (.map #[] 0)) w.heap.size [] := ⟨World.ownsMap_made w P k asIs, fun _ h => (by cases h), List.Pairwise.nil⟩
/-- It is a map, not a block of cells. -/
theorem MapL.kind (h : MapL P k mk mv ok w b l) : ∃ es clock, w.heap[b]? = some (.map es clock) := by
  obtain ⟨⟨es, clock, h1, _⟩, _⟩ := h
  exact ⟨es, clock, h1⟩
section
variable (L : Laid P k ok mk) {t e : TypeId} (ht : P.underlying t = some (.map k e)) [DecidableEq α]
include L ht
/-- m[k]. -/
theorem MapL.look_run (h : MapL P k mk mv ok w b l) {z : Value} (hz : (zeroValue e).run P w = .ok z w) {a : α} (ha : ok a) :
    (Instr.lookup t (.map (some b)) (mk a) false).run P w = .ok (((look l a).map mv).getD z) w := by
  obtain ⟨v, ps, hr, hv⟩ := h.own.lookup L.law ht hz (zd := .held z) (zp := []) rfl (L.key a ha)
  rw [dat_at L h.good h.apart ha] at hv
  rw [hr]
  congr 1
  cases hl : look l a with
  | none => rw [hl] at hv; simp [asIs] at hv; exact hv.1
  | some u => rw [hl] at hv; simp [asIs] at hv; exact hv.1
/-- v, ok := m[k]. -/
theorem MapL.look_ok_run (h : MapL P k mk mv ok w b l) {z : Value} (hz : (zeroValue e).run P w = .ok z w) {a : α} (ha : ok a) :
    (Instr.lookup t (.map (some b)) (mk a) true).run P w = .ok (.tuple #[((look l a).map mv).getD z, .bool (look l a).isSome]) w := by
  obtain ⟨v, ps, hr, hv⟩ := h.own.look_ok L.law ht hz (zd := .held z) (zp := []) rfl (L.key a ha)
  rw [dat_at L h.good h.apart ha] at hv
  rw [hr, dat_has L h.good h.apart ha]
  have hv' : v = ((look l a).map mv).getD z := by
    cases hl : look l a with
    | none => rw [hl] at hv; simp [asIs] at hv; exact hv.1
    | some u => rw [hl] at hv; simp [asIs] at hv; exact hv.1
  rw [hv']
/-- m[k] = v. -/
theorem MapL.store_run (h : MapL P k mk mv ok w b l) (hn : l.length < maxLen) {a : α} (ha : ok a) (v : β) :
    ∃ w', (Instr.mapUpdate t (.map (some b)) (mk a) (mv v)).run P w = .ok () w' ∧ MapL P k mk mv ok w' b (store l a v) ∧ w.grownBy w' (some b) ∧ w'.heap.size = w.heap.size := by
  obtain ⟨w', hr, ho, hg⟩ := h.own.store L.law ht hn (L.key a ha) (d := .held (mv v)) (ps := []) rfl
  rw [dat_put L h.good h.apart ha] at ho
  refine ⟨w', hr, MapL.of_own ho (fun p hp => ?_) (store_apart h.apart a v), hg.grown, ?_⟩
  · rcases List.mem_cons.1 hp with rfl | hp
    · exact ha
    · exact h.good p (mem_strike.1 hp).1
  · obtain ⟨_, _, _, _, _, rfl⟩ := hg; simp [ChangeMaps.setBlock]
/-- delete(m, k). -/
theorem MapL.drop_run (h : MapL P k mk mv ok w b l) {a : α} (ha : ok a) (ty : TypeId) :
    ∃ w', (Builtin.delete_ #[t, k] ty #[.map (some b), mk a]).run P w = .ok (.tuple #[]) w' ∧ MapL P k mk mv ok w' b (strike l a) ∧ w.grownBy w' (some b) ∧ w'.heap.size = w.heap.size := by
  obtain ⟨w', hr, ho, hg⟩ := h.own.drop L.law ht (L.key a ha) ty
  rw [dat_del L h.good h.apart ha] at ho
  refine ⟨w', hr, MapL.of_own ho (fun p hp => h.good p (mem_strike.1 hp).1) (strike_apart h.apart a), hg.grown, ?_⟩
  obtain ⟨_, _, _, _, _, rfl⟩ := hg; simp [ChangeMaps.setBlock]
end
/-- len(m). -/
theorem MapL.len_run (h : MapL P k mk mv ok w b l) {t e : TypeId} (ht : P.underlying t = some (.map k e)) (ty : TypeId) : (Builtin.len_ #[t] ty #[.map (some b)]).run P w = .ok (.int .i64 l.length) w := by
  have := h.own.len ht ty
  rwa [dat_size] at this
/-! ### At the operation -/
section
variable (L : Laid P k ok mk) {t e : TypeId} (ht : P.underlying t = some (.map k e)) [DecidableEq α] {ops : Array Oper} {rest : List Oper} {o : Oper} {a : Act} {Q : Exit → Act → World → Prop} {K : Act → World → Prop} {c : α}
include L ht
theorem wp_store (m x u : Operand) (hop : o.op = Op.mapUpdate t m x u) (h : MapL P k mk mv ok w b l) (hn : l.length < maxLen) (hm : a.eval m = .map (some b)) (hx : a.eval x = mk c) (hc : ok c) (v : β) (hv : a.eval u = mv v)
    (hK : ∀ w', MapL P k mk mv ok w' b (store l c v) → w.grownBy w' (some b) → w'.heap.size = w.heap.size → K (a.put o.dst undef) w') : o.wp P a w K Q := by
  obtain ⟨w', hrun, r1, r2, r3⟩ := h.store_run L ht hn hc v
  unfold Oper.wp
  simp [execOp, hop, hm, hx, hv, hrun, Result.andThen]
  exact hK w' r1 r2 r3
theorem wp_drop (m x : Operand) (hop : o.op = Op.call { callee := Callee.builtin Builtin.delete, args := #[m, x], argTypes := #[t, k] }) (h : MapL P k mk mv ok w b l) (hm : a.eval m = .map (some b)) (hx : a.eval x = mk c) (hc : ok c)
    (hK : ∀ w', MapL P k mk mv ok w' b (strike l c) → w.grownBy w' (some b) → w'.heap.size = w.heap.size → K (a.put o.dst (.tuple #[])) w') : o.wp P a w K Q := by
  obtain ⟨w', hrun, r1, r2, r3⟩ := h.drop_run L ht hc o.type
  unfold Oper.wp
  simp [execOp, hop, resolve, invoke, builtin, hm, hx, hrun, Result.andThen]
  exact hK w' r1 r2 r3
theorem wpList_store (hg : o.guard = none) (m x u : Operand) (hop : o.op = Op.mapUpdate t m x u) (h : MapL P k mk mv ok w b l) (hn : l.length < maxLen) (hm : a.eval m = .map (some b)) (hx : a.eval x = mk c) (hc : ok c) (v : β) (hv : a.eval u = mv v)
    (hK : ∀ w', MapL P k mk mv ok w' b (store l c v) → w.grownBy w' (some b) → w'.heap.size = w.heap.size → wpList P ops Q rest (a.put o.dst undef) w') : wpList P ops Q (o :: rest) a w :=
  wpList_plain hg fun _ hK' => wp_store L ht m x u hop h hn hm hx hc v hv fun w' h1 h2 h3 => hK' _ _ (hK w' h1 h2 h3)
theorem wpList_drop (hg : o.guard = none) (m x : Operand) (hop : o.op = Op.call { callee := Callee.builtin Builtin.delete, args := #[m, x], argTypes := #[t, k] }) (h : MapL P k mk mv ok w b l) (hm : a.eval m = .map (some b)) (hx : a.eval x = mk c) (hc : ok c)
    (hK : ∀ w', MapL P k mk mv ok w' b (strike l c) → w.grownBy w' (some b) → w'.heap.size = w.heap.size → wpList P ops Q rest (a.put o.dst (.tuple #[])) w') : wpList P ops Q (o :: rest) a w :=
  wpList_plain hg fun _ hK' => wp_drop L ht m x hop h hm hx hc fun w' h1 h2 h3 => hK' _ _ (hK w' h1 h2 h3)
end
end
end Go.Proofs.Ytffmchbcpihjhaa.Wd
namespace Go.Proofs.Ytffmchbcpihjhaa.Wd
open Go.RowKit Go.Maps
set_option maxRecDepth 100000

def keyV (b : UInt8) : Value := .int .u8 (b.toNat : Int)
theorem wf_u8 (b : UInt8) : (Lit.int .u8 (b.toNat : Int)).wf = true := by
  have := b.toNat_lt
  simp [Lit.wf, IntKind.min, IntKind.max, IntKind.bits, IntKind.signed]
  omega
theorem u8_laid : Laid Try.prog 5 (fun _ : UInt8 => True) keyV where
  law := int_keyed Try.underlying5
  key x _ := by
    have : keyOf Try.prog 5 (keyV x) = some (.int .u8 (x.toNat : Int)) := keyOf_int_mk Try.underlying5 (wf_u8 x)
    rw [this]; unfold lit; rw [this]; rfl
  inj a b h := by
    unfold keyV at h
    injection h with _ h
    exact UInt8.toNat_inj.mp (by omega)
theorem zero_u8 (w : World) : (zeroValue 5).run Try.prog w = .ok (.int .u8 0) w := by kernel_rfl
abbrev Mp (w : World) (b : Nat) (l : List (UInt8 × UInt8)) : Prop := MapL Try.prog 5 keyV keyV (fun _ => True) w b l
def escE : List (UInt8 × UInt8) := [(39, 39), (34, 34), (92, 92), (115, 32), (116, 9), (110, 10)]
theorem esc_look (b : UInt8) : look escE b = esc1 b := by
  unfold look escE esc1
  by_cases h1 : b = 110
  · subst h1; rfl
  · by_cases h2 : b = 116
    · subst h2; rfl
    · by_cases h3 : b = 115
      · subst h3; rfl
      · by_cases h4 : b = 92
        · subst h4; rfl
        · by_cases h5 : b = 34
          · subst h5; rfl
          · by_cases h6 : b = 39
            · subst h6; rfl
            · simp [h1, h2, h3, h4, h5, h6, Ne.symm h1, Ne.symm h2, Ne.symm h3, Ne.symm h4, Ne.symm h5, Ne.symm h6]
theorem mp_look {w : World} {b : Nat} (h : Mp w b escE) (c : UInt8) : (Instr.lookup 36 (.map (some b)) (.int .u8 (c.toNat : Int)) true).run Try.prog w = .ok (escV c) w := by
  have := MapL.look_ok_run u8_laid Try.underlying36 h (zero_u8 w) (a := c) trivial
  rw [esc_look] at this
  refine this.trans ?_
  unfold escV
  cases esc1 c <;> rfl
theorem standing_at (w : World) : Calls Try.prog 15 #[] w fun e w' => e = .returned (.map (some w.heap.size)) ∧ Mp w' w.heap.size escE ∧ Below w.heap.size w w' := by
  have hmm := @run_makeMap Try.prog
  have h0 : Mp (w.alloc (.map #[] 0)) w.heap.size [] := MapL.made w
  have ml : ∀ l : List (UInt8 × UInt8), l.length ≤ 100 → l.length < maxLen := fun l h => by unfold maxLen; omega
  obtain ⟨w1, r1, h1, g1, s1⟩ := h0.store_run u8_laid Try.underlying36 (ml _ (by decide)) (a := (110 : UInt8)) trivial (10 : UInt8)
  obtain ⟨w2, r2, h2, g2, s2⟩ := h1.store_run u8_laid Try.underlying36 (ml _ (by decide)) (a := (116 : UInt8)) trivial (9 : UInt8)
  obtain ⟨w3, r3, h3, g3, s3⟩ := h2.store_run u8_laid Try.underlying36 (ml _ (by decide)) (a := (115 : UInt8)) trivial (32 : UInt8)
  obtain ⟨w4, r4, h4, g4, s4⟩ := h3.store_run u8_laid Try.underlying36 (ml _ (by decide)) (a := (92 : UInt8)) trivial (92 : UInt8)
  obtain ⟨w5, r5, h5, g5, s5⟩ := h4.store_run u8_laid Try.underlying36 (ml _ (by decide)) (a := (34 : UInt8)) trivial (34 : UInt8)
  obtain ⟨w6, r6, h6, g6, s6⟩ := h5.store_run u8_laid Try.underlying36 (ml _ (by decide)) (a := (39 : UInt8)) trivial (39 : UInt8)
  have hst : store (store (store (store (store (store ([] : List (UInt8 × UInt8)) 110 10) 116 9) 115 32) 92 92) 34 34) 39 39 = escE := by decide
  rw [hst] at h6
  have hg : (w.alloc (.map #[] 0)).grownBy w6 (some w.heap.size) := grown_trans (grown_trans (grown_trans (grown_trans (grown_trans g1 g2) g3) g4) g5) g6
  have hb : Below w.heap.size w w6 := ((Below.refl _ w).alloc (Nat.le_refl _) _).grown hg (by show w.heap.size ≤ (w.heap.push _).size; simp) (fun k e => by cases e; exact Nat.le_refl _)
  have H6 := Lib.hid h6
  have HB := Lib.hid hb
  have r1 : (Instr.mapUpdate 36 (.map (some w.heap.size)) (.int .u8 110) (.int .u8 10)).run Try.prog (w.alloc (.map #[] 0)) = .ok () w1 := r1
  have r2 : (Instr.mapUpdate 36 (.map (some w.heap.size)) (.int .u8 116) (.int .u8 9)).run Try.prog w1 = .ok () w2 := r2
  have r3 : (Instr.mapUpdate 36 (.map (some w.heap.size)) (.int .u8 115) (.int .u8 32)).run Try.prog w2 = .ok () w3 := r3
  have r4 : (Instr.mapUpdate 36 (.map (some w.heap.size)) (.int .u8 92) (.int .u8 92)).run Try.prog w3 = .ok () w4 := r4
  have r5 : (Instr.mapUpdate 36 (.map (some w.heap.size)) (.int .u8 34) (.int .u8 34)).run Try.prog w4 = .ok () w5 := r5
  have r6 : (Instr.mapUpdate 36 (.map (some w.heap.size)) (.int .u8 39) (.int .u8 39)).run Try.prog w5 = .ok () w6 := r6
  clear h0 h1 h2 h3 h4 h5 h6 g1 g2 g3 g4 g5 g6 s1 s2 s3 s4 s5 s6 hg hb hst ml
  go_enter Try.func15, Try.ntmps15
  go_wp2
  go_ret
  exact ⟨rfl, H6.out, HB.out⟩
end Go.Proofs.Ytffmchbcpihjhaa.Wd
