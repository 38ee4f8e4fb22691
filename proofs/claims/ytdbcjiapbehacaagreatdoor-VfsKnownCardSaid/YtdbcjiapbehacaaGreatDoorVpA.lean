/-
  Layer 5: VpMapL VpPlain VpMem VpBase VpPath VpTake VpTurn VpChange VpKeep, one behind the other.
-/
import Derived.Maps.Own
import Derived.Maps.OwnOps
import Derived.Maps.OwnSet
import Derived.Maps.RangeWalk
import Derived.WalkKit
import Derived.Lib.LastIndexByte
import Derived.Lib.Strings
import Derived.Test.YtdbcjiapbehacaaGreatDoorProg
import Derived.Test.YtdbcjiapbehacaaGreatDoorVfB
import Derived.DeepKeys4
import Derived.Test.YtdbcjiapbehacaaGreatDoorShelf
import Derived.Deep.QuietTactic
import Derived.BigQuiet
import Derived.StillTailTactics
import Derived.IntWalk
import Derived.Deep.AppendLies
/-! A map of the model's read as a list of entries, in whichever order: what looks-up, stores, deletes, lengths and ranges do with it. -/
namespace Go.Proofs.YtdbcjiapbehacaaGreatDoor.Vp
open Go.Maps Go.MapKept Go.WideShapes
open Go.ChangeMaps (notKey putKey delKey eq_of_perm_sorted rising_of_pairwise)

/-- An element's value, as it is. -/
def asIs (v : Value) : Option (DataW Value × List MemPlace) := some (.held v, [])
/-- What a key reads as. -/
noncomputable def lit (P : Program) (k : TypeId) (v : Value) : Lit := (keyOf P k v).getD .nil
section
variable {α β : Type}
/-- How keys and elements lie in a map of type k's keys. -/
structure Laid (P : Program) (k : TypeId) (ok : α → Prop) (mk : α → Value) : Prop where
  law : Keyed P k
  key : ∀ a, ok a → keyOf P k (mk a) = some (lit P k (mk a))
  inj : ∀ a b, mk a = mk b → a = b
variable (P : Program) (k : TypeId) (mk : α → Value) (mv : β → Value)
noncomputable def ent (p : α × β) : Lit × DataW Value := (lit P k (mk p.1), .held (mv p.2))
noncomputable def dat (l : List (α × β)) : DataW Value := .map ((l.map (ent P k mk mv)).foldr DataW.insert [])
/-- Block b is a map that holds just the entries l, no key twice. -/
structure MapL (ok : α → Prop) (w : World) (b : Nat) (l : List (α × β)) : Prop where
  own : w.ownsMap P k asIs b l.length (dat P k mk mv l)
  good : ∀ p ∈ l, ok p.1
  apart : l.Pairwise (fun p q => p.1 ≠ q.1)
def look [DecidableEq α] (l : List (α × β)) (a : α) : Option β := (l.find? fun p => decide (p.1 = a)).map (·.2)
def strike [DecidableEq α] (l : List (α × β)) (a : α) : List (α × β) := l.filter fun p => !decide (p.1 = a)
def store [DecidableEq α] (l : List (α × β)) (a : α) (b : β) : List (α × β) := (a, b) :: strike l a
variable {P k mk mv} {ok : α → Prop} {w : World} {b n : Nat} {l : List (α × β)}

section
variable [DecidableEq α]
theorem look_mem {a : α} {v : β} (h : look l a = some v) : (a, v) ∈ l := by
  unfold look at h
  obtain ⟨p, hp, rfl⟩ := Option.map_eq_some_iff.1 h
  have h1 := List.mem_of_find?_eq_some hp
  have h2 : p.1 = a := by simpa using List.find?_some hp
  rw [← h2]; exact h1
theorem look_none {a : α} : look l a = none ↔ ∀ p ∈ l, p.1 ≠ a := by
  unfold look
  rw [Option.map_eq_none_iff, List.find?_eq_none]
  simp
theorem look_of_mem (hd : l.Pairwise (fun p q => p.1 ≠ q.1)) {a : α} {v : β} (h : (a, v) ∈ l) : look l a = some v := by
  induction l with
  | nil => cases h
  | cons x l ih =>
    obtain ⟨h1, h2⟩ := List.pairwise_cons.1 hd
    unfold look
    rw [List.find?_cons]
    rcases List.mem_cons.1 h with rfl | h
    · simp
    · have : x.1 ≠ a := h1 _ h
      simp only [this, decide_false]
      exact ih h2 h
theorem look_perm {l' : List (α × β)} (hd : l.Pairwise (fun p q => p.1 ≠ q.1)) (hp : l.Perm l') (a : α) : look l a = look l' a := by
  have hd' : l'.Pairwise (fun p q => p.1 ≠ q.1) := (hp.pairwise_iff (fun {_ _} h => Ne.symm h)).1 hd
  cases h : look l' a with
  | none => rw [look_none] at h ⊢; exact fun p hp' => h p (hp.mem_iff.1 hp')
  | some v => exact look_of_mem hd (hp.mem_iff.2 (look_mem h))
theorem strike_apart (hd : l.Pairwise (fun p q => p.1 ≠ q.1)) (a : α) : (strike l a).Pairwise (fun p q => p.1 ≠ q.1) := hd.filter _
theorem mem_strike {a : α} {p : α × β} : p ∈ strike l a ↔ p ∈ l ∧ p.1 ≠ a := by simp [strike]
theorem store_apart (hd : l.Pairwise (fun p q => p.1 ≠ q.1)) (a : α) (v : β) : (store l a v).Pairwise (fun p q => p.1 ≠ q.1) :=
  List.pairwise_cons.2 ⟨fun _ hp => (mem_strike.1 hp).2.symm, strike_apart hd a⟩
theorem look_strike_same {a : α} : look (strike l a) a = none := look_none.2 fun _ hp => (mem_strike.1 hp).2
theorem look_strike_other {a c : α} (h : c ≠ a) : look (strike l a) c = look l c := by
  unfold look strike
  rw [List.find?_filter]
  congr 1
  induction l with
  | nil => rfl
  | cons x l ih =>
    rw [List.find?_cons, List.find?_cons]
    by_cases hx : x.1 = c
    · have : x.1 ≠ a := by rw [hx]; exact h
      simp [hx, h]
    · simp [hx]; simpa using ih
theorem look_store_same {a : α} {v : β} : look (store l a v) a = some v := by simp [look, store]
theorem look_store_other {a c : α} {v : β} (h : c ≠ a) : look (store l a v) c = look l c := by
  rw [← look_strike_other (l := l) h]
  unfold look store
  rw [List.find?_cons]
  simp [h.symm]
theorem strike_none {a : α} (h : look l a = none) : strike l a = l := by
  unfold strike
  rw [List.filter_eq_self]
  intro p hp
  simpa using look_none.1 h p hp
theorem length_strike_some (hd : l.Pairwise (fun p q => p.1 ≠ q.1)) {a : α} {v : β} (h : look l a = some v) : (strike l a).length + 1 = l.length := by
  induction l with
  | nil => simp [look] at h
  | cons x l ih =>
    obtain ⟨h1, h2⟩ := List.pairwise_cons.1 hd
    by_cases hx : x.1 = a
    · have hn : look l a = none := look_none.2 fun p hp => by rw [← hx]; exact (h1 p hp).symm
      have : strike (x :: l) a = l := by
        have e := strike_none hn
        unfold strike at e ⊢
        rw [List.filter_cons]; simp [hx, e]
      rw [this]; rfl
    · have hl : look l a = some v := by
        unfold look at h ⊢; rw [List.find?_cons] at h; simpa [hx] using h
      have e : strike (x :: l) a = x :: strike l a := by unfold strike; rw [List.filter_cons]; simp [hx]
      rw [e]; simp [ih h2 hl]

end

/-- How many there are is at most how many are read. -/
theorem MapL.of_own {n : Nat} (h : w.ownsMap P k asIs b n (dat P k mk mv l)) (hg : ∀ p ∈ l, ok p.1) (hd : l.Pairwise (fun p q => p.1 ≠ q.1)) : MapL P k mk mv ok w b l := by
  obtain ⟨es, clock, h1, h2, _, h4⟩ := h
  refine ⟨⟨es, clock, h1, h2, ?_, h4⟩, hg, hd⟩
  have e := congrArg Maps.size h4
  simp [dat, Maps.size, length_sorted] at e
  omega

section
variable (L : Laid P k ok mk)
include L
theorem lit_inj {a c : α} (ha : ok a) (hc : ok c) (h : lit P k (mk a) = lit P k (mk c)) : a = c := by
  have h1 := L.key a ha
  have h2 := L.key c hc
  rw [h] at h1
  exact L.inj _ _ (L.law.inj h1 h2)
theorem ent_keys (hg : ∀ p ∈ l, ok p.1) : Keys (KeysOf P k) (l.map (ent P k mk mv)) := by
  intro q hq
  obtain ⟨p, hp, rfl⟩ := List.mem_map.1 hq
  exact ⟨mk p.1, L.key _ (hg p hp)⟩
theorem ent_apart (hg : ∀ p ∈ l, ok p.1) (hd : l.Pairwise (fun p q => p.1 ≠ q.1)) : (l.map (ent P k mk mv)).Pairwise (fun p q => p.1 ≠ q.1) := by
  rw [List.pairwise_map]
  exact hd.imp_of_mem fun {p q} hp hq hne e => hne (lit_inj L (hg p hp) (hg q hq) e)
section
variable [DecidableEq α]
theorem ent_notKey (hg : ∀ p ∈ l, ok p.1) {a : α} (ha : ok a) : (l.map (ent P k mk mv)).filter (notKey (lit P k (mk a))) = (strike l a).map (ent P k mk mv) := by
  rw [List.filter_map]
  unfold strike
  congr 1
  apply List.filter_congr
  intro p hp
  have hk : WideAt.IsKeyLit (lit P k (mk a)) := L.law.key (L.key a ha)
  have hi := Maps.notKey_iff (p := ent P k mk mv p) hk
  by_cases e : p.1 = a
  · subst e
    have : ¬ notKey (lit P k (mk p.1)) (ent P k mk mv p) = true := fun h => hi.1 h rfl
    simp at this ⊢; exact this
  · have : notKey (lit P k (mk a)) (ent P k mk mv p) = true := hi.2 fun h => e (lit_inj L (hg p hp) ha h)
    simp [this, e]
theorem dat_del (hg : ∀ p ∈ l, ok p.1) (hd : l.Pairwise (fun p q => p.1 ≠ q.1)) {a : α} (ha : ok a) : (dat P k mk mv l).del (lit P k (mk a)) = dat P k mk mv (strike l a) := by
  unfold dat
  rw [DataW.del_eq, ← Maps.sorted_del (L.law.one) (ent_keys L hg) (ent_apart L hg hd) (.refl _), ent_notKey L hg ha]
theorem dat_put (hg : ∀ p ∈ l, ok p.1) (hd : l.Pairwise (fun p q => p.1 ≠ q.1)) {a : α} (ha : ok a) (v : β) : (dat P k mk mv l).put (lit P k (mk a)) (.held (mv v)) = dat P k mk mv (store l a v) := by
  unfold dat
  rw [DataW.put_eq, ← Maps.sorted_put (L.law.one) ⟨mk a, L.key a ha⟩ (ent_keys L hg) (ent_apart L hg hd) (.refl _), ent_notKey L hg ha]
  rfl
end
theorem dat_perm {l' : List (α × β)} (hg : ∀ p ∈ l, ok p.1) (hd : l.Pairwise (fun p q => p.1 ≠ q.1)) (hp : l.Perm l') : dat P k mk mv l = dat P k mk mv l' := by
  have hg' : ∀ p ∈ l', ok p.1 := fun p h => hg p (hp.mem_iff.2 h)
  have hd' : l'.Pairwise (fun p q => p.1 ≠ q.1) := (hp.pairwise_iff (fun {_ _} h => Ne.symm h)).1 hd
  unfold dat
  congr 1
  exact eq_of_perm_sorted (((sorted_perm _).trans (hp.map _)).trans (sorted_perm _).symm) (sorted_sorted L.law.one _ (ent_keys L hg) (ent_apart L hg hd)) (sorted_sorted L.law.one _ (ent_keys L hg') (ent_apart L hg' hd'))
theorem MapL.perm {l' : List (α × β)} (h : MapL P k mk mv ok w b l) (hp : l.Perm l') : MapL P k mk mv ok w b l' :=
  ⟨by rw [← dat_perm L h.good h.apart hp, ← hp.length_eq]; exact h.own, fun p hp' => h.good p (hp.mem_iff.2 hp'), (hp.pairwise_iff (fun {_ _} h => Ne.symm h)).1 h.apart⟩
section
variable [DecidableEq α]
theorem dat_at (hg : ∀ p ∈ l, ok p.1) (hd : l.Pairwise (fun p q => p.1 ≠ q.1)) {a : α} (ha : ok a) (z : DataW Value) : (dat P k mk mv l).atKey (lit P k (mk a)) z = ((look l a).map fun v => DataW.held (mv v)).getD z := by
  have hr : DataW.rising ((l.map (ent P k mk mv)).foldr DataW.insert []) = true := rising_of_pairwise _ (sorted_sorted L.law.one _ (ent_keys L hg) (ent_apart L hg hd))
  have h := atKey_sorted (l.map (ent P k mk mv)) hr (lit P k (mk a)) (L.law.key (L.key a ha))
  cases hl : look l a with
  | none =>
    refine (h.1 fun q hq e => ?_) z
    obtain ⟨p, hp, rfl⟩ := List.mem_map.1 hq
    exact look_none.1 hl p hp (lit_inj L (hg p hp) ha e)
  | some v => exact h.2 (ent P k mk mv (a, v)) (List.mem_map.2 ⟨_, look_mem hl, rfl⟩) rfl z
theorem dat_has (hg : ∀ p ∈ l, ok p.1) (hd : l.Pairwise (fun p q => p.1 ≠ q.1)) {a : α} (ha : ok a) : Maps.has (dat P k mk mv l) (lit P k (mk a)) = (look l a).isSome := by
  have h := dat_at (mv := mv) L hg hd ha
  cases hl : look l a with
  | none => exact Maps.has_false_of_atKey fun z => by rw [h z, hl]; rfl
  | some v => exact Maps.has_true_of_atKey (y := .held (mv v)) fun z => by rw [h z, hl]; rfl
end
end
theorem dat_size : Maps.size (dat P k mk mv l) = l.length := by simp [dat, Maps.size, length_sorted]
theorem MapL.kept {w' : World} {row : Option Nat} (h : MapL P k mk mv ok w b l) (hg : w.grownBy w' row) (hne : some b ≠ row) : MapL P k mk mv ok w' b l := ⟨h.own.kept hg hne, h.good, h.apart⟩
theorem MapL.lt (h : MapL P k mk mv ok w b l) : b < w.heap.size := h.own.lt
theorem MapL.same {w' : World} (h : MapL P k mk mv ok w b l) (hb : w'.heap[b]? = w.heap[b]?) : MapL P k mk mv ok w' b l := by
  obtain ⟨⟨es, clock, h1, h2⟩, h3, h4⟩ := h
  exact ⟨⟨es, clock, hb.trans h1, h2⟩, h3, h4⟩
theorem MapL.made (w : World) : MapL P k mk mv ok (w.alloc (.map #[] 0)) w.heap.size [] := ⟨World.ownsMap_made w P k asIs, fun _ h => (by cases h), List.Pairwise.nil⟩
/-- It is a map, not a block of cells. -/
theorem MapL.kind (h : MapL P k mk mv ok w b l) : ∃ es clock, w.heap[b]? = some (.map es clock) := by
  obtain ⟨⟨es, clock, h1, _⟩, _⟩ := h
  exact ⟨es, clock, h1⟩
section
variable (L : Laid P k ok mk) {t e : TypeId} (ht : P.underlying t = some (.map k e)) [DecidableEq α]
include L ht
/-- m[k]. -/
theorem MapL.look_run (h : MapL P k mk mv ok w b l) {z : Value} (hz : (zeroValue e).run P w = .ok z w) {a : α} (ha : ok a) :
    (Instr.lookup t (.map (some b)) (mk a) false).run P w = .ok (((look l a).map mv).getD z) w := by
  obtain ⟨v, ps, hr, hv⟩ := h.own.lookup L.law ht hz (zd := .held z) (zp := []) rfl (L.key a ha)
  rw [dat_at L h.good h.apart ha] at hv
  rw [hr]
  congr 1
  cases hl : look l a with
  | none => rw [hl] at hv; simp [asIs] at hv; exact hv.1
  | some u => rw [hl] at hv; simp [asIs] at hv; exact hv.1
/-- v, ok := m[k]. -/
theorem MapL.look_ok_run (h : MapL P k mk mv ok w b l) {z : Value} (hz : (zeroValue e).run P w = .ok z w) {a : α} (ha : ok a) :
    (Instr.lookup t (.map (some b)) (mk a) true).run P w = .ok (.tuple #[((look l a).map mv).getD z, .bool (look l a).isSome]) w := by
  obtain ⟨v, ps, hr, hv⟩ := h.own.look_ok L.law ht hz (zd := .held z) (zp := []) rfl (L.key a ha)
  rw [dat_at L h.good h.apart ha] at hv
  rw [hr, dat_has L h.good h.apart ha]
  have hv' : v = ((look l a).map mv).getD z := by
    cases hl : look l a with
    | none => rw [hl] at hv; simp [asIs] at hv; exact hv.1
    | some u => rw [hl] at hv; simp [asIs] at hv; exact hv.1
  rw [hv']
/-- m[k] = v. -/
theorem MapL.store_run (h : MapL P k mk mv ok w b l) (hn : l.length < maxLen) {a : α} (ha : ok a) (v : β) :
    ∃ w', (Instr.mapUpdate t (.map (some b)) (mk a) (mv v)).run P w = .ok () w' ∧ MapL P k mk mv ok w' b (store l a v) ∧ w.grownBy w' (some b) ∧ w'.heap.size = w.heap.size := by
  obtain ⟨w', hr, ho, hg⟩ := h.own.store L.law ht hn (L.key a ha) (d := .held (mv v)) (ps := []) rfl
  rw [dat_put L h.good h.apart ha] at ho
  refine ⟨w', hr, MapL.of_own ho (fun p hp => ?_) (store_apart h.apart a v), hg.grown, ?_⟩
  · rcases List.mem_cons.1 hp with rfl | hp
    · exact ha
    · exact h.good p (mem_strike.1 hp).1
  · obtain ⟨_, _, _, _, _, rfl⟩ := hg; simp [ChangeMaps.setBlock]
/-- delete(m, k). -/
theorem MapL.drop_run (h : MapL P k mk mv ok w b l) {a : α} (ha : ok a) (ty : TypeId) :
    ∃ w', (Builtin.delete_ #[t, k] ty #[.map (some b), mk a]).run P w = .ok (.tuple #[]) w' ∧ MapL P k mk mv ok w' b (strike l a) ∧ w.grownBy w' (some b) ∧ w'.heap.size = w.heap.size := by
  obtain ⟨w', hr, ho, hg⟩ := h.own.drop L.law ht (L.key a ha) ty
  rw [dat_del L h.good h.apart ha] at ho
  refine ⟨w', hr, MapL.of_own ho (fun p hp => h.good p (mem_strike.1 hp).1) (strike_apart h.apart a), hg.grown, ?_⟩
  obtain ⟨_, _, _, _, _, rfl⟩ := hg; simp [ChangeMaps.setBlock]
end
/-- len(m). -/
theorem MapL.len_run (h : MapL P k mk mv ok w b l) {t e : TypeId} (ht : P.underlying t = some (.map k e)) (ty : TypeId) : (Builtin.len_ #[t] ty #[.map (some b)]).run P w = .ok (.int .i64 l.length) w := by
  have := h.own.len ht ty
  rwa [dat_size] at this
/-! ### At the operation -/
section
variable (L : Laid P k ok mk) {t e : TypeId} (ht : P.underlying t = some (.map k e)) [DecidableEq α] {ops : Array Oper} {rest : List Oper} {o : Oper} {a : Act} {Q : Exit → Act → World → Prop} {K : Act → World → Prop} {c : α}
include L ht
theorem wp_store (m x u : Operand) (hop : o.op = Op.mapUpdate t m x u) (h : MapL P k mk mv ok w b l) (hn : l.length < maxLen) (hm : a.eval m = .map (some b)) (hx : a.eval x = mk c) (hc : ok c) (v : β) (hv : a.eval u = mv v)
    (hK : ∀ w', MapL P k mk mv ok w' b (store l c v) → w.grownBy w' (some b) → w'.heap.size = w.heap.size → K (a.put o.dst undef) w') : o.wp P a w K Q := by
  obtain ⟨w', hrun, r1, r2, r3⟩ := h.store_run L ht hn hc v
  unfold Oper.wp
  simp [execOp, hop, hm, hx, hv, hrun, Result.andThen]
  exact hK w' r1 r2 r3
theorem wp_drop (m x : Operand) (hop : o.op = Op.call { callee := Callee.builtin Builtin.delete, args := #[m, x], argTypes := #[t, k] }) (h : MapL P k mk mv ok w b l) (hm : a.eval m = .map (some b)) (hx : a.eval x = mk c) (hc : ok c)
    (hK : ∀ w', MapL P k mk mv ok w' b (strike l c) → w.grownBy w' (some b) → w'.heap.size = w.heap.size → K (a.put o.dst (.tuple #[])) w') : o.wp P a w K Q := by
  obtain ⟨w', hrun, r1, r2, r3⟩ := h.drop_run L ht hc o.type
  unfold Oper.wp
  simp [execOp, hop, resolve, invoke, builtin, hm, hx, hrun, Result.andThen]
  exact hK w' r1 r2 r3
theorem wpList_store (hg : o.guard = none) (m x u : Operand) (hop : o.op = Op.mapUpdate t m x u) (h : MapL P k mk mv ok w b l) (hn : l.length < maxLen) (hm : a.eval m = .map (some b)) (hx : a.eval x = mk c) (hc : ok c) (v : β) (hv : a.eval u = mv v)
    (hK : ∀ w', MapL P k mk mv ok w' b (store l c v) → w.grownBy w' (some b) → w'.heap.size = w.heap.size → wpList P ops Q rest (a.put o.dst undef) w') : wpList P ops Q (o :: rest) a w :=
  wpList_plain hg fun _ hK' => wp_store L ht m x u hop h hn hm hx hc v hv fun w' h1 h2 h3 => hK' _ _ (hK w' h1 h2 h3)
theorem wpList_drop (hg : o.guard = none) (m x : Operand) (hop : o.op = Op.call { callee := Callee.builtin Builtin.delete, args := #[m, x], argTypes := #[t, k] }) (h : MapL P k mk mv ok w b l) (hm : a.eval m = .map (some b)) (hx : a.eval x = mk c) (hc : ok c)
    (hK : ∀ w', MapL P k mk mv ok w' b (strike l c) → w.grownBy w' (some b) → w'.heap.size = w.heap.size → wpList P ops Q rest (a.put o.dst (.tuple #[])) w') : wpList P ops Q (o :: rest) a w :=
  wpList_plain hg fun _ hK' => wp_drop L ht m x hop h hm hx hc fun w' h1 h2 h3 => hK' _ _ (hK w' h1 h2 h3)
end
end
end Go.Proofs.YtdbcjiapbehacaaGreatDoor.Vp

/-! Layer 5: the program's file system as plain data, and what its calls do with it. -/
namespace Go.Proofs.YtdbcjiapbehacaaGreatDoor.Vp
open Go

/-- Where a file's name stands. -/
structure Plc where
  (d n : ByteArray)
  deriving DecidableEq
/-- What is done with a directory's names at once. -/
structure Stp where
  (gone name : ByteArray)
  file : Option Nat
structure Fil where
  (c d : ByteArray)
structure Pf where
  room : Int
  waits : List (ByteArray × List Stp)
  (names dur : List (Plc × Nat))
  files : Nat → Fil
  made : Nat
  left : Int
  down : Bool

def takeS (l : List (Plc × Nat)) (dir : ByteArray) (x : Stp) : List (Plc × Nat) :=
  match x.file with
  | none => strike l ⟨dir, x.gone⟩
  | some i => store (strike l ⟨dir, x.gone⟩) ⟨dir, x.name⟩ i
def takeAll (l : List (Plc × Nat)) (dir : ByteArray) (xs : List Stp) : List (Plc × Nat) := xs.foldl (fun l x => takeS l dir x) l
def waitsOf (s : Pf) (dir : ByteArray) : List Stp := (look s.waits dir).getD []
def isDirS (s : Pf) (path : ByteArray) : Bool := (look s.waits path).isSome
def changeS (s : Pf) (dir : ByteArray) (x : Stp) : Pf := { s with names := takeS s.names dir x, waits := store s.waits dir (waitsOf s dir ++ [x]) }
def keepS (s : Pf) (dir : ByteArray) (k : Nat) : Pf := { s with dur := takeAll s.dur dir ((waitsOf s dir).take k), waits := store s.waits dir [] }
def longS (s : Pf) : Option Nat → Nat
  | none => 0
  | some i => (s.files i).c.size
def usedS (s : Pf) : Nat := (s.names.map fun p => (s.files p.2).c.size).sum
def tickS (s : Pf) : Pf := if 0 < s.left then { s with left := s.left - 1, down := s.down || decide (s.left - 1 = 0) } else s

/-! ### Paths -/
/-- What stands between slashes. -/
def pieces : List UInt8 → List (List UInt8)
  | [] => [[]]
  | c :: l => if c = 47 then [] :: pieces l else match pieces l with
    | [] => [[c]]
    | x :: xs => (c :: x) :: xs
def goodName (l : List UInt8) : Bool := decide (1 ≤ l.length) && decide (l.length ≤ 64) && !l.contains 0
def hasName : List UInt8 → Bool
  | [] => false
  | c :: l => decide (c = 47) && (pieces l).all goodName
def isPath (l : List UInt8) : Bool := decide (l = [47]) || hasName l
/-- The place of the last slash. -/
def cutOf (p : ByteArray) : Nat := (Lib.lastIndexByte p 47).toNat
def plcOf (p : ByteArray) : Plc := ⟨p.extract 0 (max (cutOf p) 1), p.extract (cutOf p + 1) p.size⟩
def rootB : ByteArray := ⟨#[47]⟩
/-- The path of what stands there. -/
def pathOfP (x : Plc) : ByteArray := (⟨(Lib.trimSuffix x.d.data.toList [47]).toArray⟩ ++ rootB) ++ x.n
/-- A slash ahead, and something behind it. -/
def Slashed (p : ByteArray) : Prop := 2 ≤ p.size ∧ ∃ l, p.data.toList = 47 :: l
theorem Slashed.cut {p : ByteArray} (h : Slashed p) : Lib.lastIndexByte p 47 = (cutOf p : Int) ∧ cutOf p < p.size := by
  obtain ⟨h2, l, hl⟩ := h
  rcases Lib.lastIndexByte_spec p 47 with ⟨_, hn⟩ | ⟨i, hi, he, _⟩
  · have h0 : ((p.data[0]!).toNat : Int) = 47 := by
      have hsz : 0 < p.data.size := by show 0 < p.size; omega
      have hg : p.data.toList[0]? = some 47 := by rw [hl]; rfl
      rw [Array.getElem?_toList, Array.getElem?_eq_getElem hsz] at hg
      injection hg with hg
      rw [getElem!_pos p.data 0 hsz, hg]; rfl
    exact absurd h0 (hn 0 (by omega))
  · unfold cutOf; rw [he]; exact ⟨by simp, by simpa using hi⟩
theorem good_slashed {p : ByteArray} (h : hasName p.data.toList = true) : Slashed p := by
  unfold Slashed
  rw [Lib.size_eq]
  cases hl : p.data.toList with
  | nil => rw [hl] at h; simp [hasName] at h
  | cons c l =>
    rw [hl] at h
    simp only [hasName, Bool.and_eq_true, decide_eq_true_eq] at h
    obtain ⟨rfl, h⟩ := h
    refine ⟨?_, l, rfl⟩
    cases l with
    | nil => simp [pieces, goodName] at h
    | cons d l => simp

/-! ### What calls do -/
def beginRes (s : Pf) (right : Bool) : Int := if (tickS s).down then 52 else if right then 0 else 2
def fileOf (s : Pf) (path : ByteArray) : Option Nat := look s.names (plcOf path)
def findRes (s : Pf) (path : ByteArray) : Option Nat × Int :=
  if beginRes s (hasName path.data.toList) ≠ 0 then (none, beginRes s (hasName path.data.toList)) else if isDirS s path then (none, 53) else match fileOf s path with
    | none => (none, 50)
    | some i => (some i, 0)
def findDirRes (s : Pf) (path : ByteArray) : Int :=
  if beginRes s (isPath path.data.toList) ≠ 0 then beginRes s (isPath path.data.toList) else if path ≠ rootB ∧ (fileOf s path).isSome then 53 else if isDirS s path then 0 else 50
def mkdirRes (s : Pf) (path : ByteArray) : Int :=
  if beginRes s (hasName path.data.toList) ≠ 0 then beginRes s (hasName path.data.toList) else if !isDirS s (plcOf path).d then 50 else if isDirS s path || (fileOf s path).isSome then 53 else if 256 ≤ s.waits.length then 3 else 0
def mkdirS (s : Pf) (path : ByteArray) : Pf := if mkdirRes s path = 0 then { tickS s with waits := store s.waits (pathOfP (plcOf path)) [] } else tickS s
def writeRes (s : Pf) (path b : ByteArray) : Int :=
  if beginRes s (hasName path.data.toList) ≠ 0 then beginRes s (hasName path.data.toList) else if !isDirS s (plcOf path).d then 50 else if isDirS s path then 53 else
  if 65536 < b.size ∨ (fileOf s path = none ∧ 256 ≤ s.names.length) then 3 else if (usedS s : Int) - longS s (fileOf s path) + b.size > s.room then 51 else 0
def putFile (f : Nat → Fil) (i : Nat) (x : Fil) : Nat → Fil := fun j => if j = i then x else f j
def writeS (s : Pf) (path b : ByteArray) : Pf :=
  if writeRes s path b ≠ 0 then tickS s else match fileOf s path with
    | some i => { tickS s with files := putFile s.files i ⟨b, (s.files i).d⟩ }
    | none => { changeS { tickS s with made := s.made + 1 } (plcOf path).d ⟨⟨#[]⟩, (plcOf path).n, some (s.made + 1)⟩ with files := putFile s.files (s.made + 1) ⟨b, ⟨#[]⟩⟩ }
def syncS (s : Pf) (path : ByteArray) : Pf := match (findRes s path).1 with
  | none => tickS s
  | some i => { tickS s with files := putFile s.files i ⟨(s.files i).c, (s.files i).c⟩ }
def syncDirS (s : Pf) (path : ByteArray) : Pf := if findDirRes s path ≠ 0 then tickS s else keepS (tickS s) path (waitsOf s path).length
def renameRes (s : Pf) (a b : ByteArray) : Int :=
  if beginRes s (hasName a.data.toList && hasName b.data.toList) ≠ 0 then beginRes s (hasName a.data.toList && hasName b.data.toList) else if isDirS s a || isDirS s b then 53 else match fileOf s a with
    | none => 50
    | some _ => if (plcOf a).d ≠ (plcOf b).d then 2 else 0
def renameS (s : Pf) (a b : ByteArray) : Pf := if renameRes s a b ≠ 0 ∨ plcOf a = plcOf b then tickS s else changeS (tickS s) (plcOf a).d ⟨(plcOf a).n, (plcOf b).n, fileOf s a⟩
def removeS (s : Pf) (path : ByteArray) : Pf := if (findRes s path).2 ≠ 0 then tickS s else changeS (tickS s) (plcOf path).d ⟨(plcOf path).n, ⟨#[]⟩, none⟩

/-! ### What is in use; how much there is -/
def Live (s : Pf) (i : Nat) : Prop := (∃ p ∈ s.names, p.2 = i) ∨ (∃ p ∈ s.dur, p.2 = i) ∨ ∃ x ∈ s.waits, ∃ st ∈ x.2, st.file = some i
def okS (x : ByteArray) : Prop := x.size ≤ 1048576
def okP (x : Plc) : Prop := okS x.d ∧ okS x.n
def steps (l : List (ByteArray × List Stp)) : Nat := (l.map fun x => x.2.length).sum
/-- No more than T of anything. -/
structure Fits (s : Pf) (T : Nat) : Prop where
  names : s.names.length ≤ T
  dur : s.dur.length + steps s.waits ≤ T
  dirs : s.waits.length ≤ T
  made : s.made ≤ T
  left : -9223372036854775808 ≤ s.left ∧ s.left ≤ 9223372036854775807
  files : ∀ i, Live s i → (s.files i).c.size ≤ 65536 ∧ (s.files i).d.size ≤ 65536
  strs : ∀ x ∈ s.waits, ∀ st ∈ x.2, okS st.gone ∧ okS st.name
  root : (look s.waits rootB).isSome
end Go.Proofs.YtdbcjiapbehacaaGreatDoor.Vp

/-! Layer 5: the program's file system in memory. -/
namespace Go.Proofs.YtdbcjiapbehacaaGreatDoor.Vp
open Go.RowKit Go.Maps
open Go.Proofs.YtdbcjiapbehacaaGreatDoor.Vf (Hold OwnR Moves Reads Elems ret_int)

def mkPlc (x : Plc) : Value := .agg #[.string x.d, .string x.n]
/-- Where a file system lies: its three maps' blocks, its files', its waiting rows. -/
structure Loc where
  (bw bn bd : Nat)
  loc : Nat → Nat
  rows : ByteArray → Value
def pv (l : Loc) (i : Nat) : Value := .pointer (some ⟨l.loc i, 0, none⟩)
def stCells (l : Loc) (x : Stp) : List Value := [.string x.gone, .string x.name, match x.file with | none => .pointer none | some i => pv l i]
def filCells (i : Nat) (x : Fil) : List Value := [.int .i64 i, .string x.c, .string x.d]
def topCells (s : Pf) (l : Loc) : List Value := [.int .i64 s.room, .map (some l.bw), .map (some l.bn), .map (some l.bd), .int .i64 s.made, .int .i64 s.left, .bool s.down]
abbrev NamesAt (w : World) (l : Loc) (b : Nat) (ns : List (Plc × Nat)) : Prop := MapL Tryz.prog 79 mkPlc (pv l) okP w b ns
abbrev WaitsAt (w : World) (l : Loc) (b : Nat) (ws : List (ByteArray × List Stp)) : Prop := MapL Tryz.prog 9 Value.string (id : Value → Value) okS w b (ws.map fun x => (x.1, l.rows x.1))
structure At (w : World) (p : Nat) (s : Pf) (l : Loc) : Prop where
  top : Hold w p 58 (topCells s l)
  waits : WaitsAt w l l.bw s.waits
  names : NamesAt w l l.bn s.names
  dur : NamesAt w l l.bd s.dur
  apart : l.bw ≠ l.bn ∧ l.bw ≠ l.bd ∧ l.bn ≠ l.bd
  files : ∀ i, Live s i → 1 ≤ i ∧ i ≤ s.made ∧ Hold w (l.loc i) 83 (filCells i (s.files i))
  rows : ∀ x ∈ s.waits, OwnR w 0 86 3 (l.rows x.1) (x.2.map (stCells l))
  own : ∀ x ∈ s.waits, ∀ y ∈ s.waits, x.1 ≠ y.1 → (l.rows x.1).ownBlock = none ∨ (l.rows x.1).ownBlock ≠ (l.rows y.1).ownBlock
/-- The blocks that it writes. -/
def Foot (p : Nat) (s : Pf) (l : Loc) (g : Nat) : Prop := g = p ∨ g = l.bw ∨ g = l.bn ∨ g = l.bd ∨ (∃ i, Live s i ∧ g = l.loc i) ∨ ∃ x ∈ s.waits, (l.rows x.1).ownBlock = some g

theorem laidOut : laidOutB Tryz.prog = true := by kernel_rfl
theorem plc_row : (79 : Nat) < Tryz.prog.types.size := of_decide_eq_true (by kernel_rfl)
theorem plc_wide : (match Tryz.prog.underlying 79 with | some (.array _ _) | some (.struct _) => true | _ => false) = true := by rw [Tryz.underlying79]
theorem plc_cells : Tryz.prog.cellsOf 79 = 2 := by kernel_rfl
theorem str_cells : Tryz.prog.cellsOf 9 = 1 := by kernel_rfl
theorem plc_type : Tryz.prog.keyType 79 = true := by kernel_rfl
theorem plc_formed (x : Plc) : (mkPlc x).formed Tryz.prog 79 = true := by simp [mkPlc, Value.formed, Tryz.underlying79, plc_cells]
theorem small_max {x : ByteArray} (h : okS x) : x.size ≤ maxLen := by unfold okS at h; unfold maxLen; omega
theorem plc_lits (D : Nat) (x : Plc) (h : okP x) : Tryz.prog.keyLits (D + 2) 79 (mkPlc x).cells.toList = some [.string x.d.data.toList, .string x.n.data.toList] := by
  have h1 := small_max h.1
  have h2 := small_max h.2
  simp [Program.keyLits, Tryz.underlying79, Tryz.underlying9, plc_cells, str_cells, mkPlc, Value.cells, h1, h2]
theorem plc_key (x : Plc) (h : okP x) : ∃ kl, keyOf Tryz.prog 79 (mkPlc x) = some kl := by
  obtain ⟨D, hD⟩ : ∃ D, Tryz.prog.types.size = D + 1 := ⟨Tryz.prog.types.size - 1, by have := plc_row; omega⟩
  refine ⟨.string (keyBytes [.string x.d.data.toList, .string x.n.data.toList]), ?_⟩
  unfold keyOf
  rw [Tryz.underlying79]
  simp only [plc_type, plc_formed, hD, plc_lits D x h]
  rfl
set_option maxRecDepth 100000 in
theorem plc_laid : Laid Tryz.prog 79 okP mkPlc where
  law := Keyed.of_law (deep_law_laid laidOut (m := 2) (by omega) plc_row (by kernel_rfl) plc_wide)
  key x h := by obtain ⟨kl, hk⟩ := plc_key x h; rw [hk]; unfold lit; rw [hk]; rfl
  inj a b h := by
    cases a; cases b
    simp [mkPlc] at h
    obtain ⟨rfl, rfl⟩ := h
    rfl
theorem str_laid : Laid Tryz.prog 9 okS Value.string where
  law := string_keyed Tryz.underlying9
  key x h := by
    have : keyOf Tryz.prog 9 (.string x) = some (.string x.data.toList) := by
      have := Go.WideMaps.keyOf_string_mk (P := Tryz.prog) Tryz.underlying9 (small_max h)
      exact this
    rw [this]; unfold lit; rw [this]; rfl
  inj a b h := by injection h
theorem zero_ptr (w : World) : (zeroValue 81).run Tryz.prog w = .ok (.pointer none) w := by kernel_rfl
theorem zero_row (w : World) : (zeroValue 90).run Tryz.prog w = .ok (.slice none 0 0) w := by kernel_rfl
end Go.Proofs.YtdbcjiapbehacaaGreatDoor.Vp

/-! Layer 5: what is read of the program's file system; what stays while others turn. -/
namespace Go.Proofs.YtdbcjiapbehacaaGreatDoor.Vp
open Go.RowKit Go.Maps
open Go.Proofs.YtdbcjiapbehacaaGreatDoor.Vf (Hold OwnR Moves Reads Elems ret_int Hold.cell Hold.frozen Hold.keep Hold.lt Hold.set OwnR.blk OwnR.kind OwnR.lt kind_ne)

theorem look_map {β γ : Type} (l : List (ByteArray × β)) (f : ByteArray → γ) (a : ByteArray) : look (l.map fun x => (x.1, f x.1)) a = (look l a).map fun _ => f a := by
  induction l with
  | nil => rfl
  | cons x l ih =>
    unfold look at ih ⊢
    rw [List.map_cons, List.find?_cons, List.find?_cons]
    by_cases h : x.1 = a
    · simp [h]
    · simp only [h, decide_false]; exact ih
/-- The slice that waits in a directory. -/
def rowOf (s : Pf) (l : Loc) (path : ByteArray) : Value := ((look s.waits path).map fun _ => l.rows path).getD (.slice none 0 0)
def fileV (s : Pf) (l : Loc) (x : Plc) : Value := ((look s.names x).map (pv l)).getD (.pointer none)
section
variable {w w' : World} {p : Nat} {s : Pf} {l : Loc}
theorem At.lt (h : At w p s l) {g : Nat} (hg : Foot p s l g) : g < w.heap.size := by
  rcases hg with rfl | rfl | rfl | rfl | ⟨i, hi, rfl⟩ | ⟨x, hx, hr⟩
  · exact h.top.lt
  · exact h.waits.lt
  · exact h.names.lt
  · exact h.dur.lt
  · exact (h.files i hi).2.2.lt
  · exact ((h.rows x hx).lt g hr).2
/-- Other blocks turn. -/
theorem At.keep (h : At w p s l) (hk : ∀ g, Foot p s l g → w'.heap[g]? = w.heap[g]?) : At w' p s l where
  top := h.top.keep (hk p (.inl rfl))
  waits := h.waits.same (hk _ (.inr (.inl rfl)))
  names := h.names.same (hk _ (.inr (.inr (.inl rfl))))
  dur := h.dur.same (hk _ (.inr (.inr (.inr (.inl rfl)))))
  apart := h.apart
  files i hi := ⟨(h.files i hi).1, (h.files i hi).2.1, (h.files i hi).2.2.keep (hk _ (.inr (.inr (.inr (.inr (.inl ⟨i, hi, rfl⟩))))))⟩
  rows x hx := (h.rows x hx).blk fun g hg => hk g (.inr (.inr (.inr (.inr (.inr ⟨x, hx, hg⟩)))))
  own := h.own
theorem At.below (h : At w p s l) (hb : Below w.heap.size w w') : At w' p s l := h.keep fun g hg => hb.block g (h.lt hg)
theorem At.cell (h : At w p s l) (i : Nat) : w.cell? ⟨p, i, none⟩ = (topCells s l)[i]? := h.top.cell i
theorem At.row (h : At w p s l) (path : ByteArray) : OwnR w 0 86 3 (rowOf s l path) ((waitsOf s path).map (stCells l)) := by
  unfold rowOf waitsOf
  cases hl : look s.waits path with
  | none => exact OwnR.nil _ _ _ _
  | some xs => exact h.rows _ (look_mem hl)
theorem waits_look {b : Nat} (h : WaitsAt w l b s.waits) {path : ByteArray} (hp : okS path) : (Instr.lookup 55 (.map (some b)) (.string path) false).run Tryz.prog w = .ok (rowOf s l path) w := by
  have := MapL.look_run str_laid Tryz.underlying55 h (zero_row w) hp
  rw [look_map] at this
  rw [this]
  unfold rowOf
  cases look s.waits path <;> rfl
theorem At.look_row (h : At w p s l) {path : ByteArray} (hp : okS path) : (Instr.lookup 55 (.map (some l.bw)) (.string path) false).run Tryz.prog w = .ok (rowOf s l path) w := waits_look h.waits hp
theorem At.look_dir (h : At w p s l) {path : ByteArray} (hp : okS path) : (Instr.lookup 55 (.map (some l.bw)) (.string path) true).run Tryz.prog w = .ok (.tuple #[rowOf s l path, .bool (isDirS s path)]) w := by
  have := MapL.look_ok_run str_laid Tryz.underlying55 h.waits (zero_row w) hp
  rw [look_map] at this
  rw [this]
  unfold rowOf isDirS
  cases look s.waits path <;> rfl
theorem At.look_file (h : At w p s l) {x : Plc} (hx : okP x) : (Instr.lookup 56 (.map (some l.bn)) (.agg #[.string x.d, .string x.n]) false).run Tryz.prog w = .ok (fileV s l x) w :=
  MapL.look_run plc_laid Tryz.underlying56 h.names (zero_ptr w) hx
theorem At.len_dirs (h : At w p s l) (ty : TypeId) : (Builtin.len_ #[55] ty #[.map (some l.bw)]).run Tryz.prog w = .ok (.int .i64 s.waits.length) w := by
  have := MapL.len_run h.waits Tryz.underlying55 ty
  rwa [List.length_map] at this
theorem At.len_names (h : At w p s l) (ty : TypeId) : (Builtin.len_ #[56] ty #[.map (some l.bn)]).run Tryz.prog w = .ok (.int .i64 s.names.length) w :=
  MapL.len_run h.names Tryz.underlying56 ty
end

/-! ### Small calls -/
set_option maxRecDepth 100000 in
theorem isDir_any (p : Nat) (s : Pf) (l : Loc) (path : ByteArray) (w : World) (h : At w p s l) (hp : okS path) :
    Calls Tryz.prog 45 #[.pointer (some ⟨p, 0, none⟩), .string path] w fun e w' => e = .returned (.bool (isDirS s path)) ∧ w = w' := by
  have h1 : w.cell? ⟨p, 1, none⟩ = some (.map (some l.bw)) := by rw [h.cell]; rfl
  have hl := h.look_dir hp
  go_enter Tryz.func45, Tryz.ntmps45
  go_wp2_with fail
  go_ret
  exact ⟨rfl, rfl⟩
set_option maxRecDepth 100000 in
theorem long_none (w : World) : Calls Tryz.prog 46 #[.pointer none] w fun e w' => e = .returned (.int .i64 0) ∧ w = w' := by
  go_enter Tryz.func46, Tryz.ntmps46
  go_wp2_with fail
  go_ret
  exact ⟨rfl, rfl⟩
set_option maxRecDepth 100000 in
theorem long_some (g i : Nat) (x : Fil) (w : World) (h : Hold w g 83 (filCells i x)) : Calls Tryz.prog 46 #[.pointer (some ⟨g, 0, none⟩)] w fun e w' => e = .returned (.int .i64 x.c.size) ∧ w = w' := by
  have h1 : w.cell? ⟨g, 1, none⟩ = some (.string x.c) := by rw [h.cell]; rfl
  go_enter Tryz.func46, Tryz.ntmps46
  go_wp2_with fail
  go_ret
  exact ⟨rfl, rfl⟩
set_option maxRecDepth 100000 in
theorem down_any (p : Nat) (s : Pf) (l : Loc) (w : World) (h : At w p s l) :
    Calls Tryz.prog 24 #[.pointer (some ⟨p, 0, none⟩)] w fun e w' => e = .returned (.bool s.down) ∧ w = w' := by
  have h6 : w.cell? ⟨p, 6, none⟩ = some (.bool s.down) := by rw [h.cell]; rfl
  go_enter Tryz.func24, Tryz.ntmps24
  go_wp2_with fail
  go_ret
  exact ⟨rfl, rfl⟩
end Go.Proofs.YtdbcjiapbehacaaGreatDoor.Vp

/-! Layer 5: where a path's last name stands; the path of a name that stands somewhere. -/
namespace Go.Proofs.YtdbcjiapbehacaaGreatDoor.Vp
open Go.RowKit Go.Maps
open Go.Proofs.YtdbcjiapbehacaaGreatDoor.Vf (Hold OwnR Moves ret_int wp_region_mix wpMix_free wpMix_turn wpMix_end)

set_option maxRecDepth 100000 in
theorem strClone_any (s : ByteArray) (w : World) (hs : okS s) : Calls Tryz.prog 73 #[.string s] w fun e w' => e = .returned (.string s) ∧ Below w.heap.size w w' := by
  unfold okS at hs
  go_enter Tryz.func73, Tryz.ntmps73
  go_wp2_with fail
  refine (Tryz.stringslite_Clone s _ (by omega)).mono ?_
  rintro e w' ⟨rfl, hb⟩
  go_wp2_with fail
  go_ret
  exact ⟨rfl, hb⟩

set_option maxRecDepth 100000 in
set_option maxHeartbeats 1000000 in
theorem placeOf_any (p : ByteArray) (w : World) (hs : okS p) (hp : Slashed p) :
    Calls Tryz.prog 44 #[.string p] w fun e w' => e = .returned (.agg #[.string (plcOf p).d, .string (plcOf p).n]) ∧ Below w.heap.size w w' := by
  have hs' := hs
  unfold okS at hs
  obtain ⟨hc, hlt⟩ := hp.cut
  have h2 := hp.1
  obtain ⟨c, hcc⟩ : ∃ c, cutOf p = c := ⟨_, rfl⟩
  unfold plcOf
  rw [hcc] at hc hlt ⊢
  clear hcc hp
  have HC := Lib.hid hc; clear hc
  have hm0 : (max (c : Int) 1) = ((max c 1 : Nat) : Int) := by omega
  have hm1 : max c 1 ≤ p.size := by omega
  obtain ⟨m, hm⟩ : ∃ m, max c 1 = m := ⟨_, rfl⟩
  rw [hm] at hm0 hm1 ⊢
  have HM := Lib.hid hm0; clear hm hm0
  go_enter Tryz.func44, Tryz.ntmps44
  go_wp2_with fail
  refine (strClone_any p _ hs').mono ?_
  rintro e w1 ⟨rfl, hb⟩
  have hz : w.heap.size < w1.heap.size := by have := hb.size; simp at this; omega
  have hc0 := hb.cell (p := ⟨w.heap.size, 0, none⟩) (by simp)
  have hc1 := hb.cell (p := ⟨w.heap.size, 1, none⟩) (by simp)
  have hfz := hb.frozen (p := ⟨w.heap.size, 0, none⟩) (by simp)
  have hfz1 := hb.frozen (p := ⟨w.heap.size, 1, none⟩) (by simp)
  simp at hc0 hc1 hfz hfz1
  go_wp2_with fail
  refine (Tryz.strings_LastIndex_one p ⟨#[47]⟩ rfl (by omega) _).mono ?_
  rintro e w' ⟨rfl, rfl⟩
  have e2 : Lib.lastIndexByte p ((((⟨#[47]⟩ : ByteArray)[0]).toNat : Nat) : Int) = (c : Int) := HC.out
  rw [e2]
  clear e2
  go_wp2_with fail
  refine wp_region_mix (fun _ => True) [true, true, true, true, true, true, true, true, true] _ (by kernel_rfl) rfl (by kernel_rfl) trivial ?_
  dsimp only [List.dropLast, List.zip, List.zipWith, List.getLast]
  have hm0 := HM.out
  have hw1 : IntKind.i64.wrap ((c : Int) + 1) = (c : Int) + 1 := IntWalk.i64_in _ (by omega)
  have hn1 : ((c : Int) + 1).toNat = c + 1 := by omega
  have hk1 : (0 : Int) ≤ (c : Int) + 1 ∧ (c : Int) + 1 ≤ (p.size : Int) := by omega
  have hk2 : (m : Int) ≤ (p.size : Int) := by omega
  repeat (apply wpMix_free
          · intro z hz
            try dsimp only at hz
            go_simp
            all_goals with_reducible rfl
          simp only [Act.put, List.setIfInBounds_toArray, List.set_cons_zero, List.set_cons_succ])
  refine wpMix_end ?_
  clear hm0 hw1 hn1 hk1 hk2
  go_simp
  go_wp2_with fail
  exact bodyPost_ret (v := .agg #[.string (p.extract 0 m), .string (p.extract (c + 1) p.size)]) (by simp [results, Tryz.results44, go_sem, hc0, hc1]) rfl ⟨rfl, (((((Below.refl w.heap.size w).alloc (Nat.le_refl _) _).trans (hb.mono (by simp))).setCell (p := ⟨w.heap.size, 0, none⟩) (Nat.le_refl _) _).setCell (p := ⟨w.heap.size, 1, none⟩) (Nat.le_refl _) _).drew⟩

theorem rootB_list : rootB.data.toList = [47] := rfl
set_option maxRecDepth 100000 in
set_option maxHeartbeats 1000000 in
theorem path_any (x : Plc) (w : World) (hx : okP x) :
    Calls Tryz.prog 57 #[.agg #[.string x.d, .string x.n]] w fun e w' => e = .returned (.string (pathOfP x)) ∧ Below w.heap.size w w' := by
  obtain ⟨h1, h2⟩ := hx
  unfold okS at h1 h2
  obtain ⟨t, ht⟩ : ∃ t, (⟨(Lib.trimSuffix x.d.data.toList [47]).toArray⟩ : ByteArray) = t := ⟨_, rfl⟩
  have htl : t.size ≤ x.d.size := by
    rw [← ht, Lib.size_eq x.d]
    show (Lib.trimSuffix x.d.data.toList [47]).toArray.size ≤ _
    rw [List.size_toArray]
    unfold Lib.trimSuffix
    split
    · rw [List.length_take]; omega
    · omega
  unfold pathOfP
  rw [ht]
  have hc : ∀ W : World, Calls Tryz.prog 85 #[.string x.d, .string ⟨#[47]⟩] W fun e w' => e = .returned (.string t) ∧ w' = W := fun W => (Tryz.strings_TrimSuffix x.d ⟨#[47]⟩ W (by omega)).mono fun e w' ⟨he, hw⟩ => ⟨by rw [he, ← ht], hw⟩
  clear ht
  have hs1 : t.size + (⟨#[47]⟩ : ByteArray).size ≤ 9223372036854775807 := by show t.size + 1 ≤ _; omega
  have hs2 : (t ++ (⟨#[47]⟩ : ByteArray)).size + x.n.size ≤ 9223372036854775807 := by rw [ByteArray.size_append]; show t.size + 1 + _ ≤ _; omega
  go_enter Tryz.func57, Tryz.ntmps57
  go_wp2_with fail
  go_quiet ((go_at_call 85; exact Calls.quiet_of_same (hc _)))
  go_wp2_with fail
  go_ret
  exact ⟨rfl, Go.Proofs.YtdbcjiapbehacaaGreatDoor.Vf.bl_drewN ((Below.refl w.heap.size w).alloc (Nat.le_refl _) _) _⟩
end Go.Proofs.YtdbcjiapbehacaaGreatDoor.Vp

/-! Layer 5: a step with names. -/
namespace Go.Proofs.YtdbcjiapbehacaaGreatDoor.Vp
open Go.RowKit Go.Maps
open Go.Proofs.YtdbcjiapbehacaaGreatDoor.Vf (Hold OwnR Moves ret_int wp_region_mix wpMix_free wpMix_turn wpMix_end Hold.cell Hold.keep Hold.lt)

def ptrOf (l : Loc) : Option Nat → Value
  | none => .pointer none
  | some i => pv l i
theorem stCells_eq (l : Loc) (x : Stp) : stCells l x = [.string x.gone, .string x.name, ptrOf l x.file] := by
  unfold stCells ptrOf
  cases x.file <;> rfl
theorem fields_cells (w : World) (a b c : Value) (t : TypeId) : (w.alloc (.cells #[a, b, c] t)).cell? ⟨w.heap.size, 0, none⟩ = some a ∧ (w.alloc (.cells #[a, b, c] t)).cell? ⟨w.heap.size, 1, none⟩ = some b ∧ (w.alloc (.cells #[a, b, c] t)).cell? ⟨w.heap.size, 2, none⟩ = some c := by
  simp
theorem gb_alloc_then {w w' : World} {o : Obj} {b : Nat} (h : (w.alloc o).grownBy w' (some b)) : w.grownBy w' (some b) := (World.grownBy_alloc w o (some b)).trans h
set_option maxRecDepth 100000 in
set_option maxHeartbeats 1000000 in
theorem take_any (l : Loc) (b : Nat) (ns : List (Plc × Nat)) (dir : ByteArray) (x : Stp) (w : World) (h : NamesAt w l b ns) (hd : okS dir) (hg : okS x.gone) (hn : okS x.name) (hlen : ns.length ≤ 1000000) :
    Calls Tryz.prog 75 #[.map (some b), .string dir, .agg #[.string x.gone, .string x.name, ptrOf l x.file]] w fun e w' => (∃ r, e = .returned r) ∧ NamesAt w' l b (takeS ns dir x) ∧ w.grownBy w' (some b) := by
  have hlt := h.lt
  have h1 : NamesAt (w.alloc (.cells #[.string x.gone, .string x.name, ptrOf l x.file] 86)) l b ns := h.kept (World.grownBy_alloc w _ none) (by simp)
  obtain ⟨hc0, hc1, hc2⟩ := fields_cells w (.string x.gone) (.string x.name) (ptrOf l x.file) 86
  obtain ⟨g, n, f⟩ := x
  dsimp only at *
  obtain ⟨W, hW⟩ : ∃ W, w.alloc (.cells #[.string g, .string n, ptrOf l f] 86) = W := ⟨_, rfl⟩
  obtain ⟨B, hB⟩ : ∃ B, w.heap.size = B := ⟨_, rfl⟩
  have hWg : w.grownBy W (some b) := by rw [← hW]; exact World.grownBy_alloc w _ _
  have hBW : B < W.heap.size := by rw [← hW, ← hB]; simp
  rw [hW, hB] at hc0 hc1 hc2
  rw [hW] at h1
  have HH := Lib.hid h1; have HG := Lib.hid hWg
  have hbB : B ≠ b := by omega
  have hl1 : (strike ns ⟨dir, g⟩).length ≤ 1000000 := Nat.le_trans (List.length_filter_le _ _) hlen
  clear h h1 hWg
  cases f with
  | none =>
    unfold ptrOf at hc2 hW ⊢
    dsimp only at hc2 hW ⊢
    go_enter Tryz.func75, Tryz.ntmps75
    have tok : True := trivial
    go_wp2_with (first
      | (at_delete; have _t := tok; refine wpList_drop plc_laid Tryz.underlying56 (c := ⟨dir, g⟩) rfl (.tmp 6) (.tmp 10) rfl HH.out rfl rfl ⟨hd, hg⟩ ?_; intro w1 hm1 hg1 _; clear tok; have hk := hg1.block B hBW (by simpa using hbB); have hc1' := (World.cell?_of_block (a := ⟨B, 1, none⟩) hk).trans hc1; have hc2' := (World.cell?_of_block (a := ⟨B, 2, none⟩) hk).trans hc2; have HM := Lib.hid hm1; have HG1 := Lib.hid hg1; clear hm1 hg1 hk hc0 hc1 hc2 hW)
      | fail)
    go_end0
    exact ⟨⟨_, rfl⟩, HM.out, HG.out.trans HG1.out⟩
  | some i =>
    unfold ptrOf pv at hc2 hW ⊢
    dsimp only at hc2 hW ⊢
    go_enter Tryz.func75, Tryz.ntmps75
    have tok : True := trivial
    go_wp2_with (first
      | (at_delete; have _t := tok; refine wpList_drop plc_laid Tryz.underlying56 (c := ⟨dir, g⟩) rfl (.tmp 6) (.tmp 10) rfl HH.out rfl rfl ⟨hd, hg⟩ ?_; intro w1 hm1 hg1 _; clear tok; have hk := hg1.block B hBW (by simpa using hbB); have hc1' := (World.cell?_of_block (a := ⟨B, 1, none⟩) hk).trans hc1; have hc2' := (World.cell?_of_block (a := ⟨B, 2, none⟩) hk).trans hc2; have HM := Lib.hid hm1; have HG1 := Lib.hid hg1; clear hm1 hg1 hk hc0 hc1 hc2 hW)
      | (at_mapUpdate; refine wpList_store plc_laid Tryz.underlying56 (c := ⟨dir, n⟩) rfl (.tmp 14) (.tmp 18) (.tmp 20) rfl HM.out (by unfold maxLen; omega) rfl rfl ⟨hd, hn⟩ i rfl ?_; intro w2 hm2 hg2 hz2)
      | fail)
    go_end0
    exact ⟨⟨_, rfl⟩, hm2, (HG.out.trans HG1.out).trans hg2⟩
end Go.Proofs.YtdbcjiapbehacaaGreatDoor.Vp

/-! Layer 5: the program's file system behind a turn of its names, and of what waits in one directory. -/
namespace Go.Proofs.YtdbcjiapbehacaaGreatDoor.Vp
open Go.RowKit Go.Maps
open Go.Proofs.YtdbcjiapbehacaaGreatDoor.Vf (Hold OwnR Moves ret_int Hold.cell Hold.keep Hold.lt OwnR.blk OwnR.kind OwnR.lt kind_ne)

theorem strike_map {β γ : Type} (l : List (ByteArray × β)) (f : ByteArray → γ) (a : ByteArray) : strike (l.map fun x => (x.1, f x.1)) a = (strike l a).map fun x => (x.1, f x.1) := by
  unfold strike
  rw [List.filter_map]; rfl
def setRow (l : Loc) (dir : ByteArray) (v : Value) : Loc := { l with rows := fun q => if q = dir then v else l.rows q }
theorem mem_storeW {s : List (ByteArray × List Stp)} {dir : ByteArray} {xs : List Stp} {x : ByteArray × List Stp} (h : x ∈ store s dir xs) : x = (dir, xs) ∨ (x ∈ s ∧ x.1 ≠ dir) := by
  rcases List.mem_cons.1 h with h | h
  · exact .inl h
  · exact .inr (mem_strike.1 h)
theorem rows_store (s : Pf) (l : Loc) (dir : ByteArray) (xs : List Stp) (v : Value) : (store s.waits dir xs).map (fun x => (x.1, (setRow l dir v).rows x.1)) = store (s.waits.map fun x => (x.1, l.rows x.1)) dir v := by
  unfold store
  rw [List.map_cons, strike_map]
  congr 1
  · simp [setRow]
  · refine List.map_congr_left fun x hx => ?_
    have := (mem_strike.1 hx).2
    simp [setRow, this]
theorem rowOf_mem {s : Pf} {l : Loc} {dir : ByteArray} {g : Nat} (h : (rowOf s l dir).ownBlock = some g) : ∃ xs, (dir, xs) ∈ s.waits ∧ rowOf s l dir = l.rows dir := by
  unfold rowOf at h ⊢
  cases hl : look s.waits dir with
  | none => rw [hl] at h; cases h
  | some xs => exact ⟨xs, look_mem hl, rfl⟩
section
variable {w w' : World} {p : Nat} {s : Pf} {l : Loc}
/-- A block of cells is none of the maps'. -/
theorem cells_ne {g b : Nat} {cur : Array Value} {t : TypeId} (hg : w.heap[g]? = some (.cells cur t (0, 0))) (hb : ∃ es clock, w.heap[b]? = some (.map es clock)) : g ≠ b := by
  rintro rfl
  obtain ⟨es, clock, hb⟩ := hb
  rw [hg] at hb; cases hb
theorem At.apart_row (h : At w p s l) {dir : ByteArray} {x : ByteArray × List Stp} (hx : x ∈ s.waits) (hne : x.1 ≠ dir) {g : Nat} (hg : (l.rows x.1).ownBlock = some g) : (rowOf s l dir).ownBlock ≠ some g := by
  intro e
  obtain ⟨xs, hm, er⟩ := rowOf_mem e
  rw [er] at e
  rcases h.own x hx (dir, xs) hm hne with e2 | e2
  · rw [e2] at hg; cases hg
  · exact e2 (hg.trans e.symm)
theorem at_turn (h : At w p s l) {dir : ByteArray} {ns ds : List (Plc × Nat)} {xs : List Stp} {v : Value}
    (hlive : ∀ i, Live { s with names := ns, dur := ds, waits := store s.waits dir xs } i → 1 ≤ i ∧ i ≤ s.made ∧ Hold w' (l.loc i) 83 (filCells i (s.files i)))
    (hn : NamesAt w' l l.bn ns) (hd : NamesAt w' l l.bd ds) (hw : MapL Tryz.prog 9 Value.string (id : Value → Value) okS w' l.bw (store (s.waits.map fun x => (x.1, l.rows x.1)) dir v))
    (hr : OwnR w' 0 86 3 v (xs.map (stCells l))) (hat : ∀ g, v.ownBlock = some g → (rowOf s l dir).ownBlock = some g ∨ w.heap.size ≤ g)
    (hstay : ∀ g, g < w.heap.size → g ≠ l.bn → g ≠ l.bd → g ≠ l.bw → (rowOf s l dir).ownBlock ≠ some g → w'.heap[g]? = w.heap[g]?) :
    At w' p { s with names := ns, dur := ds, waits := store s.waits dir xs } (setRow l dir v) where
  top := by
    have ht : w.heap[p]? = _ := h.top
    refine h.top.keep (hstay p h.top.lt (cells_ne ht h.names.kind) (cells_ne ht h.dur.kind) (cells_ne ht h.waits.kind) fun e => ?_)
    obtain ⟨cur, hc⟩ := (h.row dir).kind e
    exact kind_ne ht hc (by decide) rfl
  waits := by
    show MapL _ _ _ _ _ _ _ ((store s.waits dir xs).map fun x => (x.1, (setRow l dir v).rows x.1))
    rw [rows_store]; exact hw
  names := hn
  dur := hd
  apart := h.apart
  files := hlive
  rows x hx := by
    rcases mem_storeW hx with rfl | ⟨hx, hne⟩
    · show OwnR w' 0 _ 3 ((setRow l dir v).rows dir) _
      rw [show (setRow l dir v).rows dir = v by simp [setRow]]
      exact hr
    · rw [show (setRow l dir v).rows x.1 = l.rows x.1 by simp [setRow, hne]]
      refine (h.rows x hx).blk fun g hg => ?_
      obtain ⟨cur, hc⟩ := (h.rows x hx).kind hg
      exact hstay g ((h.rows x hx).lt g hg).2 (cells_ne hc h.names.kind) (cells_ne hc h.dur.kind) (cells_ne hc h.waits.kind) (h.apart_row hx hne hg)
  own x hx y hy hne := by
    have hnew : ∀ z ∈ s.waits, z.1 ≠ dir → (l.rows z.1).ownBlock = none ∨ (l.rows z.1).ownBlock ≠ v.ownBlock := fun z hz hzd => by
      cases hb : (l.rows z.1).ownBlock with
      | none => exact .inl rfl
      | some g =>
        refine .inr fun e => ?_
        rcases hat g e.symm with e2 | e2
        · exact h.apart_row hz hzd hb e2
        · have := ((h.rows z hz).lt g hb).2; omega
    rcases mem_storeW hx with rfl | ⟨hx, hxd⟩
    · rcases mem_storeW hy with rfl | ⟨hy, hyd⟩
      · exact absurd rfl hne
      · rw [show (setRow l dir v).rows dir = v by simp [setRow], show (setRow l dir v).rows y.1 = l.rows y.1 by simp [setRow, hyd]]
        rcases hnew y hy hyd with e | e
        · cases hv : v.ownBlock with
          | none => exact .inl rfl
          | some g => rw [e]; exact .inr (by simp)
        · exact .inr (Ne.symm e)
    · rw [show (setRow l dir v).rows x.1 = l.rows x.1 by simp [setRow, hxd]]
      rcases mem_storeW hy with rfl | ⟨hy, hyd⟩
      · rw [show (setRow l dir v).rows dir = v by simp [setRow]]
        exact hnew x hx hxd
      · rw [show (setRow l dir v).rows y.1 = l.rows y.1 by simp [setRow, hyd]]
        exact h.own x hx y hy hne
/-- What it writes then. -/
theorem foot_turn {dir : ByteArray} {ns ds : List (Plc × Nat)} {xs : List Stp} {v : Value} {E : Nat → Prop}
    (hlive : ∀ i, Live { s with names := ns, dur := ds, waits := store s.waits dir xs } i → Live s i ∨ E i) (hat : ∀ g, v.ownBlock = some g → (rowOf s l dir).ownBlock = some g ∨ w.heap.size ≤ g) :
    ∀ g, Foot p { s with names := ns, dur := ds, waits := store s.waits dir xs } (setRow l dir v) g → (Foot p s l g ∨ ∃ i, E i ∧ g = l.loc i) ∨ w.heap.size ≤ g := by
  rintro g (e | e | e | e | ⟨i, hi, e⟩ | ⟨x, hx, e⟩)
  · exact .inl (.inl (.inl e))
  · exact .inl (.inl (.inr (.inl e)))
  · exact .inl (.inl (.inr (.inr (.inl e))))
  · exact .inl (.inl (.inr (.inr (.inr (.inl e)))))
  · rcases hlive i hi with h | h
    · exact .inl (.inl (.inr (.inr (.inr (.inr (.inl ⟨i, h, e⟩))))))
    · exact .inl (.inr ⟨i, h, e⟩)
  · rcases mem_storeW hx with rfl | ⟨hx, hne⟩
    · rw [show (setRow l dir v).rows dir = v by simp [setRow]] at e
      rcases hat g e with h | h
      · obtain ⟨ys, hm, er⟩ := rowOf_mem h
        exact .inl (.inl (.inr (.inr (.inr (.inr (.inr ⟨_, hm, by rw [← er]; exact h⟩))))))
      · exact .inr h
    · rw [show (setRow l dir v).rows x.1 = l.rows x.1 by simp [setRow, hne]] at e
      exact .inl (.inl (.inr (.inr (.inr (.inr (.inr ⟨x, hx, e⟩))))))
end

/-! ### What is in use behind a turn -/
theorem mem_takeS {l : List (Plc × Nat)} {dir : ByteArray} {x : Stp} {q : Plc × Nat} (h : q ∈ takeS l dir x) : q ∈ l ∨ x.file = some q.2 := by
  unfold takeS at h
  cases hf : x.file with
  | none => rw [hf] at h; exact .inl (mem_strike.1 h).1
  | some i =>
    rw [hf] at h
    rcases List.mem_cons.1 h with rfl | h
    · exact .inr rfl
    · exact .inl (mem_strike.1 (mem_strike.1 h).1).1
theorem mem_takeAll {dir : ByteArray} {q : Plc × Nat} : ∀ {xs : List Stp} {l : List (Plc × Nat)}, q ∈ takeAll l dir xs → q ∈ l ∨ ∃ x ∈ xs, x.file = some q.2
  | [], _, h => .inl h
  | x :: xs, l, h => by
    rcases mem_takeAll (xs := xs) (l := takeS l dir x) h with h | ⟨y, hy, e⟩
    · rcases mem_takeS h with h | e
      · exact .inl h
      · exact .inr ⟨x, by simp, e⟩
    · exact .inr ⟨y, by simp [hy], e⟩
theorem mem_waitsOf {s : Pf} {dir : ByteArray} {x : Stp} (h : x ∈ waitsOf s dir) : ∃ xs, (dir, xs) ∈ s.waits ∧ x ∈ xs := by
  unfold waitsOf at h
  cases hl : look s.waits dir with
  | none => rw [hl] at h; cases h
  | some xs => rw [hl] at h; exact ⟨xs, look_mem hl, h⟩
theorem live_change {s : Pf} {dir : ByteArray} {x : Stp} {i : Nat} (h : Live (changeS s dir x) i) : Live s i ∨ x.file = some i := by
  rcases h with ⟨q, hq, rfl⟩ | ⟨q, hq, rfl⟩ | ⟨y, hy, st, hst, e⟩
  · rcases mem_takeS hq with h | h
    · exact .inl (.inl ⟨q, h, rfl⟩)
    · exact .inr h
  · exact .inl (.inr (.inl ⟨q, hq, rfl⟩))
  · rcases mem_storeW hy with rfl | ⟨hy, _⟩
    · rcases List.mem_append.1 hst with h | h
      · obtain ⟨xs, hm, hx⟩ := mem_waitsOf h
        exact .inl (.inr (.inr ⟨_, hm, st, hx, e⟩))
      · rw [List.mem_singleton.1 h] at e; exact .inr e
    · exact .inl (.inr (.inr ⟨y, hy, st, hst, e⟩))
theorem live_keep {s : Pf} {dir : ByteArray} {k i : Nat} (h : Live (keepS s dir k) i) : Live s i := by
  rcases h with ⟨q, hq, rfl⟩ | ⟨q, hq, rfl⟩ | ⟨y, hy, st, hst, e⟩
  · exact .inl ⟨q, hq, rfl⟩
  · rcases mem_takeAll hq with h | ⟨x, hx, e⟩
    · exact .inr (.inl ⟨q, h, rfl⟩)
    · obtain ⟨xs, hm, hx⟩ := mem_waitsOf (List.mem_of_mem_take hx)
      exact .inr (.inr ⟨_, hm, x, hx, e⟩)
  · rcases mem_storeW hy with rfl | ⟨hy, _⟩
    · cases hst
    · exact .inr (.inr ⟨y, hy, st, hst, e⟩)
end Go.Proofs.YtdbcjiapbehacaaGreatDoor.Vp

/-! Layer 5: a step with a directory's names, which waits from then on. -/
namespace Go.Proofs.YtdbcjiapbehacaaGreatDoor.Vp
open Go.RowKit Go.Maps
open Go.Proofs.YtdbcjiapbehacaaGreatDoor.Vf (Hold OwnR Moves ret_int wp_region_mix wpMix_free wpMix_turn wpMix_end Hold.cell Hold.keep Hold.lt OwnR.blk OwnR.kind OwnR.lt kind_ne new_cells)

theorem step_info : (Tryz.prog.info? 86).map (fun i => (i.zero, i.size, i.bytes)) = some (some (.agg #[.string ⟨#[]⟩, .string ⟨#[]⟩, .pointer none]), 3, 40) := by kernel_rfl
theorem okRow_len {w : World} {base : Nat} {t : TypeId} {s : Nat} {v : Value} {xs : List (List Value)} (h : OwnR w base t s v xs) : ∃ A c, v = .slice A xs.length c := h.reads.len
theorem strike_len {l : List (Plc × Nat)} {a : Plc} : (strike l a).length ≤ l.length := List.length_filter_le _ _
theorem takeS_len (l : List (Plc × Nat)) (dir : ByteArray) (x : Stp) : (takeS l dir x).length ≤ l.length + 1 := by
  unfold takeS
  cases x.file with
  | none => have := strike_len (l := l) (a := ⟨dir, x.gone⟩); dsimp only; omega
  | some i =>
    have h1 := strike_len (l := l) (a := ⟨dir, x.gone⟩)
    have h2 := strike_len (l := strike l ⟨dir, x.gone⟩) (a := ⟨dir, x.name⟩)
    simp only [store, List.length_cons]; omega
theorem ptr_one (l : Loc) (f : Option Nat) : (ptrOf l f).oneCell' = true := by cases f <;> rfl

/-- What a step has left. -/
structure ChangeLeft (w w' : World) (s : Pf) (l : Loc) (dir : ByteArray) (x : Stp) (v : Value) : Prop where
  os : w'.os = w.os
  tape : w'.tape = w.tape
  output : w'.output = w.output
  size : w.heap.size ≤ w'.heap.size
  names : NamesAt w' l l.bn (takeS s.names dir x)
  waits : MapL Tryz.prog 9 Value.string (id : Value → Value) okS w' l.bw (store (s.waits.map fun y => (y.1, l.rows y.1)) dir v)
  row : OwnR w' 0 86 3 v ((waitsOf s dir ++ [x]).map (stCells l))
  place : ∀ g, v.ownBlock = some g → (rowOf s l dir).ownBlock = some g ∨ w.heap.size ≤ g
  stay : ∀ g, g < w.heap.size → g ≠ l.bn → g ≠ l.bw → (rowOf s l dir).ownBlock ≠ some g → w'.heap[g]? = w.heap[g]?

set_option maxRecDepth 100000 in
set_option maxHeartbeats 4000000 in
theorem change_walk (p : Nat) (s : Pf) (l : Loc) (dir : ByteArray) (x : Stp) (w : World) (h : At w p s l) (hdir : okS dir) (hg : okS x.gone) (hn : okS x.name) (hlen : s.names.length ≤ 1000000) (hlw : (waitsOf s dir).length ≤ 1000000) (hld : s.waits.length ≤ 1000000) :
    Calls Tryz.prog 47 #[.pointer (some ⟨p, 0, none⟩), .string dir, .agg #[.string x.gone, .string x.name, ptrOf l x.file]] w fun e w' => (∃ r, e = .returned r) ∧ ∃ v, ChangeLeft w w' s l dir x v := by
  have hrow := h.row dir
  obtain ⟨A2, c2, hus⟩ := okRow_len hrow
  rw [List.length_map] at hus
  have hc1 : w.cell? ⟨p, 1, none⟩ = some (.map (some l.bw)) := by rw [h.cell]; rfl
  have hc2 : w.cell? ⟨p, 2, none⟩ = some (.map (some l.bn)) := by rw [h.cell]; rfl
  have hpl : p < w.heap.size := h.top.lt
  have hpt : w.heap[p]? = some (.cells (topCells s l).toArray 58 (0, 0)) := h.top
  have hpn : p ≠ l.bn := cells_ne hpt h.names.kind
  have hpw : p ≠ l.bw := cells_ne hpt h.waits.kind
  have hbwl := h.waits.lt
  have hbnl := h.names.lt
  have hown : ∀ k, (rowOf s l dir).ownBlock = some k → k < w.heap.size ∧ k ≠ p ∧ k ≠ l.bn ∧ k ≠ l.bw := fun k hk => by
    obtain ⟨cur, hc⟩ := hrow.kind hk
    exact ⟨(hrow.lt k hk).2, kind_ne hc hpt (by decide), cells_ne hc h.names.kind, cells_ne hc h.waits.kind⟩
  obtain ⟨W, hW⟩ : ∃ W, w.alloc (.cells #[.string x.gone, .string x.name, ptrOf l x.file] 86) = W := ⟨_, rfl⟩
  obtain ⟨B, hB⟩ : ∃ B, w.heap.size = B := ⟨_, rfl⟩
  obtain ⟨hx0, hx1, hx2⟩ := fields_cells w (.string x.gone) (.string x.name) (ptrOf l x.file) 86
  have hWs : W.heap.size = B + 1 := by rw [← hW, ← hB]; simp
  have hWk : ∀ g, g < w.heap.size → W.heap[g]? = w.heap[g]? := fun g hg => by rw [← hW]; exact Below.heap_alloc w _ g hg
  have hWo : W.os = w.os ∧ W.tape = w.tape ∧ W.output = w.output := by rw [← hW]; exact ⟨rfl, rfl, rfl⟩
  rw [hW, hB] at hx0 hx1 hx2
  have hj1 := (World.cell?_of_block (a := ⟨p, 1, none⟩) (hWk p hpl)).trans hc1
  have hj2 := (World.cell?_of_block (a := ⟨p, 2, none⟩) (hWk p hpl)).trans hc2
  have HN := Lib.hid (h.names.same (hWk _ hbnl)); have HA := Lib.hid h; have HU := Lib.hid hus; have HR := Lib.hid hrow; have HOW := Lib.hid hown; have HWk := Lib.hid hWk; have HWo := Lib.hid hWo; have HB := Lib.hid hB
  have hBW : B < W.heap.size := by omega
  rw [hB] at hpl hbwl hbnl
  clear h hus hrow hown hc1 hc2 hWk hWo hpt
  go_enter Tryz.func47, Tryz.ntmps47
  go_wp2_with fail
  clear hW hB
  refine wp_region_mix (fun z => z.cell? ⟨p, 2, none⟩ = some (.map (some l.bn)) ∧ z.cell? ⟨B, 0, none⟩ = some (.string x.gone) ∧ z.cell? ⟨B, 1, none⟩ = some (.string x.name) ∧ z.cell? ⟨B, 2, none⟩ = some (ptrOf l x.file))
    [true, true, true, true, true, true] _ (by kernel_rfl) rfl (by kernel_rfl) ⟨hj2, hx0, hx1, hx2⟩ ?_
  dsimp only [List.dropLast, List.zip, List.zipWith, List.getLast]
  repeat (apply wpMix_free
          · intro z hz
            try dsimp only at hz
            go_simp
            all_goals with_reducible rfl
          simp only [Act.put, List.setIfInBounds_toArray, List.set_cons_zero, List.set_cons_succ])
  refine wpMix_end ?_
  go_simp
  refine (take_any l l.bn s.names dir x _ (HN.out.same (w' := W.drew) rfl) hdir hg hn hlen).mono ?_
  rintro e V ⟨⟨r, rfl⟩, hnV, hgV⟩
  have hVk : ∀ g, g < W.heap.size → g ≠ l.bn → V.heap[g]? = W.heap[g]? := fun g hg hne => hgV.block g hg (by simpa using hne)
  have hVs : W.heap.size ≤ V.heap.size := hgV.size
  have hy0 := (World.cell?_of_block (a := ⟨B, 0, none⟩) (hVk B hBW (by omega))).trans hx0
  have hy1 := (World.cell?_of_block (a := ⟨B, 1, none⟩) (hVk B hBW (by omega))).trans hx1
  have hy2 := (World.cell?_of_block (a := ⟨B, 2, none⟩) (hVk B hBW (by omega))).trans hx2
  have hk1 := (World.cell?_of_block (a := ⟨p, 1, none⟩) (hVk p (by omega) hpn)).trans hj1
  have hVw : ∀ g, g < B → g ≠ l.bn → V.heap[g]? = w.heap[g]? := fun g hg hne => (hVk g (by omega) hne).trans (HWk.out g (by rw [HB.out]; exact hg))
  have hwV : WaitsAt V l l.bw s.waits := HA.out.waits.same (hVw _ hbwl HA.out.apart.1)
  have hrV : OwnR V 0 86 3 (rowOf s l dir) ((waitsOf s dir).map (stCells l)) := HR.out.blk fun g hg => hVw g (by have := (HOW.out g hg).1; rw [HB.out] at this; exact this) (HOW.out g hg).2.2.1
  have hVo : V.os = w.os ∧ V.tape = w.tape ∧ V.output = w.output := ⟨hgV.os.trans HWo.out.1, hgV.tape.trans HWo.out.2.1, hgV.output.trans HWo.out.2.2⟩
  have HVw := Lib.hid hVw; have HNV := Lib.hid hnV; have HWV := Lib.hid hwV; have HRV := Lib.hid hrV; have HVo := Lib.hid hVo
  have hBV : B < V.heap.size := by omega
  clear hj1 hj2 hx0 hx1 hx2 hVk hgV hnV hVw hwV hrV hVo HN HR HWk HWo
  go_wp2_with fail
  refine wp_region_mix (fun z => z.cell? ⟨p, 1, none⟩ = some (.map (some l.bw)) ∧ z.cell? ⟨B, 0, none⟩ = some (.string x.gone) ∧ z.cell? ⟨B, 1, none⟩ = some (.string x.name) ∧ z.cell? ⟨B, 2, none⟩ = some (ptrOf l x.file) ∧ (Instr.lookup 55 (.map (some l.bw)) (.string dir) false).run Tryz.prog z = .ok (rowOf s l dir) z)
    [true, true, true, true, true, true, true, true, true, true, true, true, false, false] _ (by kernel_rfl) rfl (by kernel_rfl) ⟨hk1, hy0, hy1, hy2, ?_⟩ ?_
  · exact waits_look (HWV.out.same (w' := V.drew) rfl) hdir
  dsimp only [List.dropLast, List.zip, List.zipWith, List.getLast]
  repeat (apply wpMix_free
          · intro z hz
            try dsimp only at hz
            go_simp
            all_goals with_reducible rfl
          simp only [Act.put, List.setIfInBounds_toArray, List.set_cons_zero, List.set_cons_succ])
  refine wpMix_turn (fun K hK => ?_)
  have HK := Lib.hid hK; clear hK
  go_simp
  have hal : ∀ g, g < V.heap.size → (V.alloc (.cells #[.string x.gone, .string x.name, ptrOf l x.file] 86)).drew.heap[g]? = V.heap[g]? := fun g hg => Below.heap_alloc V _ g hg
  obtain ⟨V1, hV1⟩ : ∃ V1, (V.alloc (.cells #[.string x.gone, .string x.name, ptrOf l x.file] 86)).drew = V1 := ⟨_, rfl⟩
  have hV1s : V1.heap.size = V.heap.size + 1 := by rw [← hV1]; show (V.heap.push _).size = V.heap.size + 1; exact Array.size_push _
  have hV1c : ∀ j u, [Value.string x.gone, .string x.name, ptrOf l x.file][j]? = some u → (V.alloc (.cells #[.string x.gone, .string x.name, ptrOf l x.file] 86)).drew.cell? ((⟨V.heap.size, 0, none⟩ : Addr).add j) = some u := new_cells V V.heap.size rfl [.string x.gone, .string x.name, ptrOf l x.file] 86
  have hV1o : V1.os = w.os ∧ V1.tape = w.tape ∧ V1.output = w.output := by rw [← hV1]; exact HVo.out
  rw [hV1] at hV1c hal ⊢
  clear hV1
  have hpV : p < V.heap.size := by omega
  have hbwV : l.bw < V.heap.size := by omega
  have hbnV : l.bn < V.heap.size := by omega
  refine HK.out _ _ ⟨(World.cell?_of_block (a := ⟨p, 1, none⟩) (hal p hpV)).trans hk1, (World.cell?_of_block (a := ⟨B, 0, none⟩) (hal B hBV)).trans hy0, (World.cell?_of_block (a := ⟨B, 1, none⟩) (hal B hBV)).trans hy1, (World.cell?_of_block (a := ⟨B, 2, none⟩) (hal B hBV)).trans hy2, waits_look (HWV.out.same (hal _ hbwV)) hdir⟩ ?_
  clear HK
  try simp only [Act.put, List.setIfInBounds_toArray, List.set_cons_zero, List.set_cons_succ]
  have hrV1 : OwnR V1 0 86 3 (rowOf s l dir) ((waitsOf s dir).map (stCells l)) := HRV.out.blk fun g hg => hal g (by have := (HOW.out g hg).1; have := HB.out; omega)
  have how := hrV1.1
  have hr3 := hrV1.2
  rw [List.length_map] at how
  rw [HU.out] at how ⊢
  refine wpMix_turn (fun K hK => ?_)
  have HK := Lib.hid hK; clear hK
  obtain ⟨si, hsi, hz0, hz1, hz2⟩ := info_parts step_info
  refine Go.wp_append_lies _ (.tmp 23) (.tmp 25) 90 rfl 0 86 si _ 3 40 Tryz.underlying90 hsi hz0 hz1 hz2 rfl (by decide) _ (waitsOf s dir).length _ rfl how ⟨V.heap.size, 0, none⟩ 1 1 [.string x.gone, .string x.name, ptrOf l x.file] rfl rfl hV1c (fun u hu => by simp only [List.mem_cons, List.not_mem_nil, or_false] at hu; rcases hu with rfl | rfl | rfl <;> first | rfl | exact ptr_one l x.file) (by decide) (by unfold maxLen; omega) (by omega) (Nat.zero_le _) (V.heap.size + 1) hV1s ?_
  intro g2 cap2 V2 hown3 hgr3 hat3 hlt3
  have hV2k : ∀ g, g < V.heap.size → some g ≠ (Value.slice A2 (waitsOf s dir).length c2).ownBlock → V2.heap[g]? = V.heap[g]? := fun g hg hne => (hgr3.block g (by omega) hne).trans (hal g hg)
  have hnb : ∀ g, g = p ∨ g = l.bn ∨ g = l.bw ∨ g = B → some g ≠ (Value.slice A2 (waitsOf s dir).length c2).ownBlock := fun g hg e => by
    rw [← HU.out] at e
    have h4 := HOW.out g e.symm
    have hBB := HB.out
    rcases hg with rfl | rfl | rfl | rfl
    · exact h4.2.1 rfl
    · exact h4.2.2.1 rfl
    · exact h4.2.2.2 rfl
    · omega
  have hwV2 : WaitsAt V2 l l.bw s.waits := HWV.out.same (hV2k _ hbwV (hnb _ (.inr (.inr (.inl rfl)))))
  have hnV2 : NamesAt V2 l l.bn (takeS s.names dir x) := HNV.out.same (hV2k _ hbnV (hnb _ (.inr (.inl rfl))))
  have hV2o : V2.os = w.os ∧ V2.tape = w.tape ∧ V2.output = w.output := ⟨hgr3.os.trans hV1o.1, hgr3.tape.trans hV1o.2.1, hgr3.output.trans hV1o.2.2⟩
  have hV2s : V.heap.size < V2.heap.size := by have := hgr3.size; omega
  refine HK.out _ _ ⟨(World.cell?_of_block (a := ⟨p, 1, none⟩) (hV2k p hpV (hnb _ (.inl rfl)))).trans hk1, (World.cell?_of_block (a := ⟨B, 0, none⟩) (hV2k B hBV (hnb _ (.inr (.inr (.inr rfl)))))).trans hy0, (World.cell?_of_block (a := ⟨B, 1, none⟩) (hV2k B hBV (hnb _ (.inr (.inr (.inr rfl)))))).trans hy1, (World.cell?_of_block (a := ⟨B, 2, none⟩) (hV2k B hBV (hnb _ (.inr (.inr (.inr rfl)))))).trans hy2, ?_⟩ ?_
  · rw [← HU.out]; exact waits_look hwV2 hdir
  clear HK
  try simp only [Act.put, List.setIfInBounds_toArray, List.set_cons_zero, List.set_cons_succ]
  refine wpMix_end ?_
  refine wp_store str_laid Tryz.underlying55 (.tmp 16) (.tmp 17) (.tmp 26) rfl hwV2 (by rw [List.length_map]; unfold maxLen; omega) rfl rfl hdir _ rfl ?_
  intro w3 hw3 hg3 hz3
  simp only [Act.put]
  have hg2l : g2 < V2.heap.size := hlt3
  have hg2c : ∃ cur, V2.heap[g2]? = some (.cells cur 86 (0, 0)) := by
    rcases hown3.2 with ⟨e, _⟩ | ⟨g', cap', cur', e, _, hh, _⟩
    · cases e
    · injection e with e _ _; injection e with e; injection e with e _ _; subst e; exact ⟨cur', hh⟩
  have hbw2 : l.bw ≠ g2 := by
    obtain ⟨cur, hc⟩ := hg2c
    exact (cells_ne hc hwV2.kind).symm
  have hBB := HB.out
  have hst : ∀ g, g < w.heap.size → g ≠ l.bn → g ≠ l.bw → (rowOf s l dir).ownBlock ≠ some g → w3.heap[g]? = w.heap[g]? := fun g hg h1 h2 h3 =>
    (hg3.block g (by omega) (by simpa using h2)).trans ((hV2k g (by omega) (fun e => h3 (by rw [HU.out]; exact e.symm))).trans (HVw.out g (by omega) h1))
  have hrow3 : OwnR w3 0 86 3 (.slice (some ⟨g2, 0, none⟩) ((waitsOf s dir).length + 1) cap2) ((waitsOf s dir ++ [x]).map (stCells l)) := by
    refine OwnR.blk (w := V2) ⟨?_, fun y hy => ?_⟩ fun g hg => ?_
    · rw [List.map_append, List.flatten_append, List.length_append, List.length_map]
      simpa [stCells_eq] using hown3
    · obtain ⟨z, _, rfl⟩ := List.mem_map.1 hy
      rw [stCells_eq]; rfl
    · injection hg with hg; subst hg
      exact hg3.block g2 hg2l (by simpa using hbw2.symm)
  have hpl3 : ∀ g, (Value.slice (some ⟨g2, 0, none⟩) ((waitsOf s dir).length + 1) cap2).ownBlock = some g → (rowOf s l dir).ownBlock = some g ∨ w.heap.size ≤ g := fun g hg => by
    obtain rfl : g2 = g := by simpa [Value.ownBlock] using hg
    rcases hat3 with e | e
    · left; rw [HU.out]; exact e
    · right; omega
  have hnm3 := hnV2.same (hg3.block _ (by omega) (by simpa using HA.out.apart.1.symm))
  have HLEFT := Lib.hid (show ChangeLeft w w3 s l dir x (.slice (some ⟨g2, 0, none⟩) ((waitsOf s dir).length + 1) cap2) from ⟨hg3.os.trans hV2o.1, hg3.tape.trans hV2o.2.1, hg3.output.trans hV2o.2.2, by omega, hnm3, hw3, hrow3, hpl3, hst⟩)
  clear hst hrow3 hpl3 hnm3 hw3 hg3 hz3 hg2c hbw2 hwV2 hnV2 hV2o hV2k hnb hown3 hgr3 hat3 hV1o hV1c hal how hr3 hrV1 HVw HNV HWV HRV HVo hk1 hy0 hy1 hy2
  go_wp2_with fail
  go_end0
  exact ⟨⟨_, rfl⟩, _, HLEFT.out⟩

theorem change_any (p : Nat) (s : Pf) (l : Loc) (dir : ByteArray) (x : Stp) (w : World) (h : At w p s l) (hdir : okS dir) (hg : okS x.gone) (hn : okS x.name) (hlen : s.names.length ≤ 1000000) (hlw : (waitsOf s dir).length ≤ 1000000) (hld : s.waits.length ≤ 1000000)
    (hx : ∀ i, x.file = some i → 1 ≤ i ∧ i ≤ s.made ∧ Hold w (l.loc i) 83 (filCells i (s.files i))) :
    Calls Tryz.prog 47 #[.pointer (some ⟨p, 0, none⟩), .string dir, .agg #[.string x.gone, .string x.name, ptrOf l x.file]] w fun e w' => (∃ r, e = .returned r) ∧ ∃ v, At w' p (changeS s dir x) (setRow l dir v) ∧ Moves w w' (fun g => Foot p s l g ∨ ∃ i, x.file = some i ∧ g = l.loc i) (Foot p (changeS s dir x) (setRow l dir v)) := by
  refine (change_walk p s l dir x w h hdir hg hn hlen hlw hld).mono ?_
  rintro e w' ⟨hr, v, k⟩
  have hfile : ∀ i, 1 ≤ i ∧ i ≤ s.made ∧ Hold w (l.loc i) 83 (filCells i (s.files i)) → Hold w' (l.loc i) 83 (filCells i (s.files i)) := fun i hi => by
    have hc : w.heap[l.loc i]? = _ := hi.2.2
    refine hi.2.2.keep (k.stay _ hi.2.2.lt (cells_ne hc h.names.kind) (cells_ne hc h.waits.kind) fun e => ?_)
    obtain ⟨cur, hc2⟩ := (h.row dir).kind e
    exact kind_ne hc hc2 (by decide) rfl
  refine ⟨hr, v, at_turn h (ns := takeS s.names dir x) (ds := s.dur) (xs := waitsOf s dir ++ [x]) (fun i hi => ?_) k.names ?_ k.waits k.row k.place fun g hg h1 _ h3 h4 => k.stay g hg h1 h3 h4, k.os, k.tape, k.output, k.size, fun g hg hn => ?_, ?_⟩
  · rcases live_change hi with hi | hi
    · exact ⟨(h.files i hi).1, (h.files i hi).2.1, hfile i (h.files i hi)⟩
    · exact ⟨(hx i hi).1, (hx i hi).2.1, hfile i (hx i hi)⟩
  · refine h.dur.same (k.stay _ h.dur.lt h.apart.2.2.symm h.apart.2.1.symm fun e => ?_)
    obtain ⟨cur, hc⟩ := (h.row dir).kind e
    exact cells_ne hc h.dur.kind rfl
  · refine k.stay g hg (fun e => hn (.inl (.inr (.inr (.inl e))))) (fun e => hn (.inl (.inr (.inl e)))) fun e => ?_
    obtain ⟨xs, hm, er⟩ := rowOf_mem e
    exact hn (.inl (.inr (.inr (.inr (.inr (.inr ⟨_, hm, by rw [← er]; exact e⟩))))))
  · intro g hg
    exact foot_turn (w := w) (E := fun i => x.file = some i) (ns := takeS s.names dir x) (ds := s.dur) (xs := waitsOf s dir ++ [x]) (fun i hi => live_change hi) k.place g hg
end Go.Proofs.YtdbcjiapbehacaaGreatDoor.Vp

/-! Layer 5: the first steps that wait in a directory become durable; none waits then. -/
namespace Go.Proofs.YtdbcjiapbehacaaGreatDoor.Vp
open Go.RowKit Go.Maps
open Go.Proofs.YtdbcjiapbehacaaGreatDoor.Vf (Hold OwnR Moves ret_int wp_region_mix wpMix_free wpMix_turn wpMix_end Hold.cell Hold.keep Hold.lt OwnR.blk OwnR.kind OwnR.lt OwnR.nil kind_ne)

theorem takeAll_snoc (l : List (Plc × Nat)) (dir : ByteArray) (xs : List Stp) (x : Stp) : takeAll l dir (xs ++ [x]) = takeS (takeAll l dir xs) dir x := by simp [takeAll, List.foldl_append]
theorem takeAll_len (dir : ByteArray) : ∀ (xs : List Stp) (l : List (Plc × Nat)), (takeAll l dir xs).length ≤ l.length + xs.length
  | [], _ => Nat.le_refl _
  | x :: xs, l => by
    have h1 := takeAll_len dir xs (takeS l dir x)
    have h2 := takeS_len l dir x
    show (takeAll (takeS l dir x) dir xs).length ≤ _
    simp only [List.length_cons]; omega
set_option maxRecDepth 100000 in
set_option maxHeartbeats 4000000 in
theorem keep_walk (p : Nat) (s : Pf) (l : Loc) (dir : ByteArray) (n : Nat) (w : World) (h : At w p s l) (hdir : okS dir) (hst : ∀ x ∈ waitsOf s dir, okS x.gone ∧ okS x.name) (hn : n ≤ (waitsOf s dir).length) (hlen : s.dur.length + (waitsOf s dir).length ≤ 900000) (hld : s.waits.length ≤ 1000000) :
    Calls Tryz.prog 50 #[.pointer (some ⟨p, 0, none⟩), .string dir, .int .i64 n] w fun e w' => (∃ r, e = .returned r) ∧ ∃ V, w.grownBy V (some l.bd) ∧ NamesAt V l l.bd (takeAll s.dur dir ((waitsOf s dir).take n)) ∧ MapL Tryz.prog 9 Value.string (id : Value → Value) okS w' l.bw (store (s.waits.map fun y => (y.1, l.rows y.1)) dir (.slice none 0 0)) ∧ V.grownBy w' (some l.bw) := by
  have hrow := h.row dir
  obtain ⟨A2, c2, hus⟩ := okRow_len hrow
  rw [List.length_map] at hus
  have hcap : (waitsOf s dir).length ≤ c2 := by
    rcases hrow.reads with ⟨h0, A, c, hv⟩ | ⟨g, cap, hv, he⟩
    · rw [List.map_eq_nil_iff] at h0; rw [h0]; exact Nat.zero_le _
    · rw [hus] at hv; injection hv with _ _ e3; subst e3
      have := he.fits; rwa [List.length_map] at this
  have hc1 : w.cell? ⟨p, 1, none⟩ = some (.map (some l.bw)) := by rw [h.cell]; rfl
  have hc3 : w.cell? ⟨p, 3, none⟩ = some (.map (some l.bd)) := by rw [h.cell]; rfl
  have hpl : p < w.heap.size := h.top.lt
  have hpt : w.heap[p]? = some (.cells (topCells s l).toArray 58 (0, 0)) := h.top
  have hpd : p ≠ l.bd := cells_ne hpt h.dur.kind
  have hbwl := h.waits.lt
  have hbdl := h.dur.lt
  have hap := h.apart
  have hlk := h.look_row hdir
  rw [hus] at hlk
  have hn2 : (n : Int) ≤ (c2 : Int) := by omega
  have hwt := h.waits
  have hdu := h.dur
  have HR := Lib.hid hrow.reads; have HU := Lib.hid hus; have HW := Lib.hid hwt; have HD := Lib.hid hdu; have HS := Lib.hid hst
  have hrowlt := fun g (hg : (rowOf s l dir).ownBlock = some g) => (hrow.lt g hg).2
  have hrowne : ∀ g, (rowOf s l dir).ownBlock = some g → g ≠ l.bd := fun g hg => by
    obtain ⟨cur, hc⟩ := hrow.kind hg
    exact cells_ne hc h.dur.kind
  have HRL := Lib.hid hrowlt; have HRN := Lib.hid hrowne
  clear hrow hus hwt hdu hst hrowlt hrowne h hpt
  go_enter Tryz.func50, Tryz.ntmps50
  go_wp2_with fail
  go_loopw [17] (fun i wr => ∃ j : Nat, j ≤ n ∧ i = .int .i64 j ∧ w.grownBy wr (some l.bd) ∧ NamesAt wr l l.bd (takeAll s.dur dir ((waitsOf s dir).take j))) (fun i _ => n - (intOf i).toNat)
  case atStart => exact ⟨0, by omega, rfl, World.grownBy.refl _ _, HD.out⟩
  case round =>
    obtain ⟨j, hj, rfl, hg, hnm⟩ := hrel
    have hws := hg.size
    by_cases hlt : j < n
    · have hjl : j < (waitsOf s dir).length := by omega
      obtain ⟨x, hx⟩ : ∃ x, (waitsOf s dir)[j] = x := ⟨_, rfl⟩
      have hy : (waitsOf s dir)[j]? = some x := by rw [List.getElem?_eq_getElem hjl, hx]
      obtain ⟨g, cap, hv2, hcp, hcell⟩ := Go.Proofs.YtdbcjiapbehacaaGreatDoor.Vf.Reads.at_ HR.out (k := j) (cs := stCells l x) (by rw [List.getElem?_map, hy]; rfl)
      have hgl := HRL.out g (by rw [hv2]; rfl)
      have hgn := HRN.out g (by rw [hv2]; rfl)
      rw [HU.out, List.length_map] at hv2
      injection hv2 with e1 _ e3
      subst e1; subst e3
      have hk : wr.heap[g]? = w.heap[g]? := hg.block g hgl (by simpa using hgn)
      rw [stCells_eq] at hcell
      have hr0 := (World.cell?_of_block (a := ⟨g, j * 3, none⟩) hk).trans (hcell 0 _ rfl)
      have hr1 := (World.cell?_of_block (a := ⟨g, j * 3 + 1, none⟩) hk).trans (hcell 1 _ rfl)
      have hr2 := (World.cell?_of_block (a := ⟨g, j * 3 + 2, none⟩) hk).trans (hcell 2 _ rfl)
      have hk3 := (World.cell?_of_block (a := ⟨p, 3, none⟩) (hg.block p hpl (by simpa using hpd))).trans hc3
      have hnx : takeAll s.dur dir ((waitsOf s dir).take (j + 1)) = takeS (takeAll s.dur dir ((waitsOf s dir).take j)) dir x := by
        rw [Go.Proofs.YtdbcjiapbehacaaGreatDoor.Vf.take_snoc hy, takeAll_snoc]
      have hl1 := takeAll_len dir ((waitsOf s dir).take j) s.dur
      rw [List.length_take] at hl1
      have hso := HS.out x (List.mem_of_getElem? hy)
      have HNX := Lib.hid hnx; have HN := Lib.hid hnm; have HG := Lib.hid hg
      have hi0 : (0 : Int) ≤ (j : Int) := by omega
      have hi1 : (j : Int) < (n : Int) := by omega
      obtain ⟨W, hW⟩ : ∃ W, wr.alloc (.cells #[.string x.gone, .string x.name, ptrOf l x.file] 86) = W := ⟨_, rfl⟩
      obtain ⟨B, hB⟩ : ∃ B, wr.heap.size = B := ⟨_, rfl⟩
      obtain ⟨hx0, hx1, hx2⟩ := fields_cells wr (.string x.gone) (.string x.name) (ptrOf l x.file) 86
      have hWs : W.heap.size = B + 1 := by rw [← hW, ← hB]; simp
      have hWg : wr.grownBy W (some l.bd) := by rw [← hW]; exact World.grownBy_alloc wr _ _
      have hWd : NamesAt W l l.bd (takeAll s.dur dir ((waitsOf s dir).take j)) := hnm.same (by rw [← hW]; exact Below.heap_alloc wr _ _ (by omega))
      have hm3 : W.cell? ⟨p, 3, none⟩ = some (.map (some l.bd)) := by rw [← hW]; exact (World.cell?_alloc_lt wr _ ⟨p, 3, none⟩ (by show p < _; omega)).trans hk3
      rw [hW, hB] at hx0 hx1 hx2
      have HWD := Lib.hid hWd; have HWG := Lib.hid hWg
      clear hx hy hcell hk hnx hnm hg hWd hWg
      have hsp := fun (z : World) (a : Addr) (m : Mode) => run_store Tryz.prog z a (ptrOf l x.file) m (ptr_one l x.file)
      go_wp2_with fail
      clear hW
      have hx0' : W.drew.cell? ⟨B, 0, none⟩ = some (.string x.gone) := hx0
      have hx1' : W.drew.cell? ⟨B, 1, none⟩ = some (.string x.name) := hx1
      have hx2' : W.drew.cell? ⟨B, 2, none⟩ = some (ptrOf l x.file) := hx2
      refine wp_region_mix (fun z => z.cell? ⟨p, 3, none⟩ = some (.map (some l.bd)) ∧ z.cell? ⟨B, 0, none⟩ = some (.string x.gone) ∧ z.cell? ⟨B, 1, none⟩ = some (.string x.name) ∧ z.cell? ⟨B, 2, none⟩ = some (ptrOf l x.file))
        [true, true, true, true, true, true] _ (by kernel_rfl) rfl (by kernel_rfl) ⟨hm3, hx0', hx1', hx2'⟩ ?_
      dsimp only [List.dropLast, List.zip, List.zipWith, List.getLast]
      repeat (apply wpMix_free
              · intro z hz
                try dsimp only at hz
                go_simp
                all_goals with_reducible rfl
              simp only [Act.put, List.setIfInBounds_toArray, List.set_cons_zero, List.set_cons_succ])
      refine wpMix_end ?_
      go_simp
      refine (take_any l l.bd _ dir x _ (HWD.out.same (w' := W.drew) rfl) hdir hso.1 hso.2 (by omega)).mono ?_
      rintro e V ⟨⟨r, rfl⟩, hnV, hgV⟩
      have HNV := Lib.hid hnV
      have HGV : Hid (w.grownBy V (some l.bd)) := Lib.hid ((HG.out.trans HWG.out).trans ⟨hgV.os, hgV.tape, hgV.output, hgV.size, fun k hk hne => hgV.block k hk hne⟩)
      clear hnV hgV hm3 hx0 hx1 hx2 hx0' hx1' hx2' hr0 hr1 hr2 hk3
      go_wp2_with fail
      go_roundw
      case rel => exact ⟨j + 1, by omega, by go_num, HGV.out, by rw [HNX.out]; exact HNV.out⟩
      case measure => simp [intOf]; omega
    · obtain rfl : j = n := by omega
      have hk1 := (World.cell?_of_block (a := ⟨p, 1, none⟩) (hg.block p hpl (by simpa using hpd))).trans hc1
      have hwr : WaitsAt wr l l.bw s.waits := HW.out.same (hg.block _ hbwl (by simpa using hap.2.1))
      have HWR := Lib.hid hwr; have HN := Lib.hid hnm; have HG := Lib.hid hg
      clear hwr hnm hg
      go_wp2_with (first
        | (at_mapUpdate; refine wpList_store str_laid Tryz.underlying55 (c := dir) rfl (.tmp 32) (.tmp 33) (.const (.slice none 0 0)) rfl HWR.out (by rw [List.length_map]; unfold maxLen; omega) rfl rfl hdir (.slice none 0 0) rfl ?_; intro w3 hw3 hg3 hz3)
        | fail)
      go_end0
      exact ⟨⟨_, rfl⟩, wr, HG.out, HN.out, hw3, hg3⟩
theorem keep_any (p : Nat) (s : Pf) (l : Loc) (dir : ByteArray) (n : Nat) (w : World) (h : At w p s l) (hdir : okS dir) (hst : ∀ x ∈ waitsOf s dir, okS x.gone ∧ okS x.name) (hn : n ≤ (waitsOf s dir).length) (hlen : s.dur.length + (waitsOf s dir).length ≤ 900000) (hld : s.waits.length ≤ 1000000) :
    Calls Tryz.prog 50 #[.pointer (some ⟨p, 0, none⟩), .string dir, .int .i64 n] w fun e w' => (∃ r, e = .returned r) ∧ ∃ l', l'.loc = l.loc ∧ At w' p (keepS s dir n) l' ∧ Moves w w' (Foot p s l) (Foot p (keepS s dir n) l') := by
  refine (keep_walk p s l dir n w h hdir hst hn hlen hld).mono ?_
  rintro e w' ⟨hr, V, hg, hd, hw, hg2⟩
  have hbl : ∀ g, g < w.heap.size → g ≠ l.bd → g ≠ l.bw → w'.heap[g]? = w.heap[g]? := fun g hgl h1 h2 => (hg2.block g (Nat.lt_of_lt_of_le hgl hg.size) (by simpa using h2)).trans (hg.block g hgl (by simpa using h1))
  have hat : ∀ g, (Value.slice none 0 0).ownBlock = some g → (rowOf s l dir).ownBlock = some g ∨ w.heap.size ≤ g := fun g e => by cases e
  refine ⟨hr, setRow l dir (.slice none 0 0), rfl, at_turn h (ns := s.names) (ds := takeAll s.dur dir ((waitsOf s dir).take n)) (xs := []) (fun i hi => ?_) ?_ (hd.same (hg2.block _ hd.lt (by simpa using h.apart.2.1.symm))) hw (OwnR.nil _ _ _ _) hat fun g hgl _ h2 h3 _ => hbl g hgl h2 h3, hg2.os.trans hg.os, hg2.tape.trans hg.tape, hg2.output.trans hg.output, Nat.le_trans hg.size hg2.size, fun g hgl hnf => hbl g hgl (fun e => hnf (.inr (.inr (.inr (.inl e))))) (fun e => hnf (.inr (.inl e))), fun g hgf => ?_⟩
  · have hi2 := h.files i (live_keep (dir := dir) (k := n) hi)
    have hc : w.heap[l.loc i]? = _ := hi2.2.2
    exact ⟨hi2.1, hi2.2.1, hi2.2.2.keep (hbl _ hi2.2.2.lt (cells_ne hc h.dur.kind) (cells_ne hc h.waits.kind))⟩
  · exact h.names.same (hbl _ h.names.lt h.apart.2.2 h.apart.1.symm)
  · rcases foot_turn (w := w) (E := fun _ => False) (ns := s.names) (ds := takeAll s.dur dir ((waitsOf s dir).take n)) (xs := []) (fun i hi => .inl (live_keep (dir := dir) (k := n) hi)) hat g hgf with (h1 | ⟨i, h1, _⟩) | h1
    · exact .inl h1
    · exact h1.elim
    · exact .inr h1
end Go.Proofs.YtdbcjiapbehacaaGreatDoor.Vp
