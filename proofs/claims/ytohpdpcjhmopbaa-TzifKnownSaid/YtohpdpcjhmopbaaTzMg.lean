/-
  TzBl, TzBp, TzBm, TzBn, TzBo, TzCa, TzBq, one behind the other.
-/
import Derived.Test.YtohpdpcjhmopbaaTzMf
import Derived.Test.YtohpdpcjhmopbaaTzMd
import Derived.Lib.LazyBuf
/-! Layer 6 (tzif): a block that may not be. -/
namespace Go.Proofs.Ytohpdpcjhmopbaa.Tz
open Go.RowKit

set_option maxRecDepth 100000 in
set_option maxHeartbeats 400000 in
theorem block_a (h : Hd) (wd : Nat) (g : Nat) (w : World) (hm : mayB h = false) :
    Calls Try.prog 45 #[.pointer (some ⟨g, 0, none⟩), hdVal h, .int .i64 wd] w fun e w' => e = .returned (.tuple #[noZone, .bool false]) ∧ Below w.heap.size w w' := by
  have HM : Hid (∀ V, Calls Try.prog 54 #[hdVal h] V fun e w' => e = .returned (.bool false) ∧ Below V.heap.size V w') := Lib.hid fun V => by have := mayBe_any h V; rwa [hm] at this
  clear hm
  obtain ⟨version, uts, stds, leaps, times, types, letters⟩ := h
  unfold hdVal at HM ⊢
  simp only at HM ⊢
  obtain ⟨X, hX⟩ : ∃ X, (w.alloc (.cells #[.int .u8 version, .int .i64 uts, .int .i64 stds, .int .i64 leaps, .int .i64 times, .int .i64 types, .int .i64 letters] 60)).alloc (.cells #[.slice none 0 0, .slice none 0 0, .slice none 0 0, .string ⟨#[]⟩] 26) = X := ⟨_, rfl⟩
  have HB0 : Hid (Below w.heap.size w X) := Lib.hid (by rw [← hX]; exact ((Below.refl _ _).alloc (Nat.le_refl _) _).alloc (by simp) _)
  have HS : Hid (w.heap.size + 1 < X.heap.size) := Lib.hid (by rw [← hX]; simp)
  have HZ : Hid (∀ i u, (#[.slice none 0 0, .slice none 0 0, .slice none 0 0, .string ⟨#[]⟩] : Array Value)[i]? = some u → X.cell? ⟨w.heap.size + 1, i, none⟩ = some u) := Lib.hid fun i u hu => by rw [← hX]; exact cell_new _ _ _ _ i u (by simp) hu
  have HF : Hid (∀ i, X.frozen? ⟨w.heap.size + 1, i, none⟩ = false) := Lib.hid fun i => by rw [← hX]; exact frozen_of_row _ _ i _ _ (by have := heap_alloc_new (w.alloc (.cells #[.int .u8 version, .int .i64 uts, .int .i64 stds, .int .i64 leaps, .int .i64 times, .int .i64 types, .int .i64 letters] 60)) (.cells #[.slice none 0 0, .slice none 0 0, .slice none 0 0, .string ⟨#[]⟩] 26); simpa using this)
  have hq : ∀ i u, (#[.int .u8 version, .int .i64 uts, .int .i64 stds, .int .i64 leaps, .int .i64 times, .int .i64 types, .int .i64 letters] : Array Value)[i]? = some u → X.cell? ⟨w.heap.size, i, none⟩ = some u := fun i u hu => by
    rw [← hX]
    have h1 : Below (w.heap.size + 1) (w.alloc (.cells #[.int .u8 version, .int .i64 uts, .int .i64 stds, .int .i64 leaps, .int .i64 times, .int .i64 types, .int .i64 letters] 60)) ((w.alloc (.cells #[.int .u8 version, .int .i64 uts, .int .i64 stds, .int .i64 leaps, .int .i64 times, .int .i64 types, .int .i64 letters] 60)).alloc (.cells #[.slice none 0 0, .slice none 0 0, .slice none 0 0, .string ⟨#[]⟩] 26)) := (Below.refl _ _).alloc (by simp) _
    exact (h1.cell (p := ⟨w.heap.size, i, none⟩) (Nat.lt_succ_self _)).trans (cell_new w _ _ _ i u rfl hu)
  have q0 := hq 0 _ rfl
  have q1 := hq 1 _ rfl
  have q2 := hq 2 _ rfl
  have q3 := hq 3 _ rfl
  have q4 := hq 4 _ rfl
  have q5 := hq 5 _ rfl
  have q6 := hq 6 _ rfl
  clear hq
  go_enter Try.func45, Try.ntmps45
  go_wp2_with (first
    | (go_at_call 54; (try rw [hX]); refine (HM.out _).mono ?_; clear HM; rintro e V ⟨rfl, hb⟩; have HB1 := Lib.hid (HB0.out.trans (hb.mono HB0.out.size)); have k0 := cells_at (w.heap.size + 1) hb HS.out (HZ.out 0 _ rfl); have k1 := cells_at (w.heap.size + 1) hb HS.out (HZ.out 1 _ rfl); have k2 := cells_at (w.heap.size + 1) hb HS.out (HZ.out 2 _ rfl); have k3 := cells_at (w.heap.size + 1) hb HS.out (HZ.out 3 _ rfl); have HS1 := (Nat.lt_of_lt_of_le HS.out hb.size); have hf : ∀ o, V.frozen? ⟨w.heap.size + 1, o, none⟩ = false := (fun o => (hb.frozen (p := ⟨w.heap.size + 1, o, none⟩) HS.out).trans (HF.out o)); have f0 := hf 0; have f1 := hf 1; have f2 := hf 2; have f3 := hf 3; clear hb hf; clear hX q0 q1 q2 q3 q4 q5 q6)
    | fail)
  exact bodyPost_ret (v := .tuple #[noZone, .bool false]) (by simp [results, Try.results45, go_sem, noZone, k0, k1, k2, k3]) rfl ⟨rfl, ((((HB1.out.setCell (by simp) _).setCell (by simp) _).setCell (by simp) _).setCell (by simp) _)⟩
set_option maxRecDepth 100000 in
set_option maxHeartbeats 400000 in
theorem block_b (h : Hd) (wd : Nat) (l : List Nat) (B g : Nat) (w : World) (hr : Rd w B g l) (hw : wd = 4 ∨ wd = 8) (ho : HdOk h) (hm : mayB h = true) (hl : l.length < longN h wd) :
    Calls Try.prog 45 #[.pointer (some ⟨g, 0, none⟩), hdVal h, .int .i64 wd] w fun e w' => e = .returned (.tuple #[noZone, .bool false]) ∧ Below w.heap.size w w' := by
  have HM : Hid (∀ V, Calls Try.prog 54 #[hdVal h] V fun e w' => e = .returned (.bool true) ∧ Below V.heap.size V w') := Lib.hid fun V => by have := mayBe_any h V; rwa [hm] at this
  obtain ⟨N, hN⟩ : ∃ N, longN h wd = N := ⟨_, rfl⟩
  have HL : Hid (∀ V, Calls Try.prog 23 #[hdVal h, .int .i64 wd] V fun e w' => e = .returned (.int .i64 N) ∧ Below V.heap.size V w') := Lib.hid fun V => by have := blockLong_any h wd hw ho V; rwa [hN] at this
  rw [hN] at hl
  have HH : Hid (∀ V, Below w.heap.size w V → Calls Try.prog 46 #[.pointer (some ⟨g, 0, none⟩), .int .i64 N] V fun e w' => e = .returned (.bool false) ∧ V = w') := Lib.hid fun V hb => by
    have := has_any l B g N V (hr.below hb hr.lt)
    rwa [show decide ((N : Int) ≤ (l.length : Int)) = false by simp; omega] at this
  clear hm hr hl ho hN hw
  obtain ⟨version, uts, stds, leaps, times, types, letters⟩ := h
  unfold hdVal at HM HL ⊢
  simp only at HM HL ⊢
  obtain ⟨X, hX⟩ : ∃ X, (w.alloc (.cells #[.int .u8 version, .int .i64 uts, .int .i64 stds, .int .i64 leaps, .int .i64 times, .int .i64 types, .int .i64 letters] 60)).alloc (.cells #[.slice none 0 0, .slice none 0 0, .slice none 0 0, .string ⟨#[]⟩] 26) = X := ⟨_, rfl⟩
  have HB0 : Hid (Below w.heap.size w X) := Lib.hid (by rw [← hX]; exact ((Below.refl _ _).alloc (Nat.le_refl _) _).alloc (by simp) _)
  have HS : Hid (w.heap.size + 1 < X.heap.size) := Lib.hid (by rw [← hX]; simp)
  have HZ : Hid (∀ i u, (#[.slice none 0 0, .slice none 0 0, .slice none 0 0, .string ⟨#[]⟩] : Array Value)[i]? = some u → X.cell? ⟨w.heap.size + 1, i, none⟩ = some u) := Lib.hid fun i u hu => by rw [← hX]; exact cell_new _ _ _ _ i u (by simp) hu
  have HF : Hid (∀ i, X.frozen? ⟨w.heap.size + 1, i, none⟩ = false) := Lib.hid fun i => by rw [← hX]; exact frozen_of_row _ _ i _ _ (by have := heap_alloc_new (w.alloc (.cells #[.int .u8 version, .int .i64 uts, .int .i64 stds, .int .i64 leaps, .int .i64 times, .int .i64 types, .int .i64 letters] 60)) (.cells #[.slice none 0 0, .slice none 0 0, .slice none 0 0, .string ⟨#[]⟩] 26); simpa using this)
  have hq : ∀ i u, (#[.int .u8 version, .int .i64 uts, .int .i64 stds, .int .i64 leaps, .int .i64 times, .int .i64 types, .int .i64 letters] : Array Value)[i]? = some u → X.cell? ⟨w.heap.size, i, none⟩ = some u := fun i u hu => by
    rw [← hX]
    have h1 : Below (w.heap.size + 1) (w.alloc (.cells #[.int .u8 version, .int .i64 uts, .int .i64 stds, .int .i64 leaps, .int .i64 times, .int .i64 types, .int .i64 letters] 60)) ((w.alloc (.cells #[.int .u8 version, .int .i64 uts, .int .i64 stds, .int .i64 leaps, .int .i64 times, .int .i64 types, .int .i64 letters] 60)).alloc (.cells #[.slice none 0 0, .slice none 0 0, .slice none 0 0, .string ⟨#[]⟩] 26)) := (Below.refl _ _).alloc (by simp) _
    exact (h1.cell (p := ⟨w.heap.size, i, none⟩) (Nat.lt_succ_self _)).trans (cell_new w _ _ _ i u rfl hu)
  have q0 := hq 0 _ rfl
  have q1 := hq 1 _ rfl
  have q2 := hq 2 _ rfl
  have q3 := hq 3 _ rfl
  have q4 := hq 4 _ rfl
  have q5 := hq 5 _ rfl
  have q6 := hq 6 _ rfl
  clear hq
  go_enter Try.func45, Try.ntmps45
  go_wp2_with (first
    | (go_at_call 54; (try rw [hX]); refine (HM.out _).mono ?_; clear HM; rintro e V ⟨rfl, hb⟩; have HB1 := Lib.hid (HB0.out.trans (hb.mono HB0.out.size)); have HB2 := Lib.hid hb; have q0b := cells_at w.heap.size hb (Nat.lt_of_succ_lt HS.out) q0; have q1b := cells_at w.heap.size hb (Nat.lt_of_succ_lt HS.out) q1; have q2b := cells_at w.heap.size hb (Nat.lt_of_succ_lt HS.out) q2; have q3b := cells_at w.heap.size hb (Nat.lt_of_succ_lt HS.out) q3; have q4b := cells_at w.heap.size hb (Nat.lt_of_succ_lt HS.out) q4; have q5b := cells_at w.heap.size hb (Nat.lt_of_succ_lt HS.out) q5; have q6b := cells_at w.heap.size hb (Nat.lt_of_succ_lt HS.out) q6; clear hb hX q0 q1 q2 q3 q4 q5 q6)
    | (go_at_call 23; refine (HL.out _).mono ?_; clear HL; rintro e V2 ⟨rfl, hb⟩; have HB3 := Lib.hid (HB1.out.trans (hb.mono HB1.out.size)); have HB4 := Lib.hid (HB2.out.trans (hb.mono HB2.out.size)); clear hb)
    | (go_at_call 46; refine (HH.out _ HB3.out).mono ?_; clear HH; rintro e V ⟨rfl, rfl⟩; have hb := HB4.out; have k0 := cells_at (w.heap.size + 1) hb HS.out (HZ.out 0 _ rfl); have k1 := cells_at (w.heap.size + 1) hb HS.out (HZ.out 1 _ rfl); have k2 := cells_at (w.heap.size + 1) hb HS.out (HZ.out 2 _ rfl); have k3 := cells_at (w.heap.size + 1) hb HS.out (HZ.out 3 _ rfl); have HS1 := (Nat.lt_of_lt_of_le HS.out hb.size); have hf : ∀ o, V2.frozen? ⟨w.heap.size + 1, o, none⟩ = false := (fun o => (hb.frozen (p := ⟨w.heap.size + 1, o, none⟩) HS.out).trans (HF.out o)); have f0 := hf 0; have f1 := hf 1; have f2 := hf 2; have f3 := hf 3; clear hb hf)
    | fail)
  exact bodyPost_ret (v := .tuple #[noZone, .bool false]) (by simp [results, Try.results45, go_sem, noZone, k0, k1, k2, k3]) rfl ⟨rfl, ((((HB3.out.setCell (by simp) _).setCell (by simp) _).setCell (by simp) _).setCell (by simp) _)⟩
end Go.Proofs.Ytohpdpcjhmopbaa.Tz

/-! Layer 6 (tzif): rows of types of the call's own; a zone of the call's own. -/
namespace Go.Proofs.Ytohpdpcjhmopbaa.Tz
open Go.RowKit

theorem tp_info : (Try.prog.info? 54).map (fun i => (i.zero, i.size, i.bytes)) = some (some (.agg #[.int .i64 0, .bool false, .string ⟨#[]⟩]), 3, 32) := by kernel_rfl
/-- A row of the program's types, of the call's own. -/
def OwnY (w : World) (base : Nat) (v : Value) (l : List Ty) : Prop := w.ownsRow base 54 3 v l.length (l.flatMap tyCells)
section
variable {w w' : World} {base : Nat} {v : Value} {l : List Ty}
theorem OwnY.keep (h : OwnY w base v l) (hb : Below w.heap.size w w') : OwnY w' base v l :=
  World.ownsRow.kept h (row := none) ⟨hb.os, hb.tape, hb.output, hb.size, fun k hk _ => hb.block k hk⟩ (by cases hv : v.ownBlock <;> simp)
theorem OwnY.alloc (h : OwnY w base v l) (o : Obj) : OwnY (w.alloc o) base v l := World.ownsRow.alloc h o
theorem OwnY.lt (h : OwnY w base v l) (k : Nat) (hk : v.ownBlock = some k) : base ≤ k ∧ k < w.heap.size := World.ownsRow.lt h k hk
theorem OwnY.other {g : Nat} (h : OwnY w base v l) (hg : w.grownBy w' (some g)) (hb : g < base) : OwnY w' base v l :=
  World.ownsRow.kept h hg (by
    cases hv : v.ownBlock with
    | none => exact .inl rfl
    | some k => exact .inr (fun e => by injection e with e; have := (h.lt k hv).1; omega))
theorem OwnY.set (h : OwnY w base v l) {g : Nat} (hg : g < base) (i : Nat) (u : Value) : OwnY (w.setCell ⟨g, i, none⟩ u) base v l := h.other (grown_set w g i u) hg
theorem OwnY.form (h : OwnY w base v l) : ∃ A c, v = .slice A l.length c := by
  rcases h.2 with ⟨rfl, h0⟩ | ⟨g, cap, cur, rfl, _⟩
  · exact ⟨none, 0, by rw [h0]⟩
  · exact ⟨_, _, rfl⟩
theorem OwnY.lower {b : Nat} (h : OwnY w base v l) (hc : b ≤ base) : OwnY w b v l := by
  refine ⟨h.1, ?_⟩
  rcases h.2 with h0 | ⟨g, cap, cur, e, hbg, h⟩
  · exact .inl h0
  · exact .inr ⟨g, cap, cur, e, Nat.le_trans hc hbg, h⟩
theorem OwnI.lower {te : TypeId} {xs : List Int} {b : Nat} (h : OwnI w base te v xs) (hc : b ≤ base) : OwnI w b te v xs := by
  refine ⟨h.1, ?_⟩
  rcases h.2 with h0 | ⟨g, cap, cur, e, hbg, h⟩
  · exact .inl h0
  · exact .inr ⟨g, cap, cur, e, Nat.le_trans hc hbg, h⟩
theorem OwnY.sl (h : OwnY w base v l) {B : Nat} (hB : w.heap.size ≤ B) : Sl w B 3 v (l.map tyCells) := by
  refine ⟨?_, fun j row hj => ?_⟩
  · obtain ⟨A, c, e⟩ := h.form
    exact ⟨A, c, by rw [List.length_map]; exact e⟩
  · rw [List.getElem?_map] at hj
    cases hx : l[j]? with
    | none => rw [hx] at hj; cases hj
    | some t =>
      rw [hx] at hj
      have e : row = tyCells t := by injection hj with hj; exact hj.symm
      subst e
      have hlt : j < l.length := (List.getElem?_eq_some_iff.1 hx).1
      obtain ⟨g, cap, cur, rfl, hg⟩ : ∃ g cap cur, v = .slice (some ⟨g, 0, none⟩) l.length cap ∧ w.heap[g]? = some (.cells cur 54 (0, 0)) := by
        rcases h.2 with ⟨_, h0⟩ | ⟨g, cap, cur, e, hbg, hg, _⟩
        · omega
        · exact ⟨g, cap, cur, e, hg⟩
      have hgl := (Array.getElem?_eq_some_iff.1 hg).1
      refine ⟨g, 0, cap, by rw [List.length_map], by omega, fun k u hu => ?_⟩
      have := World.ownsRow.cells h (g := g) rfl (j * 3 + k) u (flat_ty hx hu)
      rw [Own_add] at this
      rw [Nat.zero_add]; exact this
theorem growY_below {w w' : World} {base B : Nat} {v v' : Value} {l : List Ty} (h : OwnY w base v l) (hg : Grew w w' v v') (hB : B ≤ base) (hS : B ≤ w.heap.size) : Below B w w' :=
  ⟨hg.gr.os, hg.gr.tape, hg.gr.output, hg.gr.size, fun k hk => hg.gr.block k (by omega) (fun e => by have := (h.lt k e.symm).1; omega)⟩
end
set_option maxRecDepth 100000 in
theorem plain_append_ty {ops : Array Oper} {rest : List Oper} {o : Oper} {a : Act} {w : World} {Q : Exit → Act → World → Prop} (s x : Operand) (hgd : o.guard = none)
    (ho : o.op = .call { callee := .builtin .append, args := #[s, x], argTypes := #[22, 22] }) (base n : Nat) (v : Value) (l : List Ty) (r : Ty) (g : Nat)
    (hs : a.eval s = v) (hx : a.eval x = .slice (some ⟨g, 0, none⟩) 1 1) (hown : OwnY w base v l) (hz : ∀ j u, (tyCells r)[j]? = some u → w.cell? ((⟨g, 0, none⟩ : Addr).add j) = some u) (hlen : l.length ≤ 1000000) (hbase : base ≤ w.heap.size) (hn : l.length + 1 = n)
    (h : ∀ A c w', OwnY w' base (.slice A n c) (l ++ [r]) → Grew w w' v (.slice A n c) → wpList Try.prog ops Q rest (a.put o.dst (.slice A n c)) w') : wpList Try.prog ops Q (o :: rest) a w := by
  obtain ⟨i, hi, hz0, hz1, hz2⟩ := info_parts tp_info
  refine wpList_append_own_at w hgd s x 22 ho base 54 i _ 3 32 Try.underlying22 hi hz0 hz1 hz2 rfl (by decide) v l.length (l.flatMap tyCells) hs hown ⟨g, 0, none⟩ 1 1 (tyCells r) hx (by simp [tyCells]) hz (by simp [tyCells, Value.oneCell']) (by unfold maxLen; omega) (by omega) hbase ?_
  intro v' w' hown' hgr _ hat
  have hO : OwnY w' base v' (l ++ [r]) := by
    unfold OwnY
    rw [List.length_append, List.flatMap_append]
    simpa using hown'
  obtain ⟨A, c, e⟩ := hO.form
  rw [List.length_append, List.length_singleton, hn] at e
  subst e
  exact h A c w' hO ⟨hgr, hat.imp id fun e => ⟨_, e, Nat.le_refl _⟩⟩
/-! ### A zone of the call's own -/
structure ZnOwn (w : World) (base : Nat) (z : Zn) (vt vs vi : Value) : Prop where
  types : OwnY w base vt z.types
  times : OwnI w base 2 vs z.times
  index : OwnI w base 3 vi z.index
section
variable {w w' : World} {base : Nat} {z : Zn} {vt vs vi : Value}
theorem ZnOwn.keep (h : ZnOwn w base z vt vs vi) (hb : Below w.heap.size w w') : ZnOwn w' base z vt vs vi := ⟨h.types.keep hb, h.times.keep hb, h.index.keep hb⟩
theorem ZnOwn.other {g : Nat} (h : ZnOwn w base z vt vs vi) (hg : w.grownBy w' (some g)) (hb : g < base) : ZnOwn w' base z vt vs vi := ⟨h.types.other hg hb, h.times.other hg hb, h.index.other hg hb⟩
theorem ZnOwn.set (h : ZnOwn w base z vt vs vi) {g : Nat} (hg : g < base) (i : Nat) (u : Value) : ZnOwn (w.setCell ⟨g, i, none⟩ u) base z vt vs vi := h.other (grown_set w g i u) hg
theorem ZnOwn.at_ (h : ZnOwn w base z vt vs vi) : ZnAt w w.heap.size z vt vs vi := ⟨h.types.sl (Nat.le_refl _), h.times.sl (Nat.le_refl _), h.index.sl (Nat.le_refl _)⟩
theorem ZnOwn.lower {b : Nat} (h : ZnOwn w base z vt vs vi) (hc : b ≤ base) : ZnOwn w b z vt vs vi := ⟨h.types.lower hc, h.times.lower hc, h.index.lower hc⟩
theorem ZnOwn.foot (h : ZnOwn w base z vt vs vi) (f : ByteArray) : ZnOwn w base { z with footer := f } vt vs vi := ⟨h.types, h.times, h.index⟩
/-- In its own blocks, and no others: a block that is not among them may be written. -/
theorem ZnOwn.apart (h : ZnOwn w base z vt vs vi) {g : Nat} (hg : w.grownBy w' (some g)) (hv : vt.ownBlock ≠ some g ∧ vs.ownBlock ≠ some g ∧ vi.ownBlock ≠ some g) : ZnOwn w' base z vt vs vi :=
  ⟨World.ownsRow.kept h.types hg (.inr hv.1), World.ownsRow.kept h.times hg (.inr hv.2.1), World.ownsRow.kept h.index hg (.inr hv.2.2)⟩
end
end Go.Proofs.Ytohpdpcjhmopbaa.Tz

/-! Layer 6 (tzif): a file whose head is none. -/
namespace Go.Proofs.Ytohpdpcjhmopbaa.Tz
open Go.RowKit

theorem cells_of {w w' : World} {g k i : Nat} {u : Value} (h : w.grownBy w' (some g)) (hk : k < w.heap.size) (hg : g < k) (hc : w.cell? ⟨k, i, none⟩ = some u) : w'.cell? ⟨k, i, none⟩ = some u :=
  (World.cell?_of_block (a := ⟨k, i, none⟩) (h.block k hk (fun e => by injection e with e; omega))).trans hc
theorem frozen_of {w w' : World} {g k i : Nat} (h : w.grownBy w' (some g)) (hk : k < w.heap.size) (hg : g < k) : w'.frozen? ⟨k, i, none⟩ = w.frozen? ⟨k, i, none⟩ :=
  World.frozen?_of_block (a := ⟨k, i, none⟩) (h.block k hk (fun e => by injection e with e; omega))
theorem head_no (l : List Nat) (B g : Nat) (w : World) (h : Rd w B g l) (hb : ∀ b ∈ l, b < 256) (hq : hdGood l = false) :
    Calls Try.prog 44 #[.pointer (some ⟨g, 0, none⟩)] w fun e w' => e = .returned (.tuple #[noHead, .bool false]) ∧ w.grownBy w' (some g) := by
  by_cases h44 : 44 ≤ l.length
  · by_cases hm : l.take 4 = [84, 90, 105, 102]
    · have h0 : ¬ (l.getD 4 0 = 0 ∨ l.getD 4 0 = 50 ∨ l.getD 4 0 = 51) := by
        intro hx
        have : hdGood l = true := by unfold hdGood; simp only [decide_eq_true h44, decide_eq_true hm]; simpa [or_assoc] using hx
        rw [this] at hq; cases hq
      exact head_c l B g w _ h hb h44 hm rfl (by omega) (by omega) (by omega)
    · exact head_b l B g w h hb h44 hm
  · exact head_a l B g w h (by omega)
theorem head_yes (l : List Nat) (B g : Nat) (w : World) (h : Rd w B g l) (hb : ∀ b ∈ l, b < 256) (hq : hdGood l = true) :
    Calls Try.prog 44 #[.pointer (some ⟨g, 0, none⟩)] w fun e w' => e = .returned (.tuple #[hdVal (hdOf l), .bool true]) ∧ Rd w' B g (l.drop 44) ∧ w.grownBy w' (some g) := by
  unfold hdGood at hq
  simp only [Bool.and_eq_true, Bool.or_eq_true, decide_eq_true_eq] at hq
  obtain ⟨⟨h44, hm⟩, hv⟩ := hq
  exact head_d l B g w _ h hb h44 hm rfl (by omega)
set_option maxRecDepth 100000 in
set_option maxHeartbeats 400000 in
theorem parse_a (l : List Nat) (B g : Nat) (w : World) (h : Rd w B g l) (hb : ∀ b ∈ l, b < 256) (hq : hdGood l = false) :
    Calls Try.prog 39 #[.pointer (some ⟨g, 0, none⟩)] w fun e w' => e = .returned (.tuple #[noZone, .bool false]) ∧ w.grownBy w' (some g) := by
  have HG : Hid (g < w.heap.size) := Lib.hid h.lt
  obtain ⟨X, hX⟩ : ∃ X, w.alloc (.cells #[.slice none 0 0, .slice none 0 0, .slice none 0 0, .string ⟨#[]⟩] 26) = X := ⟨_, rfl⟩
  have hbx : Below w.heap.size w X := by rw [← hX]; exact (Below.refl _ _).alloc (Nat.le_refl _) _
  have HB0 : Hid (w.grownBy X (some g)) := Lib.hid (by rw [← hX]; exact World.grownBy_alloc w _ _)
  have HS : Hid (w.heap.size < X.heap.size) := Lib.hid (by rw [← hX]; simp)
  have HZ : Hid (∀ i u, (#[.slice none 0 0, .slice none 0 0, .slice none 0 0, .string ⟨#[]⟩] : Array Value)[i]? = some u → X.cell? ⟨w.heap.size, i, none⟩ = some u) := Lib.hid fun i u hu => by rw [← hX]; exact cell_new w _ _ _ i u rfl hu
  have HF : Hid (∀ i, X.frozen? ⟨w.heap.size, i, none⟩ = false) := Lib.hid fun i => by rw [← hX]; exact frozen_of_row _ _ i _ _ (heap_alloc_new _ _)
  have HH : Hid (Calls Try.prog 44 #[.pointer (some ⟨g, 0, none⟩)] X fun e w' => e = .returned (.tuple #[noHead, .bool false]) ∧ X.grownBy w' (some g)) := Lib.hid (head_no l B g X (h.below hbx h.lt) hb hq)
  clear h hb hq hbx
  unfold noHead at HH
  go_enter Try.func39, Try.ntmps39
  go_wp2_with (first
    | (go_at_call 44; (try rw [hX]); refine HH.out.mono ?_; clear HH; rintro e V ⟨rfl, hb⟩; have HB1 := Lib.hid (HB0.out.trans hb); have k0 := (cells_of hb HS.out HG.out (HZ.out 0 _ rfl)); have k1 := (cells_of hb HS.out HG.out (HZ.out 1 _ rfl)); have k2 := (cells_of hb HS.out HG.out (HZ.out 2 _ rfl)); have k3 := (cells_of hb HS.out HG.out (HZ.out 3 _ rfl)); have HS1 := (Nat.lt_of_lt_of_le HS.out hb.size); have hf : ∀ o, V.frozen? ⟨w.heap.size, o, none⟩ = false := (fun o => (frozen_of hb HS.out HG.out).trans (HF.out o)); have f0 := hf 0; have f1 := hf 1; have f2 := hf 2; have f3 := hf 3; clear hb hf hX)
    | fail)
  exact bodyPost_ret (v := .tuple #[noZone, .bool false]) (by simp [results, Try.results39, go_sem, noZone, k0, k1, k2, k3, HS1]) rfl ⟨rfl, gb_below HB1.out (((((Below.refl w.heap.size V).setCell (Nat.le_refl _) _).setCell (Nat.le_refl _) _).setCell (Nat.le_refl _) _).setCell (Nat.le_refl _) _ |>.alloc (by have := HB1.out.size; simpa using this) _)⟩
end Go.Proofs.Ytohpdpcjhmopbaa.Tz

/-! Layer 6 (tzif): a file that is too short for its first block. -/
namespace Go.Proofs.Ytohpdpcjhmopbaa.Tz
open Go.RowKit

set_option maxRecDepth 100000 in
set_option maxHeartbeats 400000 in
theorem parse_b (l : List Nat) (B g : Nat) (w : World) (h : Rd w B g l) (hb : ∀ b ∈ l, b < 256) (hq : hdGood l = true) (hv : l.getD 4 0 ≠ 0) (ho : HdOk (hdOf l)) (hl : (l.drop 44).length < longN (hdOf l) 4) :
    Calls Try.prog 39 #[.pointer (some ⟨g, 0, none⟩)] w fun e w' => e = .returned (.tuple #[noZone, .bool false]) ∧ w.grownBy w' (some g) := by
  have HG : Hid (g < w.heap.size) := Lib.hid h.lt
  obtain ⟨X, hX⟩ : ∃ X, w.alloc (.cells #[.slice none 0 0, .slice none 0 0, .slice none 0 0, .string ⟨#[]⟩] 26) = X := ⟨_, rfl⟩
  have hbx : Below w.heap.size w X := by rw [← hX]; exact (Below.refl _ _).alloc (Nat.le_refl _) _
  have HB0 : Hid (w.grownBy X (some g)) := Lib.hid (by rw [← hX]; exact World.grownBy_alloc w _ _)
  have HS : Hid (w.heap.size < X.heap.size) := Lib.hid (by rw [← hX]; simp)
  have HZ : Hid (∀ i u, (#[.slice none 0 0, .slice none 0 0, .slice none 0 0, .string ⟨#[]⟩] : Array Value)[i]? = some u → X.cell? ⟨w.heap.size, i, none⟩ = some u) := Lib.hid fun i u hu => by rw [← hX]; exact cell_new w _ _ _ i u rfl hu
  have HF : Hid (∀ i, X.frozen? ⟨w.heap.size, i, none⟩ = false) := Lib.hid fun i => by rw [← hX]; exact frozen_of_row _ _ i _ _ (heap_alloc_new _ _)
  have HH : Hid (Calls Try.prog 44 #[.pointer (some ⟨g, 0, none⟩)] X fun e w' => e = .returned (.tuple #[hdVal (hdOf l), .bool true]) ∧ Rd w' B g (l.drop 44) ∧ X.grownBy w' (some g)) := Lib.hid (head_yes l B g X (h.below hbx h.lt) hb hq)
  have HL : Hid (∀ V, Calls Try.prog 23 #[hdVal (hdOf l), .int .i64 4] V fun e w' => e = .returned (.int .i64 (longN (hdOf l) 4)) ∧ Below V.heap.size V w') := Lib.hid fun V => blockLong_any (hdOf l) 4 (.inl rfl) ho V
  obtain ⟨N, hN⟩ : ∃ N, longN (hdOf l) 4 = N := ⟨_, rfl⟩
  rw [hN] at HL hl
  obtain ⟨l2, hl2⟩ : ∃ l2, l.drop 44 = l2 := ⟨_, rfl⟩
  rw [hl2] at HH hl
  have hver : (hdOf l).version = l.getD 4 0 := rfl
  obtain ⟨hd, hhd⟩ : ∃ hd, hdOf l = hd := ⟨_, rfl⟩
  rw [hhd] at HH HL hver
  rw [← hver] at hv
  clear hver hhd hN hl2 ho
  obtain ⟨version, uts, stds, leaps, times, types, letters⟩ := hd
  simp only at hv
  have v0 : decide ((version : Int) = 0) = false := by simp; omega
  have v1 : ((version : Int) == 0) = false := by simp; omega
  have HN : Hid (∀ V, Rd V B g l2 → Calls Try.prog 46 #[.pointer (some ⟨g, 0, none⟩), .int .i64 N] V fun e w' => e = .returned (.bool false) ∧ V = w') := Lib.hid fun V hr => by
    have := has_any l2 B g N V hr
    rwa [show decide ((N : Int) ≤ (l2.length : Int)) = false by simp; omega] at this
  clear h hb hq hbx hl hv
  unfold hdVal at HH HL
  simp only at HH HL
  go_enter Try.func39, Try.ntmps39
  go_wp2_with (first
    | (go_at_call 44; (try rw [hX]); refine HH.out.mono ?_; clear HH; rintro e V ⟨rfl, hr, hb⟩; have HR := Lib.hid hr; clear hr; have HB1 := Lib.hid (HB0.out.trans hb); have k0 := (cells_of hb HS.out HG.out (HZ.out 0 _ rfl)); have k1 := (cells_of hb HS.out HG.out (HZ.out 1 _ rfl)); have k2 := (cells_of hb HS.out HG.out (HZ.out 2 _ rfl)); have k3 := (cells_of hb HS.out HG.out (HZ.out 3 _ rfl)); have HS1 := (Nat.lt_of_lt_of_le HS.out hb.size); have hf : ∀ o, V.frozen? ⟨w.heap.size, o, none⟩ = false := (fun o => (frozen_of hb HS.out HG.out).trans (HF.out o)); have f0 := hf 0; have f1 := hf 1; have f2 := hf 2; have f3 := hf 3; clear hb hf hX)
    | (go_at_call 23; refine (HL.out _).mono ?_; clear HL; rintro e V2 ⟨rfl, hb2⟩; have HB2 := Lib.hid hb2; clear hb2)
    | (go_at_call 46; have hbv := ((Below.refl V.heap.size V).alloc (Nat.le_refl _) _).trans (HB2.out.mono (by simp)); refine (HN.out _ (HR.out.below hbv HR.out.lt)).mono ?_; clear HN; rintro e V3 ⟨rfl, rfl⟩; have HB3 := Lib.hid (gb_below HB1.out (hbv.mono HB1.out.size)); have p0 := cells_at w.heap.size hbv HS1 k0; have g0 := (hbv.frozen (p := ⟨w.heap.size, 0, none⟩) HS1).trans f0; have p1 := cells_at w.heap.size hbv HS1 k1; have g1 := (hbv.frozen (p := ⟨w.heap.size, 1, none⟩) HS1).trans f1; have p2 := cells_at w.heap.size hbv HS1 k2; have g2 := (hbv.frozen (p := ⟨w.heap.size, 2, none⟩) HS1).trans f2; have p3 := cells_at w.heap.size hbv HS1 k3; have g3 := (hbv.frozen (p := ⟨w.heap.size, 3, none⟩) HS1).trans f3; clear hbv k0 k1 k2 k3 f0 f1 f2 f3 HS1)
    | fail)
  exact bodyPost_ret (v := .tuple #[noZone, .bool false]) (by simp [results, Try.results39, go_sem, noZone, p0, p1, p2, p3]) rfl ⟨rfl, gb_below HB3.out (((((Below.refl w.heap.size V2).setCell (Nat.le_refl _) _).setCell (Nat.le_refl _) _).setCell (Nat.le_refl _) _).setCell (Nat.le_refl _) _)⟩
end Go.Proofs.Ytohpdpcjhmopbaa.Tz

/-! Layer 6 (tzif): a file whose second head is none. -/
namespace Go.Proofs.Ytohpdpcjhmopbaa.Tz
open Go.RowKit

set_option maxRecDepth 100000 in
set_option maxHeartbeats 400000 in
theorem parse_c (l : List Nat) (B g : Nat) (w : World) (h : Rd w B g l) (hb : ∀ b ∈ l, b < 256) (hq : hdGood l = true) (hv : l.getD 4 0 ≠ 0) (ho : HdOk (hdOf l)) (hl : longN (hdOf l) 4 ≤ (l.drop 44).length) (hq2 : hdGood ((l.drop 44).drop (longN (hdOf l) 4)) = false) :
    Calls Try.prog 39 #[.pointer (some ⟨g, 0, none⟩)] w fun e w' => e = .returned (.tuple #[noZone, .bool false]) ∧ w.grownBy w' (some g) := by
  have HG : Hid (g < w.heap.size) := Lib.hid h.lt
  obtain ⟨X, hX⟩ : ∃ X, w.alloc (.cells #[.slice none 0 0, .slice none 0 0, .slice none 0 0, .string ⟨#[]⟩] 26) = X := ⟨_, rfl⟩
  have hbx : Below w.heap.size w X := by rw [← hX]; exact (Below.refl _ _).alloc (Nat.le_refl _) _
  have HB0 : Hid (w.grownBy X (some g)) := Lib.hid (by rw [← hX]; exact World.grownBy_alloc w _ _)
  have HS : Hid (w.heap.size < X.heap.size) := Lib.hid (by rw [← hX]; simp)
  have HZ : Hid (∀ i u, (#[.slice none 0 0, .slice none 0 0, .slice none 0 0, .string ⟨#[]⟩] : Array Value)[i]? = some u → X.cell? ⟨w.heap.size, i, none⟩ = some u) := Lib.hid fun i u hu => by rw [← hX]; exact cell_new w _ _ _ i u rfl hu
  have HF : Hid (∀ i, X.frozen? ⟨w.heap.size, i, none⟩ = false) := Lib.hid fun i => by rw [← hX]; exact frozen_of_row _ _ i _ _ (heap_alloc_new _ _)
  have HH : Hid (Calls Try.prog 44 #[.pointer (some ⟨g, 0, none⟩)] X fun e w' => e = .returned (.tuple #[hdVal (hdOf l), .bool true]) ∧ Rd w' B g (l.drop 44) ∧ X.grownBy w' (some g)) := Lib.hid (head_yes l B g X (h.below hbx h.lt) hb hq)
  have HL : Hid (∀ V, Calls Try.prog 23 #[hdVal (hdOf l), .int .i64 4] V fun e w' => e = .returned (.int .i64 (longN (hdOf l) 4)) ∧ Below V.heap.size V w') := Lib.hid fun V => blockLong_any (hdOf l) 4 (.inl rfl) ho V
  obtain ⟨N, hN⟩ : ∃ N, longN (hdOf l) 4 = N := ⟨_, rfl⟩
  rw [hN] at HL hl hq2
  obtain ⟨l2, hl2⟩ : ∃ l2, l.drop 44 = l2 := ⟨_, rfl⟩
  rw [hl2] at HH hl hq2
  have hb2 : ∀ b ∈ l2, b < 256 := fun b hx => hb b (by rw [← hl2] at hx; exact List.mem_of_mem_drop hx)
  have hver : (hdOf l).version = l.getD 4 0 := rfl
  obtain ⟨hd, hhd⟩ : ∃ hd, hdOf l = hd := ⟨_, rfl⟩
  rw [hhd] at HH HL hver
  rw [← hver] at hv
  clear hver hhd hN hl2 ho
  obtain ⟨version, uts, stds, leaps, times, types, letters⟩ := hd
  simp only at hv
  have v0 : decide ((version : Int) = 0) = false := by simp; omega
  have v1 : ((version : Int) == 0) = false := by simp; omega
  have HN : Hid (∀ V, Rd V B g l2 → Calls Try.prog 46 #[.pointer (some ⟨g, 0, none⟩), .int .i64 N] V fun e w' => e = .returned (.bool true) ∧ V = w') := Lib.hid fun V hr => by
    have := has_any l2 B g N V hr
    rwa [show decide ((N : Int) ≤ (l2.length : Int)) = true by simp; omega] at this
  have HL2 := HL
  have HT : Hid (∀ V, Rd V B g l2 → Calls Try.prog 47 #[.pointer (some ⟨g, 0, none⟩), .int .i64 N] V fun e w' => (∃ A c, e = .returned (.slice A N c)) ∧ Rd w' B g (l2.drop N) ∧ V.grownBy w' (some g)) := Lib.hid fun V hr => by
    refine (take_any l2 B g N V hr hl).mono ?_
    rintro e w' ⟨A, c, he, _, h1, h2⟩
    exact ⟨⟨A, c, he⟩, h1, h2⟩
  have HH2 : Hid (∀ V, Rd V B g (l2.drop N) → Calls Try.prog 44 #[.pointer (some ⟨g, 0, none⟩)] V fun e w' => e = .returned (.tuple #[noHead, .bool false]) ∧ V.grownBy w' (some g)) := Lib.hid fun V hr => head_no (l2.drop N) B g V hr (fun b hx => hb2 b (List.mem_of_mem_drop hx)) hq2
  unfold noHead at HH2
  clear h hb hb2 hq hq2 hbx hl hv
  unfold hdVal at HH HL HL2
  simp only at HH HL HL2
  go_enter Try.func39, Try.ntmps39
  go_wp2_with (first
    | (go_at_call 44; (try rw [hX]); refine HH.out.mono ?_; clear HH; rintro e V ⟨rfl, hr, hb⟩; have HR := Lib.hid hr; have HX1 := Lib.hid hb; clear hr hb hX)
    | (go_at_call 23; refine (HL.out _).mono ?_; clear HL; rintro e V2 ⟨rfl, hb2⟩; have HB2 := Lib.hid hb2; clear hb2; have hbv := ((Below.refl V.heap.size V).alloc (Nat.le_refl _) _).trans (HB2.out.mono (by simp)); have HR2 := Lib.hid (HR.out.below hbv HR.out.lt); have HX2 := Lib.hid (gb_below HX1.out (hbv.mono HX1.out.size)); have q0 := cells_at V.heap.size HB2.out (by simp) (cell_new V _ _ _ 0 _ rfl rfl); have q1 := cells_at V.heap.size HB2.out (by simp) (cell_new V _ _ _ 1 _ rfl rfl); have q2 := cells_at V.heap.size HB2.out (by simp) (cell_new V _ _ _ 2 _ rfl rfl); have q3 := cells_at V.heap.size HB2.out (by simp) (cell_new V _ _ _ 3 _ rfl rfl); have q4 := cells_at V.heap.size HB2.out (by simp) (cell_new V _ _ _ 4 _ rfl rfl); have q5 := cells_at V.heap.size HB2.out (by simp) (cell_new V _ _ _ 5 _ rfl rfl); have q6 := cells_at V.heap.size HB2.out (by simp) (cell_new V _ _ _ 6 _ rfl rfl); have HV2 := Lib.hid hbv.size; clear hbv)
    | (go_at_call 46; refine (HN.out _ HR2.out).mono ?_; clear HN; rintro e V3 ⟨rfl, rfl⟩)
    | (go_at_call 23; refine (HL2.out _).mono ?_; clear HL2; rintro e V3 ⟨rfl, hb3⟩; have HR3 := Lib.hid (HR2.out.below hb3 HR2.out.lt); have HX3 := Lib.hid (gb_below HX2.out (hb3.mono HX2.out.size)); clear hb3)
    | (go_at_call 47; refine (HT.out _ HR3.out).mono ?_; clear HT; rintro e V4 ⟨⟨A4, c4, rfl⟩, hr, hb⟩; have HR4 := Lib.hid hr; have HX4 := Lib.hid (HX3.out.trans hb); clear hr hb)
    | (go_at_call 44; refine (HH2.out _ HR4.out).mono ?_; clear HH2; rintro e V5 ⟨rfl, hb⟩; have HX5 := Lib.hid (HX4.out.trans hb); clear hb; have k0 := (cells_of HX5.out HS.out HG.out (HZ.out 0 _ rfl)); have k1 := (cells_of HX5.out HS.out HG.out (HZ.out 1 _ rfl)); have k2 := (cells_of HX5.out HS.out HG.out (HZ.out 2 _ rfl)); have k3 := (cells_of HX5.out HS.out HG.out (HZ.out 3 _ rfl)); have HS1 := (Nat.lt_of_lt_of_le HS.out HX5.out.size); have hf : ∀ o, V5.frozen? ⟨w.heap.size, o, none⟩ = false := (fun o => (frozen_of HX5.out HS.out HG.out).trans (HF.out o)); have f0 := hf 0; have f1 := hf 1; have f2 := hf 2; have f3 := hf 3; clear hf)
    | fail)
  exact bodyPost_ret (v := .tuple #[noZone, .bool false]) (by simp [results, Try.results39, go_sem, noZone, k0, k1, k2, k3, HS1]) rfl ⟨rfl, gb_below (HB0.out.trans HX5.out) ((((((Below.refl w.heap.size V5).setCell (Nat.le_refl _) _).setCell (Nat.le_refl _) _).setCell (Nat.le_refl _) _).setCell (Nat.le_refl _) _).alloc (by have := Nat.le_of_lt HS1; simpa using this) _)⟩
end Go.Proofs.Ytohpdpcjhmopbaa.Tz

/-! Layer 6 (tzif): what is put, read back: its numbers (plain). -/
namespace Go.Proofs.Ytohpdpcjhmopbaa.Tz
open Go.RowKit

def nats (l : List Int) : List Nat := l.map Int.toNat
theorem nats_app (a b : List Int) : nats (a ++ b) = nats a ++ nats b := List.map_append
theorem nats_len (a : List Int) : (nats a).length = a.length := List.length_map ..
theorem nats_cons (x : Int) (l : List Int) : nats (x :: l) = x.toNat :: nats l := rfl
def Byt (l : List Int) : Prop := ∀ x ∈ l, 0 ≤ x ∧ x < 256
theorem Byt.app {a b : List Int} (ha : Byt a) (hb : Byt b) : Byt (a ++ b) := fun x hx => (List.mem_append.1 hx).elim (ha x) (hb x)
theorem Byt.lt {l : List Int} (h : Byt l) : ∀ b ∈ nats l, b < 256 := by
  intro b hb
  obtain ⟨x, hx, rfl⟩ := List.mem_map.1 hb
  have := h x hx
  omega
theorem be_fold : ∀ (l : List Nat) (a : Nat), l.foldl (fun n b => n * 256 + b) a = a * 256 ^ l.length + be l
  | [], a => by simp [be]
  | x :: l, a => by
    have h1 := be_fold l (a * 256 + x)
    have h2 := be_fold l (0 * 256 + x)
    show l.foldl (fun n b => n * 256 + b) (a * 256 + x) = a * 256 ^ (l.length + 1) + l.foldl (fun n b => n * 256 + b) (0 * 256 + x)
    rw [h1, h2, Nat.pow_succ, Nat.add_mul, Nat.zero_mul, Nat.zero_add, Nat.mul_assoc, Nat.mul_comm 256, Nat.add_assoc]
theorem be_cons (x : Nat) (l : List Nat) : be (x :: l) = x * 256 ^ l.length + be l := by
  have h : be (x :: l) = (0 * 256 + x) * 256 ^ l.length + be l := be_fold l (0 * 256 + x)
  rwa [Nat.zero_mul, Nat.zero_add] at h
theorem be_digs (n : Nat) : ∀ k, be (nats (digs n k)) = n % 256 ^ k
  | 0 => by rw [Nat.pow_zero, Nat.mod_one]; rfl
  | k + 1 => by
    show be (((n / 2 ^ (8 * k) % 256 : Nat) : Int).toNat :: nats (digs n k)) = _
    rw [be_cons, be_digs n k, nats_len, digs_len, Int.toNat_natCast, Nat.mod_pow_succ, show (2 : Nat) ^ (8 * k) = 256 ^ k by rw [Nat.pow_mul], Nat.mul_comm, Nat.add_comm]
theorem digs_byt (n : Nat) : ∀ k, Byt (digs n k)
  | 0 => by intro x hx; cases hx
  | k + 1 => by
    intro x hx
    rcases List.mem_cons.1 hx with rfl | hx
    · omega
    · exact digs_byt n k x hx
theorem be_four (n : Nat) (h : n < 4294967296) : be (nats (digs n 4)) = n := by rw [be_digs]; omega
theorem four_digs (n : Nat) (h : n < 4294967296) : ∃ a b c d, nats (digs n 4) = [a, b, c, d] ∧ be [a, b, c, d] = n := by
  refine ⟨_, _, _, _, rfl, ?_⟩
  exact be_four n h
/-! ### A head -/
theorem hd_read (h : Hd) (hc : ∀ n ∈ h.counts, n < 4294967296) (r : List Nat) : hdOf (nats (headB h) ++ r) = h ∧ (nats (headB h) ++ r).take 4 = [84, 90, 105, 102] ∧ (nats (headB h) ++ r).getD 4 0 = h.version := by
  obtain ⟨version, uts, stds, leaps, times, types, letters⟩ := h
  simp only [Hd.counts, List.mem_cons, List.not_mem_nil, or_false, forall_eq_or_imp, forall_eq] at hc
  obtain ⟨h1, h2, h3, h4, h5, h6⟩ := hc
  obtain ⟨a1, b1, c1, d1, e1, f1⟩ := four_digs _ h1
  obtain ⟨a2, b2, c2, d2, e2, f2⟩ := four_digs _ h2
  obtain ⟨a3, b3, c3, d3, e3, f3⟩ := four_digs _ h3
  obtain ⟨a4, b4, c4, d4, e4, f4⟩ := four_digs _ h4
  obtain ⟨a5, b5, c5, d5, e5, f5⟩ := four_digs _ h5
  obtain ⟨a6, b6, c6, d6, e6, f6⟩ := four_digs _ h6
  have e : nats (headB ⟨version, uts, stds, leaps, times, types, letters⟩) ++ r = 84 :: 90 :: 105 :: 102 :: version :: 0 :: 0 :: 0 :: 0 :: 0 :: 0 :: 0 :: 0 :: 0 :: 0 :: 0 :: 0 :: 0 :: 0 :: 0 :: a1 :: b1 :: c1 :: d1 :: a2 :: b2 :: c2 :: d2 :: a3 :: b3 :: c3 :: d3 :: a4 :: b4 :: c4 :: d4 :: a5 :: b5 :: c5 :: d5 :: a6 :: b6 :: c6 :: d6 :: r := by
    unfold headB Hd.counts
    simp only [List.flatMap_cons, List.flatMap_nil, nats_app, e1, e2, e3, e4, e5, e6]
    rfl
  rw [e]
  refine ⟨?_, rfl, rfl⟩
  show Hd.mk version (be [a1, b1, c1, d1]) (be [a2, b2, c2, d2]) (be [a3, b3, c3, d3]) (be [a4, b4, c4, d4]) (be [a5, b5, c5, d5]) (be [a6, b6, c6, d6]) = _
  rw [f1, f2, f3, f4, f5, f6]
theorem hd_good (h : Hd) (hc : ∀ n ∈ h.counts, n < 4294967296) (hv : h.version = 0 ∨ h.version = 50 ∨ h.version = 51) (r : List Nat) : hdGood (nats (headB h) ++ r) = true := by
  obtain ⟨_, h2, h3⟩ := hd_read h hc r
  unfold hdGood
  rw [h2, h3, List.length_append, nats_len, headB_len]
  simp only [Bool.and_eq_true, Bool.or_eq_true, decide_eq_true_eq]
  exact ⟨⟨by omega, trivial⟩, by omega⟩
theorem hd_drop (h : Hd) (r : List Nat) : (nats (headB h) ++ r).drop 44 = r := List.drop_left' (by rw [nats_len, headB_len])
/-! ### Rows of numbers -/
def val8 (l : List Nat) : Int := wrap64 (be l)
def val4 (l : List Nat) : Int := wrap64 (wrap32 (be l))
def val1 (l : List Nat) : Int := be l
theorem digs8_val (t : Int) (h : -9223372036854775808 ≤ t ∧ t ≤ 9223372036854775807) : val8 (nats (digs (IntKind.u64.wrap t).toNat 8)) = t := by
  unfold val8
  rw [be_digs, IntKind.wrap_u64]
  unfold wrap64
  omega
theorem digs4_val (t : Int) (h : -2147483648 ≤ t ∧ t ≤ 2147483647) : val4 (nats (digs (IntKind.u64.wrap t).toNat 4)) = t := by
  unfold val4
  rw [be_digs, IntKind.wrap_u64]
  unfold wrap64 wrap32
  omega
def times4 (l : List Int) : List Int := l.flatMap fun t => digs (IntKind.u64.wrap t).toNat 4
theorem vals_step (kk : Nat) (val : List Nat → Int) (n : Nat) (a b : List Nat) (h : a.length = kk) : vals kk val (n + 1) (a ++ b) = val a :: vals kk val n b := by
  show val ((a ++ b).take kk) :: vals kk val n ((a ++ b).drop kk) = _
  rw [List.take_left' h, List.drop_left' h]
theorem vals_times8 : ∀ (ts : List Int) (r : List Nat), (∀ t ∈ ts, -9223372036854775808 ≤ t ∧ t ≤ 9223372036854775807) → vals 8 val8 ts.length (nats (timesB ts) ++ r) = ts
  | [], _, _ => rfl
  | t :: ts, r, h => by
    have e : nats (timesB (t :: ts)) ++ r = nats (digs (IntKind.u64.wrap t).toNat 8) ++ (nats (timesB ts) ++ r) := by
      unfold timesB; rw [List.flatMap_cons, nats_app, List.append_assoc]
    rw [e, List.length_cons, vals_step _ _ _ _ _ (by rw [nats_len, digs_len]), digs8_val t (h t (by simp)), vals_times8 ts r (fun x hx => h x (by simp [hx]))]
theorem vals_times4 : ∀ (ts : List Int) (r : List Nat), (∀ t ∈ ts, -2147483648 ≤ t ∧ t ≤ 2147483647) → vals 4 val4 ts.length (nats (times4 ts) ++ r) = ts
  | [], _, _ => rfl
  | t :: ts, r, h => by
    have e : nats (times4 (t :: ts)) ++ r = nats (digs (IntKind.u64.wrap t).toNat 4) ++ (nats (times4 ts) ++ r) := by
      unfold times4; rw [List.flatMap_cons, nats_app, List.append_assoc]
    rw [e, List.length_cons, vals_step _ _ _ _ _ (by rw [nats_len, digs_len]), digs4_val t (h t (by simp)), vals_times4 ts r (fun x hx => h x (by simp [hx]))]
theorem vals_index : ∀ (is : List Int) (r : List Nat), (∀ i ∈ is, 0 ≤ i ∧ i ≤ 254) → vals 1 val1 is.length (nats (indexB is) ++ r) = is
  | [], _, _ => rfl
  | i :: is, r, h => by
    have hi := h i (by simp)
    have e : nats (indexB (i :: is)) ++ r = [(i % 256).toNat] ++ (nats (indexB is) ++ r) := rfl
    rw [e, List.length_cons, vals_step 1 val1 is.length [(i % 256).toNat] _ rfl, vals_index is r (fun x hx => h x (by simp [hx]))]
    have : val1 [(i % 256).toNat] = i := by
      show ((0 * 256 + (i % 256).toNat : Nat) : Int) = i
      omega
    rw [this]
/-! ### Rows of types -/
/-- The rows that types are put as, so many letters being put. -/
def rowsOf : List Ty → Nat → List Rw
  | [], _ => []
  | t :: l, k => ⟨t.off, dstB t, (k : Int) % 256⟩ :: rowsOf l (k + (t.abbr.size + 1))
theorem rowsOf_len : ∀ (l : List Ty) (k : Nat), (rowsOf l k).length = l.length
  | [], _ => rfl
  | t :: l, k => by unfold rowsOf; rw [List.length_cons, List.length_cons, rowsOf_len l]
theorem rw_read (t : Ty) (k : Nat) (r : List Nat) (h : -89999 ≤ t.off ∧ t.off ≤ 93599) : rwOf (nats (digs (offN t) 4 ++ [dstB t, (k : Int) % 256]) ++ r) = ⟨t.off, dstB t, (k : Int) % 256⟩ := by
  have hv := digs4_val t.off (by omega)
  obtain ⟨a, b, c, d, e⟩ : ∃ a b c d, nats (digs (offN t) 4) = [a, b, c, d] := ⟨_, _, _, _, rfl⟩
  have e2 : nats (digs (offN t) 4 ++ [dstB t, (k : Int) % 256]) ++ r = a :: b :: c :: d :: (dstB t).toNat :: ((k : Int) % 256).toNat :: r := by
    rw [nats_app, e]; rfl
  rw [e2]
  show Rw.mk (val4 [a, b, c, d]) ((0 * 256 + (dstB t).toNat : Nat) : Int) ((0 * 256 + ((k : Int) % 256).toNat : Nat) : Int) = _
  rw [← e]
  unfold offN
  rw [hv]
  have h1 : ((0 * 256 + (dstB t).toNat : Nat) : Int) = dstB t := by unfold dstB; split <;> rfl
  have h2 : ((0 * 256 + ((k : Int) % 256).toNat : Nat) : Int) = (k : Int) % 256 := by omega
  rw [h1, h2]
theorem rws_read : ∀ (l : List Ty) (k : Nat) (r : List Nat), (∀ t ∈ l, -89999 ≤ t.off ∧ t.off ≤ 93599) → rws l.length (nats (typesB l k) ++ r) = rowsOf l k
  | [], _, _, _ => rfl
  | t :: l, k, r, h => by
    have e : nats (typesB (t :: l) k) ++ r = nats (digs (offN t) 4 ++ [dstB t, (k : Int) % 256]) ++ (nats (typesB l (k + (t.abbr.size + 1))) ++ r) := by
      rw [show typesB (t :: l) k = digs (offN t) 4 ++ ([dstB t, (k : Int) % 256] ++ typesB l (k + (t.abbr.size + 1))) from rfl]
      simp only [nats_app, List.append_assoc]
    rw [e]
    show rwOf _ :: rws l.length ((nats (digs (offN t) 4 ++ [dstB t, (k : Int) % 256]) ++ (nats (typesB l (k + (t.abbr.size + 1))) ++ r)).drop 6) = _
    rw [rw_read t k _ (h t (by simp)), List.drop_left' (by rw [nats_len, List.length_append, digs_len]; rfl), rws_read l _ r (fun x hx => h x (by simp [hx]))]
    rfl
/-! ### Letters -/
theorem bytesOf_byt (s : ByteArray) : Byt (bytesOf s) := by
  intro x hx
  unfold bytesOf at hx
  obtain ⟨b, _, rfl⟩ := List.mem_map.1 hx
  have := b.toNat_lt
  omega
theorem text_back (s : ByteArray) : strOfNums (natsI (nats (bytesOf s))) = s := by
  have e : natsI (nats (bytesOf s)) = s.data.toList.map fun b => (b.toNat : Int) := by
    unfold natsI nats bytesOf
    rw [List.map_map, List.map_map]
    apply List.map_congr_left
    intro b _
    show (((b.toNat : Int).toNat : Nat) : Int) = _
    omega
  rw [e, Lib.Lz.strOfNums_map]
theorem till0_text : ∀ (a : List Nat) (r : List Nat), (∀ x ∈ a, x ≠ 0) → till0 (a ++ 0 :: r) = a
  | [], _, _ => by unfold till0; simp
  | x :: a, r, h => by
    have h1 := till0_text a r (fun y hy => h y (by simp [hy]))
    unfold till0 at h1 ⊢
    rw [List.cons_append, List.takeWhile_cons, if_pos (by simpa using h x (by simp)), h1]
theorem abbr_no0 {t : Ty} (h : rightTy t = true) : ∀ x ∈ nats (bytesOf t.abbr), x ≠ 0 := by
  intro x hx
  unfold rightTy onlyB at h
  simp only [Bool.and_eq_true, List.all_eq_true] at h
  obtain ⟨y, hy, rfl⟩ := List.mem_map.1 hx
  unfold bytesOf at hy
  obtain ⟨b, hb, rfl⟩ := List.mem_map.1 hy
  have := h.2 b hb
  unfold inI at this
  simp only [Bool.and_eq_true, decide_eq_true_eq] at this
  omega
/-- The letters of a type, found at their place. -/
theorem letters_at (pre : List Nat) (t : Ty) (post : List Nat) (h : rightTy t = true) : lettersV (pre ++ (nats (bytesOf t.abbr) ++ 0 :: post)) pre.length = some (nats (bytesOf t.abbr)) := by
  unfold lettersV
  rw [List.drop_left' rfl, if_pos (by simp), till0_text _ _ (abbr_no0 h)]
/-- The type of a row. -/
def tyOf (L : List Nat) (r : Rw) : Option Ty := if r.dst ≤ 1 then (lettersV L r.place.toNat).map fun t => ⟨r.off, decide (r.dst = 1), strOfNums (natsI t)⟩ else none
def tysOf (L : List Nat) : List Rw → Option (List Ty)
  | [] => some []
  | r :: l => (tyOf L r).bind fun t => (tysOf L l).map fun ts => t :: ts
theorem letters_cons (t : Ty) (l : List Ty) : letters (t :: l) = t.abbr.size + 1 + letters l := by unfold letters; rw [List.map_cons, List.sum_cons]
theorem tys_back : ∀ (l : List Ty) (pre : List Nat) (post : List Nat), (∀ t ∈ l, rightTy t = true) → pre.length + letters l ≤ 256 → tysOf (pre ++ (nats (lettersB l) ++ post)) (rowsOf l pre.length) = some l
  | [], _, _, _, _ => rfl
  | t :: l, pre, post, h, hl => by
    have ht := h t (by simp)
    have hs : 1 ≤ t.abbr.size := by
      unfold rightTy inI at ht
      simp only [Bool.and_eq_true, decide_eq_true_eq] at ht
      omega
    rw [letters_cons] at hl
    have e : nats (lettersB (t :: l)) ++ post = nats (bytesOf t.abbr) ++ 0 :: (nats (lettersB l) ++ post) := by
      rw [show lettersB (t :: l) = bytesOf t.abbr ++ ([0] ++ lettersB l) from rfl]
      simp only [nats_app, List.append_assoc]
      rfl
    have h1 : tyOf (pre ++ (nats (lettersB (t :: l)) ++ post)) ⟨t.off, dstB t, (pre.length : Int) % 256⟩ = some t := by
      unfold tyOf
      simp only
      rw [e, show ((pre.length : Int) % 256).toNat = pre.length by omega, letters_at pre t _ ht, if_pos (by unfold dstB; split <;> omega)]
      show some (Ty.mk t.off (decide (dstB t = 1)) (strOfNums (natsI (nats (bytesOf t.abbr))))) = _
      rw [text_back]
      have : decide (dstB t = 1) = t.dst := by unfold dstB; cases t.dst <;> rfl
      rw [this]
    have h2 := tys_back l (pre ++ (nats (bytesOf t.abbr) ++ [0])) post (fun x hx => h x (by simp [hx])) (by simp [nats_len, bytesOf_len]; omega)
    have e3 : (pre ++ (nats (bytesOf t.abbr) ++ [0])).length = pre.length + (t.abbr.size + 1) := by simp [nats_len, bytesOf_len]
    have e4 : (pre ++ (nats (bytesOf t.abbr) ++ [0])) ++ (nats (lettersB l) ++ post) = pre ++ (nats (lettersB (t :: l)) ++ post) := by rw [e]; simp
    rw [e3, e4] at h2
    show (tyOf _ _).bind _ = _
    rw [h1]
    show (tysOf _ _).map _ = _
    rw [h2]
    rfl
theorem lettersB_byt : ∀ l : List Ty, Byt (lettersB l)
  | [] => by intro x hx; cases hx
  | t :: l => by
    unfold lettersB
    exact (bytesOf_byt _).app (Byt.app (by intro x hx; simp at hx; omega) (lettersB_byt l))
theorem typesB_byt : ∀ (l : List Ty) (k : Nat), Byt (typesB l k)
  | [], _ => by intro x hx; cases hx
  | t :: l, k => by
    unfold typesB
    refine (digs_byt _ 4).app (Byt.app ?_ (typesB_byt l _))
    intro x hx
    simp only [List.mem_cons, List.not_mem_nil, or_false] at hx
    rcases hx with rfl | rfl
    · unfold dstB; split <;> omega
    · omega
end Go.Proofs.Ytohpdpcjhmopbaa.Tz

/-! Layer 6 (tzif): what the reading of a block keeps, from step to step. -/
namespace Go.Proofs.Ytohpdpcjhmopbaa.Tz
open Go.RowKit

theorem gb_cell {U V : World} {g k i : Nat} {u : Value} (h : U.grownBy V (some g)) (hk : k < U.heap.size) (hne : k ≠ g) (hc : U.cell? ⟨k, i, none⟩ = some u) : V.cell? ⟨k, i, none⟩ = some u :=
  (World.cell?_of_block (a := ⟨k, i, none⟩) (h.block k hk (fun e => by injection e with e; omega))).trans hc
theorem gb_frozen {U V : World} {g k i : Nat} (h : U.grownBy V (some g)) (hk : k < U.heap.size) (hne : k ≠ g) : V.frozen? ⟨k, i, none⟩ = U.frozen? ⟨k, i, none⟩ :=
  World.frozen?_of_block (a := ⟨k, i, none⟩) (h.block k hk (fun e => by injection e with e; omega))
theorem ZnBox.gb {U V : World} {P g : Nat} {a b c d : Value} (h : ZnBox U P a b c d) (hg : U.grownBy V (some g)) (hne : P ≠ g) : ZnBox V P a b c d :=
  ⟨gb_cell hg h.lt hne h.c0, gb_cell hg h.lt hne h.c1, gb_cell hg h.lt hne h.c2, gb_cell hg h.lt hne h.c3, fun i => (gb_frozen hg h.lt hne).trans (h.fr i), Nat.lt_of_lt_of_le h.lt hg.size⟩
theorem below_of_gb {U V : World} {G C : Nat} (h : U.grownBy V (some G)) (hC : C ≤ G) (hs : C ≤ U.heap.size) : Below C U V :=
  ⟨h.os, h.tape, h.output, h.size, fun k hk => h.block k (by omega) (fun e => by injection e with e; omega)⟩
structure Bk (w U : World) (B g : Nat) (h : Hd) (m : Int) (l : List Nat) : Prop where
  rd : Rd U B g l
  d0 : U.cell? ⟨w.heap.size, 0, none⟩ = some (.int .u8 h.version)
  d1 : U.cell? ⟨w.heap.size, 1, none⟩ = some (.int .i64 h.uts)
  d2 : U.cell? ⟨w.heap.size, 2, none⟩ = some (.int .i64 h.stds)
  d3 : U.cell? ⟨w.heap.size, 3, none⟩ = some (.int .i64 h.leaps)
  d4 : U.cell? ⟨w.heap.size, 4, none⟩ = some (.int .i64 h.times)
  d5 : U.cell? ⟨w.heap.size, 5, none⟩ = some (.int .i64 h.types)
  d6 : U.cell? ⟨w.heap.size, 6, none⟩ = some (.int .i64 h.letters)
  rb : ZnBox U (w.heap.size + 1) (.slice none 0 0) (.slice none 0 0) (.slice none 0 0) (.string ⟨#[]⟩)
  gl : U.cell? ⟨0, 0, none⟩ = some (.int .i64 m)
  gb : w.grownBy U (some g)
  lt : g < w.heap.size
section
variable {w U V : World} {B g : Nat} {h : Hd} {m : Int} {l : List Nat}
theorem Bk.step (k : Bk w U B g h m l) {C : Nat} (hb : Below C U V) (hC : w.heap.size + 2 ≤ C) : Bk w V B g h m l :=
  have hP : w.heap.size < C := by omega
  ⟨k.rd.below hb (by have := k.lt; omega), cells_at _ hb hP k.d0, cells_at _ hb hP k.d1, cells_at _ hb hP k.d2, cells_at _ hb hP k.d3, cells_at _ hb hP k.d4, cells_at _ hb hP k.d5, cells_at _ hb hP k.d6, k.rb.below hb (by omega), cells_at _ hb (by omega) k.gl, gb_below k.gb (hb.mono (by omega)), k.lt⟩
theorem Bk.own (k : Bk w U B g h m l) {G : Nat} (hg : U.grownBy V (some G)) (hG : w.heap.size + 2 ≤ G) : Bk w V B g h m l :=
  k.step (below_of_gb hg hG (by have := k.rb.lt; omega)) (Nat.le_refl _)
theorem Bk.read (k : Bk w U B g h m l) {l' : List Nat} (hg : U.grownBy V (some g)) (hr : Rd V B g l') (hB : 0 < B) : Bk w V B g h m l' :=
  have hs : w.heap.size < U.heap.size := by have := k.rb.lt; omega
  have hn : w.heap.size ≠ g := by have := k.lt; omega
  ⟨hr, gb_cell hg hs hn k.d0, gb_cell hg hs hn k.d1, gb_cell hg hs hn k.d2, gb_cell hg hs hn k.d3, gb_cell hg hs hn k.d4, gb_cell hg hs hn k.d5, gb_cell hg hs hn k.d6, k.rb.gb hg (by have := k.lt; omega), gb_cell hg (by omega) (by have := k.rd.lo; omega) k.gl, k.gb.trans hg, k.lt⟩
theorem Bk.alloc (k : Bk w U B g h m l) (o : Obj) : Bk w (U.alloc o) B g h m l := k.step ((Below.refl U.heap.size U).alloc (Nat.le_refl _) o) (by have := k.rb.lt; omega)
theorem Bk.set (k : Bk w U B g h m l) {G : Nat} (hG : w.heap.size + 2 ≤ G) (i : Nat) (u : Value) : Bk w (U.setCell ⟨G, i, none⟩ u) B g h m l := k.own (grown_set U G i u) hG
theorem Bk.start (hr : Rd w B g l) (hm : w.cell? ⟨0, 0, none⟩ = some (.int .i64 m)) : Bk w ((w.alloc (.cells #[.int .u8 h.version, .int .i64 h.uts, .int .i64 h.stds, .int .i64 h.leaps, .int .i64 h.times, .int .i64 h.types, .int .i64 h.letters] 60)).alloc (.cells #[.slice none 0 0, .slice none 0 0, .slice none 0 0, .string ⟨#[]⟩] 26)) B g h m l := by
  have hb : Below w.heap.size w ((w.alloc (.cells #[.int .u8 h.version, .int .i64 h.uts, .int .i64 h.stds, .int .i64 h.leaps, .int .i64 h.times, .int .i64 h.types, .int .i64 h.letters] 60)).alloc (.cells #[.slice none 0 0, .slice none 0 0, .slice none 0 0, .string ⟨#[]⟩] 26)) := ((Below.refl _ _).alloc (Nat.le_refl _) _).alloc (by simp) _
  have hq : ∀ i u, (#[.int .u8 h.version, .int .i64 h.uts, .int .i64 h.stds, .int .i64 h.leaps, .int .i64 h.times, .int .i64 h.types, .int .i64 h.letters] : Array Value)[i]? = some u → ((w.alloc (.cells #[.int .u8 h.version, .int .i64 h.uts, .int .i64 h.stds, .int .i64 h.leaps, .int .i64 h.times, .int .i64 h.types, .int .i64 h.letters] 60)).alloc (.cells #[.slice none 0 0, .slice none 0 0, .slice none 0 0, .string ⟨#[]⟩] 26)).cell? ⟨w.heap.size, i, none⟩ = some u := fun i u hu =>
    cell_old _ _ _ _ _ (by simp) (cell_new w _ _ _ i u rfl hu)
  exact ⟨hr.below hb hr.lt, hq 0 _ rfl, hq 1 _ rfl, hq 2 _ rfl, hq 3 _ rfl, hq 4 _ rfl, hq 5 _ rfl, hq 6 _ rfl, ZnBox.new _ _ (by simp) _ _ _ _ _, cells_at 0 hb (by have := hr.lt; omega) hm, gb_below (World.grownBy.refl _ _) hb, hr.lt⟩
end
theorem Sl.rw {w : World} {B : Nat} {v : Value} {l : List Rw} (h : Sl w B 3 v (l.map rwCells)) {k : Nat} {x : Rw} (hk : l[k]? = some x) : ∃ g off c, v = .slice (some ⟨g, off, none⟩) l.length c ∧ g < B ∧ w.cell? ⟨g, off + k * 3, none⟩ = some (.int .i64 x.off) ∧ w.cell? ⟨g, off + k * 3 + 1, none⟩ = some (.int .i64 x.dst) ∧ w.cell? ⟨g, off + k * 3 + 2, none⟩ = some (.int .i64 x.place) := by
  obtain ⟨g, off, c, hv, hg, hc⟩ := h.at_ k (rwCells x) (by rw [List.getElem?_map, hk]; rfl)
  rw [List.length_map] at hv
  exact ⟨g, off, c, hv, hg, hc 0 _ rfl, hc 1 _ rfl, hc 2 _ rfl⟩
/-- The places of rows are numbers from 0 on. -/
theorem rws_nat : ∀ (n : Nat) (l : List Nat) (r : Rw), r ∈ rws n l → ∃ p : Nat, r.place = p
  | 0, _, r, h => by cases h
  | n + 1, l, r, h => by
    rcases List.mem_cons.1 h with rfl | h
    · exact ⟨_, rfl⟩
    · exact rws_nat n _ r h
theorem tysOf_take {L : List Nat} : ∀ {rs : List Rw} {ts : List Ty}, tysOf L rs = some ts → ts.length = rs.length ∧ ∀ (k : Nat) (r : Rw), rs[k]? = some r → ∃ t, ts[k]? = some t ∧ tyOf L r = some t
  | [], ts, h => by
    have e : [] = ts := by simpa [tysOf] using h
    subst e
    exact ⟨rfl, fun k r hk => by simp at hk⟩
  | r :: rs, ts, h => by
    unfold tysOf at h
    cases h1 : tyOf L r with
    | none => rw [h1] at h; cases h
    | some t =>
      cases h2 : tysOf L rs with
      | none => rw [h1, h2] at h; cases h
      | some ts' =>
        rw [h1, h2] at h
        have e : t :: ts' = ts := by simpa using h
        subst e
        obtain ⟨a, b⟩ := tysOf_take h2
        refine ⟨by simp [a], fun k x hk => ?_⟩
        cases k with
        | zero =>
          have e : r = x := by simpa using hk
          subst e
          exact ⟨t, rfl, h1⟩
        | succ k => exact b k x (by simpa using hk)
theorem tysOf_none {L : List Nat} : ∀ {rs : List Rw} {k : Nat} {r : Rw}, rs[k]? = some r → tyOf L r = none → tysOf L rs = none
  | [], _, _, h, _ => by simp at h
  | a :: rs, 0, r, h, hn => by
    have e : a = r := by simpa using h
    subst e
    unfold tysOf; rw [hn]; rfl
  | a :: rs, k + 1, r, h, hn => by
    have := tysOf_none (rs := rs) (k := k) (by simpa using h) hn
    unfold tysOf; rw [this]
    cases tyOf L a <;> rfl
/-! ### A block's parts -/
def timesL (h : Hd) (wd : Nat) (val : List Nat → Int) (l : List Nat) : List Int := vals wd val h.times l
def indexL (h : Hd) (wd : Nat) (l : List Nat) : List Int := vals 1 val1 h.times (l.drop (wd * h.times))
def rowsL (h : Hd) (wd : Nat) (l : List Nat) : List Rw := rws h.types ((l.drop (wd * h.times)).drop (1 * h.times))
def lettersL (h : Hd) (wd : Nat) (l : List Nat) : List Nat := (((l.drop (wd * h.times)).drop (1 * h.times)).drop (6 * h.types)).take h.letters
theorem may_small {h : Hd} (hm : mayB h = true) : h.types ≤ 255 ∧ h.times ≤ 4000 ∧ h.letters ≤ 4096 ∧ 1 ≤ h.types := by
  unfold mayB inI at hm
  simp only [Bool.and_eq_true, decide_eq_true_eq] at hm
  omega
theorem long_parts (h : Hd) (wd : Nat) (l : List Nat) (hl : longN h wd ≤ l.length) : wd * h.times + 1 * h.times + 6 * h.types + h.letters + restN h wd ≤ l.length := by
  have e : wd * h.times + 1 * h.times + 6 * h.types + h.letters + restN h wd = longN h wd := by
    unfold longN
    rw [Nat.mul_add, Nat.mul_comm wd]; omega
  omega
theorem OwnW.lower {w : World} {base b : Nat} {v : Value} {l : List Rw} (h : OwnW w base v l) (hc : b ≤ base) : OwnW w b v l := by
  refine ⟨h.1, ?_⟩
  rcases h.2 with h0 | ⟨g, cap, cur, e, hbg, h⟩
  · exact .inl h0
  · exact .inr ⟨g, cap, cur, e, Nat.le_trans hc hbg, h⟩
theorem tysOf_snoc {L : List Nat} : ∀ {rs : List Rw} {ts : List Ty} {r : Rw} {t : Ty}, tysOf L rs = some ts → tyOf L r = some t → tysOf L (rs ++ [r]) = some (ts ++ [t])
  | [], ts, r, t, h, ht => by
    have e : [] = ts := by simpa [tysOf] using h
    subst e
    show (tyOf L r).bind _ = _
    rw [ht]; rfl
  | a :: rs, ts, r, t, h, ht => by
    unfold tysOf at h
    cases h1 : tyOf L a with
    | none => rw [h1] at h; cases h
    | some x =>
      cases h2 : tysOf L rs with
      | none => rw [h1, h2] at h; cases h
      | some ts' =>
        rw [h1, h2] at h
        have e : x :: ts' = ts := by simpa using h
        subst e
        have := tysOf_snoc h2 ht
        show (tyOf L a).bind (fun t => (tysOf L (rs ++ [r])).map fun ts => t :: ts) = _
        rw [h1, this]; rfl
end Go.Proofs.Ytohpdpcjhmopbaa.Tz
