/-
  Layer 6 (tzif): all rows of a block, read.
-/
import Derived.Test.YtljkcnoicdhchaaTzBc
namespace Go.Proofs.Ytljkcnoicdhchaa.Tz
open Go.RowKit

structure Rw where
  (off dst place : Int)
def rwCells (r : Rw) : List Value := [.int .i64 r.off, .int .i64 r.dst, .int .i64 r.place]
def rwOf (l : List Nat) : Rw := ⟨rowOff l, rowDst l, rowPlace l⟩
/-- The rows of n types. -/
def rws : Nat → List Nat → List Rw
  | 0, _ => []
  | n + 1, l => rwOf l :: rws n (l.drop 6)
theorem rws_len : ∀ (n : Nat) (l : List Nat), (rws n l).length = n
  | 0, _ => rfl
  | n + 1, l => by unfold rws; rw [List.length_cons, rws_len n]
theorem rws_snoc : ∀ (n : Nat) (l : List Nat), rws (n + 1) l = rws n l ++ [rwOf (l.drop (6 * n))]
  | 0, l => by simp [rws]
  | n + 1, l => by
    have h := rws_snoc n (l.drop 6)
    rw [show rws (n + 1 + 1) l = rwOf l :: rws (n + 1) (l.drop 6) from rfl, h]
    rw [show rws (n + 1) l = rwOf l :: rws n (l.drop 6) from rfl, List.drop_drop, List.cons_append, Nat.mul_add, Nat.mul_one, Nat.add_comm 6 (6 * n)]
theorem rw_info : (Try.prog.info? 108).map (fun i => (i.zero, i.size, i.bytes)) = some (some (.agg #[.int .i64 0, .int .i64 0, .int .i64 0]), 3, 24) := by kernel_rfl
/-- Rows of the call's own. -/
def OwnW (w : World) (base : Nat) (v : Value) (l : List Rw) : Prop := w.ownsRow base 108 3 v l.length (l.flatMap rwCells)
theorem flat_rw : ∀ {l : List Rw} {j k : Nat} {t : Rw} {u : Value}, l[j]? = some t → (rwCells t)[k]? = some u → (l.flatMap rwCells)[j * 3 + k]? = some u
  | [], _, _, _, _, h, _ => by simp at h
  | a :: l, 0, k, t, u, h, hu => by
    have e : a = t := by simpa using h
    subst e
    have hk : k < 3 := by have := (List.getElem?_eq_some_iff.1 hu).1; simpa [rwCells] using this
    rw [List.flatMap_cons, List.getElem?_append_left (by simp [rwCells]; omega), Nat.zero_mul, Nat.zero_add]; exact hu
  | a :: l, j + 1, k, t, u, h, hu => by
    rw [List.flatMap_cons, List.getElem?_append_right (by simp [rwCells]; omega)]
    have : (j + 1) * 3 + k - (rwCells a).length = j * 3 + k := by simp [rwCells]; omega
    rw [this]
    exact flat_rw (by simpa using h) hu
section
variable {w w' : World} {base : Nat} {v : Value} {l : List Rw}
theorem OwnW.lt (h : OwnW w base v l) (k : Nat) (hk : v.ownBlock = some k) : base ≤ k ∧ k < w.heap.size := World.ownsRow.lt h k hk
theorem OwnW.keep (h : OwnW w base v l) (hb : Below w.heap.size w w') : OwnW w' base v l :=
  World.ownsRow.kept h (row := none) ⟨hb.os, hb.tape, hb.output, hb.size, fun k hk _ => hb.block k hk⟩ (by cases hv : v.ownBlock <;> simp)
theorem OwnW.other {g : Nat} (h : OwnW w base v l) (hg : w.grownBy w' (some g)) (hb : g < base) : OwnW w' base v l :=
  World.ownsRow.kept h hg (by
    cases hv : v.ownBlock with
    | none => exact .inl rfl
    | some k => exact .inr (fun e => by injection e with e; have := (h.lt k hv).1; omega))
theorem OwnW.form (h : OwnW w base v l) : ∃ A c, v = .slice A l.length c := by
  rcases h.2 with ⟨rfl, h0⟩ | ⟨g, cap, cur, rfl, _⟩
  · exact ⟨none, 0, by rw [h0]⟩
  · exact ⟨_, _, rfl⟩
theorem OwnW.sl (h : OwnW w base v l) {B : Nat} (hB : w.heap.size ≤ B) : Sl w B 3 v (l.map rwCells) := by
  refine ⟨?_, fun j row hj => ?_⟩
  · obtain ⟨A, c, e⟩ := h.form
    exact ⟨A, c, by rw [List.length_map]; exact e⟩
  · rw [List.getElem?_map] at hj
    cases hx : l[j]? with
    | none => rw [hx] at hj; cases hj
    | some t =>
      rw [hx] at hj
      have e : row = rwCells t := by injection hj with hj; exact hj.symm
      subst e
      have hlt : j < l.length := (List.getElem?_eq_some_iff.1 hx).1
      obtain ⟨g, cap, cur, rfl, hg⟩ : ∃ g cap cur, v = .slice (some ⟨g, 0, none⟩) l.length cap ∧ w.heap[g]? = some (.cells cur 108 (0, 0)) := by
        rcases h.2 with ⟨_, h0⟩ | ⟨g, cap, cur, e, hbg, hg, _⟩
        · omega
        · exact ⟨g, cap, cur, e, hg⟩
      have hgl := (Array.getElem?_eq_some_iff.1 hg).1
      refine ⟨g, 0, cap, by rw [List.length_map], by omega, fun k u hu => ?_⟩
      have := World.ownsRow.cells h (g := g) rfl (j * 3 + k) u (flat_rw hx hu)
      rw [Own_add] at this
      rw [Nat.zero_add]; exact this
end
set_option maxRecDepth 100000 in
theorem plain_append_rw {ops : Array Oper} {rest : List Oper} {o : Oper} {a : Act} {w : World} {Q : Exit → Act → World → Prop} (s x : Operand) (hgd : o.guard = none)
    (ho : o.op = .call { callee := .builtin .append, args := #[s, x], argTypes := #[105, 105] }) (base n : Nat) (v : Value) (l : List Rw) (r : Rw) (g : Nat)
    (hs : a.eval s = v) (hx : a.eval x = .slice (some ⟨g, 0, none⟩) 1 1) (hown : OwnW w base v l) (hz : ∀ j u, (rwCells r)[j]? = some u → w.cell? ((⟨g, 0, none⟩ : Addr).add j) = some u) (hlen : l.length ≤ 1000000) (hbase : base ≤ w.heap.size) (hn : l.length + 1 = n)
    (h : ∀ A c w', OwnW w' base (.slice A n c) (l ++ [r]) → Grew w w' v (.slice A n c) → wpList Try.prog ops Q rest (a.put o.dst (.slice A n c)) w') : wpList Try.prog ops Q (o :: rest) a w := by
  obtain ⟨i, hi, hz0, hz1, hz2⟩ := info_parts rw_info
  refine wpList_append_own_at w hgd s x 105 ho base 108 i _ 3 24 Try.underlying105 hi hz0 hz1 hz2 rfl (by decide) v l.length (l.flatMap rwCells) hs hown ⟨g, 0, none⟩ 1 1 (rwCells r) hx (by simp [rwCells]) hz (by simp [rwCells, Value.oneCell']) (by unfold maxLen; omega) (by omega) hbase ?_
  intro v' w' hown' hgr _ hat
  have hO : OwnW w' base v' (l ++ [r]) := by
    unfold OwnW
    rw [List.length_append, List.flatMap_append]
    simpa using hown'
  obtain ⟨A, c, e⟩ := hO.form
  rw [List.length_append, List.length_singleton, hn] at e
  subst e
  exact h A c w' hO ⟨hgr, hat.imp id fun e => ⟨_, e, Nat.le_refl _⟩⟩
theorem rw_cells (W : World) (r : Rw) (ty : TypeId) (g : Nat) (hg : W.heap.size = g) : ∀ j u, (rwCells r)[j]? = some u → (W.alloc (.cells #[.int .i64 r.off, .int .i64 r.dst, .int .i64 r.place] ty)).cell? ((⟨g, 0, none⟩ : Addr).add j) = some u := by
  intro j u hu
  rw [Own_add]
  exact cell_new W _ ty g j u hg (by rw [List.getElem?_toArray]; exact hu)
theorem growW_below {w w' : World} {base B : Nat} {v v' : Value} {l : List Rw} (h : OwnW w base v l) (hg : Grew w w' v v') (hB : B ≤ base) (hS : B ≤ w.heap.size) : Below B w w' :=
  ⟨hg.gr.os, hg.gr.tape, hg.gr.output, hg.gr.size, fun k hk => hg.gr.block k (by omega) (fun e => by have := (h.lt k e.symm).1; omega)⟩
theorem OwnW.alloc {w : World} {base : Nat} {v : Value} {l : List Rw} (h : OwnW w base v l) (o : Obj) : OwnW (w.alloc o) base v l := World.ownsRow.alloc h o
set_option maxRecDepth 100000 in
set_option maxHeartbeats 1000000 in
theorem rowsR_any (l : List Nat) (B g n : Nat) (w : World) (h : Rd w B g l) (hn : n ≤ 5000) (hk : 6 * n ≤ l.length) (hb : ∀ b ∈ l, b < 256) :
    Calls Try.prog 59 #[.int .i64 n, .func (.func 60) #[.pointer (some ⟨g, 0, none⟩)] #[]] w fun e w' => ∃ A c, e = .returned (.slice A n c) ∧ OwnW w' w.heap.size (.slice A n c) (rws n l) ∧ Rd w' B g (l.drop (6 * n)) ∧ w.grownBy w' (some g) := by
  have H := Lib.hid h
  have HBY := Lib.hid hb
  have hn0 : (0 : Int) ≤ (n : Int) := by omega
  have hn1 : (n : Int) ≤ 5000 := by omega
  clear h hb
  go_enter Try.func59, Try.ntmps59
  go_wp2_with fail
  go_loopw [5, 7] (fun u i wr => ∃ (k : Nat) (A : Option Addr) (c : Nat), k ≤ n ∧ i = .int .i64 k ∧ u = .slice A k c ∧ OwnW wr w.heap.size (.slice A k c) (rws k l) ∧ Rd wr B g (l.drop (6 * k)) ∧ w.grownBy wr (some g)) (fun _ i _ => n - (intOf i).toNat)
  case atStart => exact ⟨0, none, 0, Nat.zero_le _, rfl, rfl, World.ownsRow_nil _ _ _ _, by simpa using H.out, World.grownBy.refl _ _⟩
  case round =>
    obtain ⟨k, A, c, hkn, rfl, rfl, hown, hrd, hgr⟩ := hrel
    have HOW := Lib.hid hown; have HR := Lib.hid hrd; have HG := Lib.hid hgr
    clear hown hrd hgr
    by_cases hlt : k < n
    · have hk0 : (0 : Int) ≤ (k : Int) := by omega
      have hk1 : (k : Int) < (n : Int) := by omega
      obtain ⟨r, hr⟩ : ∃ r, rwOf (l.drop (6 * k)) = r := ⟨_, rfl⟩
      have HC : Hid (Calls Try.prog 60 #[.pointer (some ⟨g, 0, none⟩)] wr fun e w' => e = .returned (.agg #[.int .i64 r.off, .int .i64 r.dst, .int .i64 r.place]) ∧ Rd w' B g ((l.drop (6 * k)).drop 6) ∧ wr.grownBy w' (some g)) := Lib.hid (by
        have := row_any (l.drop (6 * k)) B g wr HR.out (by rw [List.length_drop]; omega) (fun b hx => HBY.out b (List.mem_of_mem_drop hx))
        rw [← hr]; exact this)
      have HRR := Lib.hid hr
      clear hr
      go_wp2_with (first
        | (go_at_call 60; refine HC.out.mono ?_; clear HC; rintro e V ⟨rfl, hr, hg⟩; have HR2 := Lib.hid hr; have HG2 := Lib.hid (HG.out.trans hg); have HO2 := Lib.hid (HOW.out.other hg (by have := H.out.lt; omega)); clear hr hg)
        | (at_builtin; refine plain_append_rw (.tmp 9) (.tmp 12) rfl rfl w.heap.size (k + 1) _ (rws k l) r V.heap.size rfl rfl (HO2.out.alloc _) (rw_cells V r _ _ rfl) (by rw [rws_len]; omega) (by have := HG2.out.size; simp; omega) (by rw [rws_len]) ?_; intro A6 c6 V6 hO hG; have HO6 := Lib.hid hO; have HG6 := Lib.hid hG; clear hO hG)
        | fail)
      have hbl : Below w.heap.size V V6 := ((Below.refl w.heap.size V).alloc HG2.out.size _).trans (growW_below (HO2.out.alloc _) HG6.out (Nat.le_refl _) (by have := HG2.out.size; simp; omega))
      refine ⟨⟨k + 1, A6, c6, hlt, by go_num, rfl, by rw [rws_snoc, HRR.out]; exact HO6.out, ?_, gb_below HG2.out hbl⟩, by simp [intOf]; omega⟩
      rw [Nat.mul_add, Nat.mul_one, ← List.drop_drop]
      exact HR2.out.below hbl H.out.lt
    · have hk1 : ¬ (k : Int) < (n : Int) := by omega
      obtain rfl : k = n := by omega
      go_wp2_with fail
      go_ret
      exact ⟨_, _, rfl, HOW.out, HR.out, HG.out⟩
end Go.Proofs.Ytljkcnoicdhchaa.Tz
