/-
  Layer 5: VfOwn VfMix VfAppend VfStep VfStepped, one behind the other.
-/
import Derived.Test.YtdbcjiapbehacaaGreatDoorVfA
import Derived.OrdersHeld
import Derived.Tactics
import Derived.KernelRfl
import Derived.Deep.AppendLies
/-! Slices that are written: rows of elements of several cells, appended to. Names by a step. -/
namespace Go.Proofs.YtdbcjiapbehacaaGreatDoor.Vf
open Go.RowKit

/-- A slice whose whole block is known to be its own: its elements (s cells each). -/
def OwnR (w : World) (base : Nat) (t : TypeId) (s : Nat) (v : Value) (xs : List (List Value)) : Prop := w.ownsRow base t s v xs.length xs.flatten ∧ ∀ x ∈ xs, x.length = s
theorem flat_get {s : Nat} : ∀ {xs : List (List Value)}, (∀ x ∈ xs, x.length = s) → ∀ {i k : Nat} {cs : List Value} {u : Value}, xs[i]? = some cs → cs[k]? = some u → xs.flatten[i * s + k]? = some u
  | [], _, _, _, _, _, h, _ => by simp at h
  | x :: xs, hs, 0, k, cs, u, h, hk => by
    simp at h; subst h
    rw [List.flatten_cons, Nat.zero_mul, Nat.zero_add, List.getElem?_append_left (lt_of_get hk)]
    exact hk
  | x :: xs, hs, i + 1, k, cs, u, h, hk => by
    have hx : x.length = s := hs x (by simp)
    rw [List.flatten_cons, List.getElem?_append_right (by rw [hx, Nat.add_mul]; omega), hx, show (i + 1) * s + k - s = i * s + k by rw [Nat.add_mul]; omega]
    exact flat_get (fun y hy => hs y (by simp [hy])) (by simpa using h) hk
section
variable {w w' : World} {base : Nat} {t : TypeId} {s : Nat} {v : Value} {xs : List (List Value)}
theorem OwnR.nil (w : World) (base : Nat) (t : TypeId) (s : Nat) : OwnR w base t s (.slice none 0 0) [] := ⟨World.ownsRow_nil w base t s, fun x hx => by cases hx⟩
theorem OwnR.reads (h : OwnR w base t s v xs) : Reads w t s v xs := by
  obtain ⟨h, hs⟩ := h
  have h' := h
  rcases h.2 with ⟨rfl, h0⟩ | ⟨g, cap, cur, rfl, hbg, hh, hnc, hcm, hsz, htk⟩
  · exact .inl ⟨List.eq_nil_of_length_eq_zero h0, none, 0, rfl⟩
  · refine .inr ⟨g, cap, rfl, rfl, hnc, fun i k cs u hi hk => ?_, cur, hh⟩
    have hl := lt_of_get hi
    have hcl : cs.length = s := hs cs (List.mem_of_getElem? hi)
    have hkl := lt_of_get hk
    have h1 := World.ownsRow.cellAt h' (i * s + k) (by
      have h2 : (i + 1) * s ≤ xs.length * s := Nat.mul_le_mul_right _ hl
      rw [Nat.add_mul] at h2; omega)
    rw [h1]
    exact flat_get hs hi hk
theorem OwnR.kept {row : Option Nat} (h : OwnR w base t s v xs) (hg : w.grownBy w' row) (hne : v.ownBlock = none ∨ v.ownBlock ≠ row) : OwnR w' base t s v xs := ⟨World.ownsRow.kept h.1 hg hne, h.2⟩
theorem OwnR.keep (h : OwnR w base t s v xs) (hb : Below w.heap.size w w') : OwnR w' base t s v xs :=
  h.kept (row := none) ⟨hb.os, hb.tape, hb.output, hb.size, fun k hk _ => hb.block k hk⟩ (by cases hv : v.ownBlock <;> simp)
theorem OwnR.alloc (h : OwnR w base t s v xs) (o : Obj) : OwnR (w.alloc o) base t s v xs := ⟨World.ownsRow.alloc h.1 o, h.2⟩
theorem OwnR.mono {base' : Nat} (h : OwnR w base t s v xs) (hb : base' ≤ base) : OwnR w base' t s v xs :=
  ⟨⟨h.1.1, h.1.2.imp id fun ⟨g, cap, cur, h1, h2, h3⟩ => ⟨g, cap, cur, h1, Nat.le_trans hb h2, h3⟩⟩, h.2⟩
theorem OwnR.lt (h : OwnR w base t s v xs) (k : Nat) (hk : v.ownBlock = some k) : base ≤ k ∧ k < w.heap.size := World.ownsRow.lt h.1 k hk
theorem OwnR.below (h : OwnR w base t s v xs) {B : Nat} (hg : w.grownBy w' v.ownBlock) (hB : B ≤ base) (hS : B ≤ w.heap.size) : Below B w w' :=
  ⟨hg.os, hg.tape, hg.output, hg.size, fun k hk => hg.block k (by omega) (fun e => by have := (h.lt k e.symm).1; omega)⟩
end
/-- One element more. -/
theorem plain_append_one {P : Program} {ops : Array Oper} {rest : List Oper} {o : Oper} {a : Act} {w : World} {Q : Exit → Act → World → Prop} (s x : Operand) (hgd : o.guard = none) (T e : TypeId) (sz bytes : Nat) (z : Value)
    (ho : o.op = .call { callee := .builtin .append, args := #[s, x], argTypes := #[T, T] }) (hT : P.underlying T = some (.slice e)) (hi : (P.info? e).map (fun i => (i.zero, i.size, i.bytes)) = some (some z, sz, bytes)) (hzs : z.cells.size = sz) (hsz : 0 < sz) (hby : bytes ≤ 100)
    (base : Nat) (v : Value) (xs : List (List Value)) (cs : List Value) (ad : Addr) (c : Nat)
    (hs : a.eval s = v) (hx : a.eval x = .slice (some ad) 1 c) (hown : OwnR w base e sz v xs) (hcl : cs.length = sz) (hz : ∀ j u, cs[j]? = some u → w.cell? (ad.add j) = some u) (h1 : ∀ u ∈ cs, u.oneCell' = true) (hlen : xs.length ≤ 100000000) (hbase : base ≤ w.heap.size)
    (h : ∀ v' w', OwnR w' base e sz v' (xs ++ [cs]) → w.grownBy w' v.ownBlock → (v'.ownBlock = v.ownBlock ∨ v'.ownBlock = some w.heap.size) → wpList P ops Q rest (a.put o.dst v') w') : wpList P ops Q (o :: rest) a w := by
  obtain ⟨i, hi', hz0, hz1, hz2⟩ := info_parts hi
  have hb : (xs.length + 1) * bytes ≤ (xs.length + 1) * 100 := Nat.mul_le_mul_left _ hby
  refine wpList_append_own_at w hgd s x T ho base e i z sz bytes hT hi' hz0 hz1 hz2 hzs hsz v xs.length xs.flatten hs hown.1 ad 1 c cs hx (by omega) hz h1 (by unfold maxLen; omega) (by omega) hbase ?_
  intro v' w' hown' hgr _ hat
  refine h v' w' ⟨?_, ?_⟩ hgr hat
  · rw [List.length_append, List.flatten_append, List.flatten_singleton]; exact hown'
  · intro y hy
    rcases List.mem_append.1 hy with hy | hy
    · exact hown.2 y hy
    · rw [List.mem_singleton.1 hy]; exact hcl
theorem new_cells (W : World) (g : Nat) (hg : W.heap.size = g) (cs : List Value) (t : TypeId) : ∀ j u, cs[j]? = some u → (W.alloc (.cells cs.toArray t)).cell? ((⟨g, 0, none⟩ : Addr).add j) = some u := by
  subst hg
  intro j u hj
  have hadd : (⟨W.heap.size, 0, none⟩ : Addr).add j = ⟨W.heap.size, j, none⟩ := by unfold Addr.add; split <;> simp_all
  rw [hadd, cell_of_row _ _ j cs.toArray t (0, 0) (heap_alloc_new _ _)]
  simpa using hj
theorem bl_drewN {B : Nat} {a w : World} (h : Below B a w) (n : Nat) : Below B a (w.drewN n) := ⟨h.os, h.tape, h.output, h.size, h.block⟩
theorem OwnR.drewN {w : World} {base : Nat} {t : TypeId} {s : Nat} {v : Value} {xs : List (List Value)} (h : OwnR w base t s v xs) (n : Nat) : OwnR (w.drewN n) base t s v xs := h.keep (bl_drewN (Below.refl _ _) n)
theorem name_info : (Tryz.prog.info? 111).map (fun i => (i.zero, i.size, i.bytes)) = some (some (.agg #[.string ⟨#[]⟩, .int .i64 0]), 2, 24) := by kernel_rfl

/-- Does a step leave a name? -/
def stays (x : St) (n : Nm) : Bool := n.p.toList != x.p.toList && n.p.toList != x.g.toList
/-- Names by a step. -/
def takenOf (l : List Nm) (x : St) : List Nm := l.filter (stays x) ++ if 0 ≤ x.f then [⟨x.p, x.f.toNat⟩] else []
def stVal (x : St) : Value := .agg #[.string x.p, .int .i64 x.f, .string x.g]

set_option maxHeartbeats 4000000 in
theorem taken_any (v : Value) (l : List Nm) (x : St) (w : World) (h : Reads w 111 2 v (l.map Nm.cells)) (hl : l.length ≤ 1000000) :
    Calls Tryz.prog 69 #[v, stVal x] w fun e w' => ∃ v', e = .returned v' ∧ OwnR w' w.heap.size 111 2 v' ((takenOf l x).map Nm.cells) ∧ Below w.heap.size w w' := by
  obtain ⟨A, c, hv⟩ := h.len
  rw [List.length_map] at hv
  have HV := Lib.hid hv
  unfold stVal
  go_enter Tryz.func69, Tryz.ntmps69
  rw [hv]
  clear hv
  go_wp2_with fail
  go_loopw [5, 6] (fun o i wr => ∃ k : Nat, k ≤ l.length ∧ i = .int .i64 k ∧ OwnR wr (w.heap.size + 1) 111 2 o (((l.take k).filter (stays x)).map Nm.cells) ∧ Hold wr w.heap.size 114 x.cells ∧ Below w.heap.size w wr) (fun _ i _ => l.length - (intOf i).toNat)
  case atStart => exact ⟨0, by omega, rfl, OwnR.nil _ _ _ _, heap_alloc_new w _, (Below.refl _ _).alloc (Nat.le_refl _) _⟩
  case round =>
    obtain ⟨k, hk, rfl, ho, hx, hb⟩ := hrel
    by_cases hlt : k < l.length
    · have hy : l[k]? = some l[k] := List.getElem?_eq_getElem hlt
      obtain ⟨y, hyy⟩ : ∃ y, l[k] = y := ⟨_, rfl⟩
      rw [hyy] at hy
      obtain ⟨g, cap, hv2, hcap, hcell⟩ := h.at_ (k := k) (cs := y.cells) (by rw [List.getElem?_map, hy]; rfl)
      have hgw : g < w.heap.size := by
        rcases h with ⟨h0, _⟩ | ⟨g', cap', hv', he⟩
        · rw [List.map_eq_nil_iff] at h0; subst h0; simp at hy
        · rw [hv2] at hv'; injection hv' with e1 _ _; injection e1 with e1; injection e1 with e1 _ _; rw [e1]; exact he.lt
      rw [HV.out, List.length_map] at hv2
      injection hv2 with e1 _ e3
      subst e1; subst e3
      rw [List.length_map] at hcap
      have hc0 : wr.cell? ⟨g, k * 2, none⟩ = some (.string y.p) := (hb.cell (p := ⟨g, k * 2, none⟩) hgw).trans (hcell 0 _ rfl)
      have hc1 : wr.cell? ⟨g, k * 2 + 1, none⟩ = some (.int .i64 y.f) := (hb.cell (p := ⟨g, k * 2 + 1, none⟩) hgw).trans (hcell 1 _ rfl)
      have hx0 : wr.cell? ⟨w.heap.size, 0, none⟩ = some (.string x.p) := by rw [hx.cell]; rfl
      have hx2 : wr.cell? ⟨w.heap.size, 2, none⟩ = some (.string x.g) := by rw [hx.cell]; rfl
      have hnx : (l.take (k + 1)).filter (stays x) = (l.take k).filter (stays x) ++ if stays x y then [y] else [] := by
        rw [take_snoc hy, List.filter_append]
        congr 1
        simp only [List.filter]
        cases stays x y <;> rfl
      have HNX := Lib.hid hnx; have HO := Lib.hid ho; have HX := Lib.hid hx; have HB := Lib.hid hb
      clear hnx ho hx hb hcell hy hyy
      have hk0 : (0 : Int) ≤ (k : Int) := by omega
      have hk1 : (k : Int) < (l.length : Int) := by omega
      have hsz := HX.out.lt
      cases hq1 : (y.p.toList == x.p.toList)
      case true =>
        have hst : stays x y = false := by unfold stays bne; rw [hq1]; rfl
        go_wp2_with fail
        go_quiet (fail)
        go_wp2_with fail
        refine ⟨⟨k + 1, hlt, by go_num, ?_, HX.out, bl_drewN HB.out _⟩, by simp [intOf]; omega⟩
        rw [HNX.out, hst, if_neg (by decide), List.append_nil]
        exact HO.out.drewN _
      case false =>
        cases hq2 : (y.p.toList == x.g.toList)
        case true =>
          have hst : stays x y = false := by unfold stays bne; rw [hq1, hq2]; rfl
          go_wp2_with fail
          go_quiet (fail)
          go_wp2_with fail
          refine ⟨⟨k + 1, hlt, by go_num, ?_, HX.out, bl_drewN HB.out _⟩, by simp [intOf]; omega⟩
          rw [HNX.out, hst, if_neg (by decide), List.append_nil]
          exact HO.out.drewN _
        case false =>
          have hst : stays x y = true := by unfold stays bne; rw [hq1, hq2]; rfl
          have hlen : ((l.take k).filter (stays x)).length ≤ 1000000 := by
            have h1 := List.length_filter_le (stays x) (l.take k)
            rw [List.length_take] at h1; omega
          go_wp2_with fail
          go_quiet (fail)
          have HO1 := Lib.hid ((HO.out.drewN nq).alloc (.cells y.cells.toArray 111))
          have HX1 : Hid (Hold ((wr.drewN nq).alloc (.cells y.cells.toArray 111)) w.heap.size 114 x.cells) := Lib.hid (HX.out.keep (Below.heap_alloc (wr.drewN nq) _ _ hsz))
          have HB1 : Hid (Below w.heap.size w ((wr.drewN nq).alloc (.cells y.cells.toArray 111))) := Lib.hid ((bl_drewN HB.out nq).alloc (Nat.le_of_lt hsz) _)
          clear HO HX HB
          go_wp2_with (first
            | (at_builtin; refine plain_append_one (.tmp 31) (.tmp 36) rfl 59 111 2 24 _ rfl Tryz.underlying59 name_info rfl (by decide) (by decide) (w.heap.size + 1) _ _ y.cells ⟨wr.heap.size, 0, none⟩ 1 rfl rfl HO1.out rfl (new_cells (wr.drewN nq) _ rfl _ _) (by simp [Nm.cells, Value.oneCell']) (by rw [List.length_map]; omega) (by simp [World.drewN]; omega) ?_; intro v' w' hown hgr hat)
            | fail)
          have hne : w.heap.size < wr.heap.size := hsz
          have hgb := HO1.out.below hgr (B := w.heap.size) (by omega) (by simp [World.drewN]; omega)
          have hx2 : Hold w' w.heap.size 114 x.cells := HX1.out.keep (hgr.block _ (by simp [World.drewN]; omega) (fun e => by have := (HO1.out.lt _ e.symm).1; omega))
          refine ⟨⟨k + 1, hlt, by go_num, ?_, hx2, HB1.out.trans hgb⟩, by simp [intOf]; omega⟩
          rw [HNX.out, hst, if_pos rfl, List.map_append]
          exact hown
    · obtain rfl : k = l.length := by omega
      rw [List.take_of_length_le (Nat.le_refl _)] at ho
      have hx0 : wr.cell? ⟨w.heap.size, 0, none⟩ = some (.string x.p) := by rw [hx.cell]; rfl
      have hx1 : wr.cell? ⟨w.heap.size, 1, none⟩ = some (.int .i64 x.f) := by rw [hx.cell]; rfl
      have hsz := hx.lt
      have hlen : (l.filter (stays x)).length ≤ 1000000 := by have h1 := List.length_filter_le (stays x) l; omega
      have HO := Lib.hid ho; have HB := Lib.hid hb
      clear ho hb hx
      by_cases hf : 0 ≤ x.f
      · have htk : takenOf l x = l.filter (stays x) ++ [⟨x.p, x.f.toNat⟩] := by unfold takenOf; rw [if_pos hf]
        have hcx : Nm.cells ⟨x.p, x.f.toNat⟩ = [.string x.p, .int .i64 x.f] := by unfold Nm.cells; rw [show ((x.f.toNat : Nat) : Int) = x.f by omega]
        have htk2 : (takenOf l x).map Nm.cells = (l.filter (stays x)).map Nm.cells ++ [[.string x.p, .int .i64 x.f]] := by rw [htk, List.map_append, List.map_singleton, hcx]
        have HTK := Lib.hid htk2
        clear htk hcx htk2
        have HO1 := Lib.hid (HO.out.alloc (.cells #[.string x.p, .int .i64 x.f] 111))
        have HB1 : Hid (Below w.heap.size w (wr.alloc (.cells #[.string x.p, .int .i64 x.f] 111))) := Lib.hid (HB.out.alloc (Nat.le_of_lt hsz) _)
        clear HO HB
        go_wp2_with (first
          | (at_builtin; refine plain_append_one (.tmp 41) (.tmp 47) rfl 59 111 2 24 _ rfl Tryz.underlying59 name_info rfl (by decide) (by decide) (w.heap.size + 1) _ _ [.string x.p, .int .i64 x.f] ⟨wr.heap.size, 0, none⟩ 1 rfl rfl HO1.out rfl (new_cells wr _ rfl _ _) (by simp [Value.oneCell']) (by rw [List.length_map]; omega) (by simp; omega) ?_; intro v' w' hown hgr hat)
          | fail)
        go_ret
        have hgb := HO1.out.below hgr (B := w.heap.size) (by omega) (by simp; omega)
        exact ⟨_, rfl, by rw [HTK.out]; exact hown.mono (Nat.le_succ _), HB1.out.trans hgb⟩
      · have htk : takenOf l x = l.filter (stays x) := by unfold takenOf; rw [if_neg hf, List.append_nil]
        have HTK := Lib.hid htk
        clear htk
        go_wp2_with fail
        go_ret
        exact ⟨_, rfl, by rw [HTK.out]; exact HO.out.mono (Nat.le_succ _), HB.out⟩
end Go.Proofs.YtdbcjiapbehacaaGreatDoor.Vf

/-! A region that draws its order and ends with one operation that waits for all others: one walk in the text's order, where free operations (S tells what they yield) stand beside a chain of operations that turn the world. -/
namespace Go.Proofs.YtdbcjiapbehacaaGreatDoor.Vf
open Go

/-- It ends normally, and so. -/
def NP (N : Act → World → Prop) : Exit → Act → World → Prop
  | .normal, a, w => N a w
  | _, _, _ => False
section
variable {P : Program} {md : Region.Mode} {S : World → Prop} {N : Act → World → Prop} {Q : Exit → Act → World → Prop}
theorem wp_of_NP {o : Oper} {a : Act} {w : World} {K K' : Act → World → Prop} (hk : ∀ a w, K a w → K' a w) (h : o.wp P a w K (NP N)) : o.wp P a w K' Q := by
  unfold Oper.wp at *
  generalize (execOp a.eval o).run P w = r at *
  match r, h with
  | .ok (.value v) w', h => exact hk _ _ h
  | .ok .skip w', h => exact hk _ _ h
  | .ok (.defer d) w', h => exact hk _ _ h
  | .ok (.enter f args) w', h =>
    refine Calls.mono h fun e w'' he => ?_
    cases e with
    | returned v => exact hk _ _ he
    | panicked c => exact he.elim
    | outgrown => obtain ⟨_, _, h0⟩ := he; exact h0.elim
  | .ok (.row row args) w', h => exact Rows.mono h fun _ _ he => hk _ _ he
  | .halt (.panic v) w', h => exact h.elim

/-- The walk in the text's order; true: it is free. -/
def wpMix (P : Program) (S : World → Prop) (N : Act → World → Prop) : List (Oper × Bool) → Act → World → Prop
  | [], a, w => N a w
  | (o, true) :: l, a, w => ∃ v, (∀ z, S z → (execOp a.eval o).run P z = .ok (.value v) z) ∧ wpMix P S N l (a.put o.dst v) w
  | (o, false) :: l, a, w => o.wp P a w (fun a' w' => S w' ∧ wpMix P S N l a' w') (NP N)
def mixB (md : Region.Mode) (ops : Array Oper) : List Bool → Nat → Array Bool → Bool
  | [], _, listed => (Region.ready md ops listed).isEmpty
  | true :: fl, k, listed => (Region.ready md ops listed).contains k && Region.free md ops listed k && mixB md ops fl (k + 1) (listed.setIfInBounds k true)
  | false :: fl, k, listed => decide (Region.ready md ops listed = [k]) && mixB md ops fl (k + 1) (listed.setIfInBounds k true)

theorem held_of_mix {ops : Array Oper} (hsel : Region.noSelect ops = true) (hg : ∀ (k : Nat) (o : Oper), ops[k]? = some o → o.guard = none) :
    ∀ (l : List (Oper × Bool)) (k : Nat) (listed : Array Bool) (a : Act) (w : World), (∀ (j : Nat) (x : Oper × Bool), l[j]? = some x → ops[k + j]? = some x.1) → mixB md ops (l.map (·.2)) k listed = true → S w → wpMix P S N l a w →
    wpAnyH P md ops (NP N) S l.length listed a w
  | [], k, listed, a, w, _, hB, _, h => ⟨by simpa [mixB] using hB, h⟩
  | (o, true) :: l, k, listed, a, w, hl, hB, hS, h => by
    have h0 : ops[k]? = some o := hl 0 (o, true) rfl
    simp only [List.map_cons, mixB, Bool.and_eq_true] at hB
    obtain ⟨v, hv, hr⟩ := h
    have hw : Region.wanted o (yielded ops a.tmps) = true := by simp [Region.wanted, hg k o h0]
    exact wpAnyH_take h0 hsel hB.1.2 hB.1.1 (fun _ _ _ h => h.elim) (.inl ⟨hw, hv⟩) hS (held_of_mix hsel hg l (k + 1) _ _ _ (fun j x hj => by rw [show k + 1 + j = k + (j + 1) by omega]; exact hl (j + 1) x (by simpa using hj)) hB.2 hS hr)
  | (o, false) :: l, k, listed, a, w, hl, hB, hS, h => by
    have h0 : ops[k]? = some o := hl 0 (o, false) rfl
    simp only [List.map_cons, mixB, Bool.and_eq_true, decide_eq_true_eq] at hB
    have hw : Region.wanted o (yielded ops a.tmps) = true := by simp [Region.wanted, hg k o h0]
    refine wpAnyH_all hB.1 (by simp) fun i hi => ?_
    obtain rfl : i = k := by simpa using hi
    unfold wpOp
    simp only [h0, hw, if_true]
    exact .inl (wp_of_NP (fun a' w' h' => ⟨h'.1, held_of_mix hsel hg l (i + 1) _ _ _ (fun j x hj => by rw [show i + 1 + j = i + (j + 1) by omega]; exact hl (j + 1) x (by simpa using hj)) hB.2 h'.1 h'.2⟩) h)

/-- Nothing is ready: all have come up. -/
theorem all_listed {ops : Array Oper} {listed : Array Bool} (hs : listed.size = ops.size) (hb : ∀ (j : Nat) (o : Oper), ops[j]? = some o → ∀ e ∈ o.after, e.on < j) (h : Region.ready md ops listed = []) : ∀ i, i < ops.size → listed.getD i false = true := by
  intro i
  induction i using Nat.strongRecOn with
  | _ i ih =>
    intro hi
    cases hc : listed.getD i false with
    | true => rfl
    | false =>
      have hu : listed.getD i true = false := by
        have hlt : i < listed.size := by omega
        simp [hlt] at hc ⊢; exact hc
      have : i ∈ Region.ready md ops listed := mem_ready.2 ⟨hu, ops[i], Array.getElem?_eq_getElem hi, fun e he _ => ih e.on (hb i _ (Array.getElem?_eq_getElem hi) e he) (by have := hb i _ (Array.getElem?_eq_getElem hi) e he; omega)⟩
      rw [h] at this; cases this

theorem getD_push_lt {x : Array Bool} {b d : Bool} {i : Nat} (h : i < x.size) : (x.push b).getD i d = x.getD i d := by
  rw [Array.getD_eq_getD_getElem?, Array.getD_eq_getD_getElem?, Array.getElem?_push, if_neg (by omega)]
theorem getD_push_eq {x : Array Bool} {b d : Bool} : (x.push b).getD x.size d = b := by
  rw [Array.getD_eq_getD_getElem?, Array.getElem?_push, if_pos rfl]; rfl
theorem push_set {x : Array Bool} {b : Bool} {i : Nat} (h : i < x.size) : (x.push b).setIfInBounds i true = (x.setIfInBounds i true).push b := by
  apply Array.ext_getElem?
  intro j
  rw [Array.getElem?_setIfInBounds, Array.getElem?_push, Array.getElem?_push, Array.getElem?_setIfInBounds, Array.size_setIfInBounds, Array.size_push]
  by_cases hij : i = j
  · subst hij
    rw [if_pos rfl, if_pos (by omega), if_neg (by omega), if_pos rfl, if_pos h]
  · rw [if_neg hij, if_neg hij]
theorem getD_flip {x : Array Bool} {i : Nat} (h : i < x.size) (d d' : Bool) : x.getD i d = x.getD i d' := by
  rw [Array.getD_eq_getD_getElem?, Array.getD_eq_getD_getElem?, Array.getElem?_eq_getElem h]; rfl

variable {ops : Array Oper} {o : Oper}
/-- What came up came behind what it waits for. -/
def Shut (md : Region.Mode) (ops : Array Oper) (listed : Array Bool) : Prop := ∀ (j : Nat) (x : Oper), ops[j]? = some x → listed.getD j false = true → ∀ e ∈ x.after, Region.binds md e = true → listed.getD e.on false = true
theorem Shut.set {listed : Array Bool} {i : Nat} (h : Shut md ops listed) (hi : i ∈ Region.ready md ops listed) : Shut md ops (listed.setIfInBounds i true) := by
  intro j x hx hj e he hbb
  obtain ⟨_, oi, hoi, hall⟩ := mem_ready.1 hi
  by_cases hij : i = j
  · subst hij
    obtain rfl : x = oi := Option.some.inj (hx.symm.trans hoi)
    exact getD_set_true (hall e he hbb)
  · rw [getD_set_ne false hij] at hj
    exact getD_set_true (h j x hx hj e he hbb)
theorem Shut.all {listed : Array Bool} (h : Shut md ops listed) (hw : ∀ i, i < ops.size → (∃ e ∈ o.after, Region.binds md e = true ∧ e.on = i) ∨ ∃ (j : Nat) (x : Oper), i < j ∧ ops[j]? = some x ∧ ∃ e ∈ x.after, Region.binds md e = true ∧ e.on = i)
    (ho : ∀ e ∈ o.after, Region.binds md e = true → listed.getD e.on false = true) : ∀ i, i < ops.size → listed.getD i false = true := by
  have main : ∀ (d i : Nat), ops.size - i = d → i < ops.size → listed.getD i false = true := by
    intro d
    induction d using Nat.strongRecOn with
    | _ d ih =>
      intro i hd hi
      rcases hw i hi with ⟨e, he, hbb, hon⟩ | ⟨j, x, hij, hx, e, he, hbb, hon⟩
      · rw [← hon]; exact ho e he hbb
      · have hj : j < ops.size := (Array.getElem?_eq_some_iff.1 hx).1
        rw [← hon]
        exact h j x hx (ih (ops.size - j) (by omega) j rfl hj) e he hbb
  exact fun i hi => main _ i rfl hi
/-- The last operation, behind all others. -/
theorem last_any (ho : o.guard = none) (he : ∀ e ∈ o.after, e.on < ops.size) (hN : ∀ a w, N a w → o.wp P a w (fun a' w' => Q .normal a' w') Q) {listed : Array Bool} (hs : listed.size = ops.size) (hall : ∀ i, i < ops.size → listed.getD i false = true) {a : Act} {w : World} (h : N a w) (g : Nat) : wpAny P md (ops.push o) Q (g + 1) (listed.push false) a w := by
  have hm : (ops.push o)[ops.size]? = some o := by simp
  have hr : ops.size ∈ Region.ready md (ops.push o) (listed.push false) := by
    refine mem_ready.2 ⟨by rw [← hs]; exact getD_push_eq, o, hm, fun e hee _ => ?_⟩
    rw [getD_push_lt (by have := he e hee; omega)]
    exact hall _ (he e hee)
  refine ⟨fun h0 => (by rw [h0] at hr; cases hr), fun i hi => ?_⟩
  obtain ⟨hu, oi, hoi, _⟩ := mem_ready.1 hi
  have hlt : i < (ops.push o).size := (Array.getElem?_eq_some_iff.1 hoi).1
  rw [Array.size_push] at hlt
  have him : i = ops.size := by
    rcases Nat.lt_or_ge i ops.size with hl | hl
    · rw [getD_push_lt (by omega), getD_flip (by omega) true false, hall i hl] at hu; cases hu
    · omega
  subst him
  have hdone : ∀ j, ((listed.push false).setIfInBounds ops.size true).getD j true = true := by
    intro j
    rw [Array.getD_eq_getD_getElem?, Array.getElem?_setIfInBounds]
    by_cases hj : ops.size = j
    · rw [if_pos hj]; split <;> rfl
    · rw [if_neg hj, Array.getElem?_push]
      by_cases hj2 : j = listed.size
      · omega
      · rw [if_neg hj2, ← Array.getD_eq_getD_getElem?]
        rcases Nat.lt_or_ge j ops.size with hl | hl
        · rw [getD_flip (by omega) true false]; exact hall j hl
        · rw [Array.getD_eq_getD_getElem?, Array.getElem?_eq_none (by omega)]; rfl
  have hnil : Region.ready md (ops.push o) ((listed.push false).setIfInBounds ops.size true) = [] := by
    apply List.eq_nil_iff_forall_not_mem.2
    intro j hj
    have := (mem_ready.1 hj).1
    rw [hdone j] at this; cases this
  unfold wpOp
  simp only [hm]
  rw [if_pos (by simp [Region.wanted, ho])]
  refine .inl (Oper.wp_mono (fun a' w' hq => ?_) (hN a w h))
  cases g with
  | zero => exact ⟨hnil, hq⟩
  | succ g => exact ⟨fun _ => hq, fun j hj => by rw [hnil] at hj; cases hj⟩

theorem lift_any (hg : ∀ (k : Nat) (x : Oper), ops[k]? = some x → x.guard = none) (hb : ∀ (j : Nat) (x : Oper), ops[j]? = some x → ∀ e ∈ x.after, e.on < j) (ho : o.guard = none) (he : ∀ e ∈ o.after, e.on < ops.size) (hw : ∀ i, i < ops.size → (∃ e ∈ o.after, Region.binds md e = true ∧ e.on = i) ∨ ∃ (j : Nat) (x : Oper), i < j ∧ ops[j]? = some x ∧ ∃ e ∈ x.after, Region.binds md e = true ∧ e.on = i)
    (hN : ∀ a w, N a w → o.wp P a w (fun a' w' => Q .normal a' w') Q) : ∀ (f : Nat) (listed : Array Bool) (a : Act) (w : World), listed.size = ops.size → Shut md ops listed → wpAny P md ops (NP N) f listed a w → wpAny P md (ops.push o) Q (f + 1) (listed.push false) a w
  | 0, listed, a, w, hs, _, h => last_any ho he hN hs (all_listed hs hb h.1) h.2 0
  | f + 1, listed, a, w, hs, hc, h => by
    by_cases hr : Region.ready md ops listed = []
    · exact last_any ho he hN hs (all_listed hs hb hr) (h.1 hr) (f + 1)
    · obtain ⟨k, hk⟩ := List.exists_mem_of_ne_nil _ hr
      obtain ⟨hku, ok, hok, hka⟩ := mem_ready.1 hk
      have hkl : k < ops.size := (Array.getElem?_eq_some_iff.1 hok).1
      have up : ∀ (j : Nat) (x : Oper), ops[j]? = some x → (ops.push o)[j]? = some x := fun j x hx => by
        rw [Array.getElem?_push, if_neg (by have := (Array.getElem?_eq_some_iff.1 hx).1; omega)]; exact hx
      refine ⟨fun h0 => ?_, fun i hi => ?_⟩
      · have : k ∈ Region.ready md (ops.push o) (listed.push false) := mem_ready.2 ⟨by rw [getD_push_lt (by omega)]; exact hku, ok, up k ok hok, fun e hee hbb => by
          rw [getD_push_lt (by have := hb k ok hok e hee; omega)]; exact hka e hee hbb⟩
        rw [h0] at this; cases this
      · obtain ⟨hu, oi, hoi, hall⟩ := mem_ready.1 hi
        have hlt : i < (ops.push o).size := (Array.getElem?_eq_some_iff.1 hoi).1
        rw [Array.size_push] at hlt
        rcases Nat.lt_or_ge i ops.size with hl | hl
        · have hoi' : ops[i]? = some oi := by rw [Array.getElem?_push, if_neg (by omega)] at hoi; exact hoi
          rw [getD_push_lt (by omega)] at hu
          have hi' : i ∈ Region.ready md ops listed := mem_ready.2 ⟨hu, oi, hoi', fun e hee hbb => by
            have := hall e hee hbb
            rwa [getD_push_lt (by have := hb i oi hoi' e hee; omega)] at this⟩
          have h2 := h.2 i hi'
          have hwt : ∀ y, Region.wanted oi y = true := fun y => by simp [Region.wanted, hg i oi hoi']
          unfold wpOp at h2 ⊢
          simp only [hoi', hoi, hwt, if_true] at h2 ⊢
          rw [push_set (by omega)]
          rcases h2 with h2 | ⟨_, _, _, h2⟩
          · exact .inl (wp_of_NP (fun a' w' h3 => lift_any hg hb ho he hw hN f _ _ _ (by simpa using hs) (hc.set hi') h3) h2)
          · exact h2.elim
        · obtain rfl : i = ops.size := by omega
          have hoo : oi = o := by simpa using hoi.symm
          subst hoo
          have hk2 := hc.all hw (fun e hee hbb => by
            have h3 := hall e hee hbb
            rwa [getD_push_lt (by have := he e hee; omega)] at h3) k hkl
          rw [getD_flip (by omega) false true, hku] at hk2
          cases hk2

def mixTailB (ops : Array Oper) (o : Oper) (fl : List Bool) : Bool :=
  Region.noSelect ops && (List.range ops.size).all (fun j => match ops[j]? with | some x => x.guard.isNone && x.after.all fun e => decide (e.on < j) | none => true) && o.guard.isNone && o.after.all (fun e => decide (e.on < ops.size)) &&
  (List.range ops.size).all (fun i => (o.after.any fun e => Region.binds .any e && e.on == i) || (List.range ops.size).any fun j => decide (i < j) && match ops[j]? with | some x => x.after.any fun e => Region.binds .any e && e.on == i | none => false) && decide (fl.length = ops.size) && mixB .any ops fl 0 (Array.replicate ops.size false)
theorem wp_region_mix (S : World → Prop) {id : Nat} {l : List Oper} {a : Act} {w : World} (fl : List Bool) (o : Oper) (hm : P.follows .mixedOrders = true) (ho : l.getLast? = some o) (hB : mixTailB l.dropLast.toArray o fl = true) (hS : S w.drew)
    (h : wpMix P S (fun a' w' => o.wp P a' w' (fun a'' w'' => Q .normal a'' w'') Q) (l.dropLast.zip fl) a w.drew) : (Code.region id l.toArray true).wp P Q a w := by
  simp only [mixTailB, Bool.and_eq_true, decide_eq_true_eq] at hB
  obtain ⟨⟨⟨⟨⟨⟨hsel, hops⟩, hog⟩, hoa⟩, hwt⟩, hfl⟩, hmix⟩ := hB
  have hop : ∀ (j : Nat) (x : Oper), l.dropLast.toArray[j]? = some x → x.guard = none ∧ ∀ e ∈ x.after, e.on < j := by
    intro j x hx
    have h1 := List.all_eq_true.1 hops j (List.mem_range.2 (Array.getElem?_eq_some_iff.1 hx).1)
    rw [hx] at h1
    simp only [Bool.and_eq_true] at h1
    exact ⟨by simpa using h1.1, fun e he => by simpa using Array.all_eq_true'.1 h1.2 e he⟩
  have hll : l = l.dropLast ++ [o] := by
    have hne : l ≠ [] := by rintro rfl; simp at ho
    rw [List.getLast?_eq_some_getLast hne] at ho
    injection ho with ho
    rw [← ho]; exact (List.dropLast_concat_getLast hne).symm
  have hlen : (l.dropLast.zip fl).length = l.dropLast.toArray.size := by
    rw [List.length_zip, hfl]; simp
  have hH := held_of_mix (md := .any) (P := P) (S := S) hsel (fun k x hx => (hop k x hx).1) (l.dropLast.zip fl) 0 (Array.replicate l.dropLast.toArray.size false) a w.drew (fun j x hx => by
    rw [Nat.zero_add]
    rw [List.getElem?_zip_eq_some] at hx
    simpa using hx.1) (by rw [show (l.dropLast.zip fl).map (·.2) = fl from by
      rw [← List.unzip_snd, List.unzip_zip_right (by rw [hfl]; simp)]]; exact hmix) hS h
  rw [hlen] at hH
  have hL := lift_any (md := .any) (P := P) (Q := Q) (o := o) (fun k x hx => (hop k x hx).1) (fun j x hx => (hop j x hx).2) (by simpa using hog) (fun e he => by simpa using Array.all_eq_true'.1 hoa e he) (fun i hi => by
    have h1 := List.all_eq_true.1 hwt i (List.mem_range.2 hi)
    simp only [Bool.or_eq_true] at h1
    rcases h1 with h1 | h1
    · obtain ⟨e, he, h2⟩ := Array.any_eq_true'.1 h1
      simp only [Bool.and_eq_true, beq_iff_eq] at h2
      exact .inl ⟨e, he, h2.1, h2.2⟩
    · obtain ⟨j, _, h2⟩ := List.any_eq_true.1 h1
      simp only [Bool.and_eq_true, decide_eq_true_eq] at h2
      cases hx : l.dropLast.toArray[j]? with
      | none => rw [hx] at h2; cases h2.2
      | some x =>
        rw [hx] at h2
        obtain ⟨e, he, h3⟩ := Array.any_eq_true'.1 h2.2
        simp only [Bool.and_eq_true, beq_iff_eq] at h3
        exact .inr ⟨j, x, h2.1, hx, e, he, h3.1, h3.2⟩) (fun _ _ h => h) _ _ _ _ (by simp) (fun j x _ hj => by
    rw [Array.getD_eq_getD_getElem?, Array.getElem?_replicate] at hj
    split at hj <;> cases hj) (wpAny_of_held _ _ _ _ hH)
  refine wp_region_any hm ?_
  have e1 : l.toArray = l.dropLast.toArray.push o := by rw [List.push_toArray]; exact congrArg List.toArray hll
  rw [e1]
  have e2 : Array.replicate (l.dropLast.toArray.push o).size false = (Array.replicate l.dropLast.toArray.size false).push false := by
    rw [Array.size_push, ← Array.replicate_succ]
  rw [e2, Array.size_push]
  exact hL
theorem wpMix_free {o : Oper} {l : List (Oper × Bool)} {a : Act} {w : World} (v : Value) (hv : ∀ z, S z → (execOp a.eval o).run P z = .ok (.value v) z) (h : wpMix P S N l (a.put o.dst v) w) : wpMix P S N ((o, true) :: l) a w := ⟨v, hv, h⟩
theorem wpMix_turn {o : Oper} {l : List (Oper × Bool)} {a : Act} {w : World} (h : ∀ K : Act → World → Prop, (∀ a' w', S w' → wpMix P S N l a' w' → K a' w') → o.wp P a w K (NP N)) : wpMix P S N ((o, false) :: l) a w := h _ fun _ _ h1 h2 => ⟨h1, h2⟩
theorem wpMix_end {a : Act} {w : World} (h : N a w) : wpMix P S N [] a w := h
end
end Go.Proofs.YtdbcjiapbehacaaGreatDoor.Vf

/-! append of a whole row, read from anywhere, to a row of the call's own. -/
namespace Go.Proofs.YtdbcjiapbehacaaGreatDoor.Vf
open Go.RowKit

theorem flat_at {s : Nat} : ∀ {xs : List (List Value)}, (∀ x ∈ xs, x.length = s) → ∀ {j : Nat} {u : Value}, xs.flatten[j]? = some u → ∃ (i k : Nat) (cs : List Value), xs[i]? = some cs ∧ cs[k]? = some u ∧ j = i * s + k
  | [], _, _, _, h => by simp at h
  | x :: xs, hs, j, u, h => by
    have hx : x.length = s := hs x (by simp)
    rw [List.flatten_cons] at h
    rcases Nat.lt_or_ge j x.length with hl | hl
    · rw [List.getElem?_append_left hl] at h
      exact ⟨0, j, x, rfl, h, by omega⟩
    · rw [List.getElem?_append_right hl] at h
      obtain ⟨i, k, cs, h1, h2, h3⟩ := flat_at (fun y hy => hs y (by simp [hy])) h
      exact ⟨i + 1, k, cs, by simpa using h1, h2, by rw [Nat.add_mul]; omega⟩
theorem flat_len {s : Nat} : ∀ {xs : List (List Value)}, (∀ x ∈ xs, x.length = s) → xs.flatten.length = xs.length * s
  | [], _ => by simp
  | x :: xs, hs => by
    rw [List.flatten_cons, List.length_append, flat_len (fun y hy => hs y (by simp [hy])), hs x (by simp), List.length_cons, Nat.add_mul]; omega
section
variable {P : Program} {w : World} {T e ty : TypeId} {sz bytes base : Nat} {z v x : Value} {xs ys : List (List Value)}
theorem run_append_row (hT : P.underlying T = some (.slice e)) (hi : (P.info? e).map (fun i => (i.zero, i.size, i.bytes)) = some (some z, sz, bytes)) (hzs : z.cells.size = sz) (hsz : 0 < sz) (hby : bytes ≤ 100) (hown : OwnR w base e sz v xs) (hx : Reads w e sz x ys) (hys : ∀ y ∈ ys, y.length = sz) (h1 : ∀ y ∈ ys, ∀ u ∈ y, u.oneCell' = true) (hlen : xs.length + ys.length ≤ 100000000) (hbase : base ≤ w.heap.size) :
    ∃ v' w', (Builtin.append_ #[T, T] ty #[v, x]).run P w = .ok v' w' ∧ OwnR w' base e sz v' (xs ++ ys) ∧ w.grownBy w' v.ownBlock ∧ (v'.ownBlock = v.ownBlock ∨ v'.ownBlock = some w.heap.size) := by
  obtain ⟨i, hi', hz0, hz1, hz2⟩ := info_parts hi
  have hall : ∀ y ∈ xs ++ ys, y.length = sz := fun y hy => by
    rcases List.mem_append.1 hy with hy | hy
    · exact hown.2 y hy
    · exact hys y hy
  have main : ∀ (a : Addr) (c : Nat), x = .slice (some a) ys.length c → (∀ j u, ys.flatten[j]? = some u → w.cell? (a.add j) = some u) → ∃ v' w', (Builtin.append_ #[T, T] ty #[v, x]).run P w = .ok v' w' ∧ OwnR w' base e sz v' (xs ++ ys) ∧ w.grownBy w' v.ownBlock ∧ (v'.ownBlock = v.ownBlock ∨ v'.ownBlock = some w.heap.size) := fun a c hxa hcell => by
    have hb : (xs.length + ys.length) * bytes ≤ (xs.length + ys.length) * 100 := Nat.mul_le_mul_left _ hby
    obtain ⟨v', w', hr, h2, h3, _, h5⟩ := run_append_own_at (P := P) w base T ty e i z sz bytes hT hi' hz0 hz1 hz2 hzs hsz v xs.length xs.flatten hown.1 a ys.length c ys.flatten (flat_len hys) hcell (fun u hu => by
      obtain ⟨y, hy, hu2⟩ := List.mem_flatten.1 hu
      exact h1 y hy u hu2) (by unfold maxLen; omega) (by omega) hbase
    refine ⟨v', w', by rw [hxa]; exact hr, ⟨?_, hall⟩, h3, h5⟩
    rw [List.length_append, List.flatten_append]; exact h2
  rcases hx with ⟨rfl, A, c, rfl⟩ | ⟨g, cap, rfl, he⟩
  · cases A with
    | some a => exact main a c rfl (fun j u h => by simp at h)
    | none =>
      refine ⟨v, w, ?_, ⟨by rw [List.append_nil]; exact hown.1, hall⟩, World.grownBy.refl _ _, .inl rfl⟩
      rcases hown.1.2 with ⟨rfl, _⟩ | ⟨g, cap, cur, rfl, _, hg, hnc, _⟩
      · simp [Builtin.append_, run_underlying hT, sizeOf, typeInfo, hi', Builtin.lenOf, Builtin.firstCells]
      · simp [Builtin.append_, run_underlying hT, sizeOf, typeInfo, hi', Builtin.lenOf, Builtin.firstCells, hnc, storeCells]
  · refine main ⟨g, 0, none⟩ cap rfl fun j u hj => ?_
    obtain ⟨i, k, cs, h2, h3, rfl⟩ := flat_at hys hj
    have hadd : (⟨g, 0, none⟩ : Addr).add (i * sz + k) = ⟨g, i * sz + k, none⟩ := by unfold Addr.add; split <;> simp_all
    rw [hadd]
    exact he.cell i k cs u h2 h3
theorem wp_append_row {o : Oper} {a : Act} {K : Act → World → Prop} {Q : Exit → Act → World → Prop} (s t : Operand) (ho : o.op = .call { callee := .builtin .append, args := #[s, t], argTypes := #[T, T] }) (hT : P.underlying T = some (.slice e)) (hi : (P.info? e).map (fun i => (i.zero, i.size, i.bytes)) = some (some z, sz, bytes)) (hzs : z.cells.size = sz) (hsz : 0 < sz) (hby : bytes ≤ 100) (hs : a.eval s = v) (ht : a.eval t = x) (hown : OwnR w base e sz v xs) (hx : Reads w e sz x ys) (hys : ∀ y ∈ ys, y.length = sz) (h1 : ∀ y ∈ ys, ∀ u ∈ y, u.oneCell' = true) (hlen : xs.length + ys.length ≤ 100000000) (hbase : base ≤ w.heap.size)
    (h : ∀ v' w', OwnR w' base e sz v' (xs ++ ys) → w.grownBy w' v.ownBlock → (v'.ownBlock = v.ownBlock ∨ v'.ownBlock = some w.heap.size) → K (a.put o.dst v') w') : o.wp P a w K Q := by
  obtain ⟨v', w', hr, h2, h3, h4⟩ := run_append_row (ty := o.type) hT hi hzs hsz hby hown hx hys h1 hlen hbase
  unfold Oper.wp execOp
  simp only [ho, resolve, invoke, builtin, Sem.run_bind, Sem.run_pure, Result.andThen_ok, List.map_toArray, List.map_cons, List.map_nil, hs, ht, hr]
  exact h v' w' h2 h3 h4
theorem wpList_append_row {ops : Array Oper} {rest : List Oper} {o : Oper} {a : Act} {Q : Exit → Act → World → Prop} (hgd : o.guard = none) (s t : Operand) (ho : o.op = .call { callee := .builtin .append, args := #[s, t], argTypes := #[T, T] }) (hT : P.underlying T = some (.slice e)) (hi : (P.info? e).map (fun i => (i.zero, i.size, i.bytes)) = some (some z, sz, bytes)) (hzs : z.cells.size = sz) (hsz : 0 < sz) (hby : bytes ≤ 100) (hs : a.eval s = v) (ht : a.eval t = x) (hown : OwnR w base e sz v xs) (hx : Reads w e sz x ys) (hys : ∀ y ∈ ys, y.length = sz) (h1 : ∀ y ∈ ys, ∀ u ∈ y, u.oneCell' = true) (hlen : xs.length + ys.length ≤ 100000000) (hbase : base ≤ w.heap.size)
    (h : ∀ v' w', OwnR w' base e sz v' (xs ++ ys) → w.grownBy w' v.ownBlock → (v'.ownBlock = v.ownBlock ∨ v'.ownBlock = some w.heap.size) → wpList P ops Q rest (a.put o.dst v') w') : wpList P ops Q (o :: rest) a w :=
  wpList_plain hgd fun _ hK => wp_append_row s t ho hT hi hzs hsz hby hs ht hown hx hys h1 hlen hbase fun v' w' h2 h3 h4 => hK _ _ (h v' w' h2 h3 h4)
end
/-- A slice that is made empty, of its own. -/
theorem own_empty (w : World) (base : Nat) (e : TypeId) (s : Nat) (hb : base ≤ w.heap.size) : OwnR (w.alloc (.cells #[] e)) base e s (.slice (some ⟨w.heap.size, 0, none⟩) 0 0) [] :=
  ⟨World.ownsRow_lit w #[] 0 hb (by unfold maxLen; omega) (by simp), fun x hx => by cases hx⟩
theorem nm_cells_one (l : List Nm) : (∀ y ∈ l.map Nm.cells, y.length = 2) ∧ ∀ y ∈ l.map Nm.cells, ∀ u ∈ y, u.oneCell' = true := by
  constructor
  · intro y hy; obtain ⟨x, _, rfl⟩ := List.mem_map.1 hy; rfl
  · intro y hy u hu; obtain ⟨x, _, rfl⟩ := List.mem_map.1 hy; simp [Nm.cells] at hu; rcases hu with rfl | rfl <;> rfl
theorem st_cells_one (l : List St) : (∀ y ∈ l.map St.cells, y.length = 3) ∧ ∀ y ∈ l.map St.cells, ∀ u ∈ y, u.oneCell' = true := by
  constructor
  · intro y hy; obtain ⟨x, _, rfl⟩ := List.mem_map.1 hy; rfl
  · intro y hy u hu; obtain ⟨x, _, rfl⟩ := List.mem_map.1 hy; simp [St.cells] at hu; rcases hu with rfl | rfl | rfl <;> rfl
theorem fl_cells_one (l : List Fl) : (∀ y ∈ l.map Fl.cells, y.length = 2) ∧ ∀ y ∈ l.map Fl.cells, ∀ u ∈ y, u.oneCell' = true := by
  constructor
  · intro y hy; obtain ⟨x, _, rfl⟩ := List.mem_map.1 hy; rfl
  · intro y hy u hu; obtain ⟨x, _, rfl⟩ := List.mem_map.1 hy; simp [Fl.cells] at hu; rcases hu with rfl | rfl <;> rfl
end Go.Proofs.YtdbcjiapbehacaaGreatDoor.Vf

/-! A step in a directory. -/
namespace Go.Proofs.YtdbcjiapbehacaaGreatDoor.Vf
open Go.RowKit

theorem OwnR.frozen {w : World} {base : Nat} {t : TypeId} {s g n cap : Nat} {xs : List (List Value)} (h : OwnR w base t s (.slice (some ⟨g, 0, none⟩) n cap) xs) (j : Nat) : w.frozen? ⟨g, j, none⟩ = false := by
  rcases h.1.2 with ⟨h', _⟩ | ⟨g', cap', cur, h', _, hg, _⟩
  · cases h'
  · injection h' with e _ _; injection e with e; injection e with e _ _
    subst e
    exact frozen_of_row w _ j cur t hg
/-- The document's file system, its rows its own: it may be written. -/
structure Owns (w : World) (p : Nat) (fs : Fs) (vf : Value) (gd cd : Nat) (dv : List Dv) : Prop where
  sees : Sees w p fs vf gd cd dv
  files : OwnR w 0 109 2 vf (fs.files.map Fl.cells)
  dirs : OwnR w 0 62 4 (.slice (some ⟨gd, 0, none⟩) fs.dirs.length cd) (List.zipWith drCells fs.dirs dv)
  waits : ∀ (i : Nat) (d : Dr) (v : Dv), fs.dirs[i]? = some d → dv[i]? = some v → OwnR w 0 114 3 v.s (d.waits.map St.cells)
  apart : ∀ (i j : Nat) (v u : Dv), dv[i]? = some v → dv[j]? = some u → i ≠ j → v.s.ownBlock = none ∨ v.s.ownBlock ≠ u.s.ownBlock

theorem step_info : (Tryz.prog.info? 114).map (fun i => (i.zero, i.size, i.bytes)) = some (some (.agg #[.string ⟨#[]⟩, .int .i64 0, .string ⟨#[]⟩]), 3, 40) := by kernel_rfl
/-- What a step has left: behind the names (V), behind the waiting row (V2). -/
structure StepLeft (w : World) (gd : Nat) (fs : Fs) (cd : Nat) (i : Nat) (d : Dr) (u : Dv) (x : St) (w' : World) (V V2 : World) (A1 : Option Addr) (c1 g2 cap2 : Nat) : Prop where
  gV : w.grownBy V (some gd)
  more : w.heap.size < V.heap.size
  dirs : ∀ XS, w.ownsRow 0 62 4 (.slice (some ⟨gd, 0, none⟩) fs.dirs.length cd) fs.dirs.length XS → V.ownsRow 0 62 4 (.slice (some ⟨gd, 0, none⟩) fs.dirs.length cd) fs.dirs.length (XS.set (i * 4 + 1) (.slice A1 (takenOf d.names x).length c1))
  names : OwnR V w.heap.size 111 2 (.slice A1 (takenOf d.names x).length c1) ((takenOf d.names x).map Nm.cells)
  gV2 : V.grownBy V2 u.s.ownBlock
  waits : V2.ownsRow 0 114 3 (.slice (some ⟨g2, 0, none⟩) (d.waits.length + 1) cap2) (d.waits.length + 1) ((d.waits.map St.cells).flatten ++ x.cells)
  place : u.s.ownBlock = some g2 ∨ w.heap.size ≤ g2
  last : w' = V2.setCell ⟨gd, i * 4 + 3, none⟩ (.slice (some ⟨g2, 0, none⟩) (d.waits.length + 1) cap2)
set_option maxRecDepth 100000 in
set_option maxHeartbeats 4000000 in
theorem step_walk (p gd cd : Nat) (fs : Fs) (vf : Value) (dv : List Dv) (i : Nat) (d : Dr) (u : Dv) (x : St) (w : World) (h : Owns w p fs vf gd cd dv) (hd : fs.dirs[i]? = some d) (hu : dv[i]? = some u) (hl : d.names.length ≤ 1000000) (hlw : d.waits.length ≤ 1000000) :
    Calls Tryz.prog 64 #[.pointer (some ⟨p, 0, none⟩), .int .i64 i, stVal x] w fun e w' => (∃ r, e = .returned r) ∧ ∃ V V2 A1 c1 g2 cap2, StepLeft w gd fs cd i d u x w' V V2 A1 c1 g2 cap2 := by
  have hil := lt_of_get hd
  obtain ⟨d', v', hd', hv', hc0, hc1, _, hc3⟩ := h.sees.dir hil
  obtain rfl : d = d' := by rw [hd] at hd'; injection hd'
  obtain rfl : u = v' := by rw [hu] at hv'; injection hv'
  have hc2 : w.cell? ⟨p, 2, none⟩ = some (.slice (some ⟨gd, 0, none⟩) fs.dirs.length cd) := by rw [h.sees.top.cell]; rfl
  have hfit := h.sees.dirs.fits
  have hsm := h.sees.small.1
  have hr := (h.sees.each i d u hd hu).1
  unfold stVal
  go_enter Tryz.func64, Tryz.ntmps64
  obtain ⟨W, hW⟩ : ∃ W, w.alloc (.cells #[.string x.p, .int .i64 x.f, .string x.g] 114) = W := ⟨_, rfl⟩
  have hb : Below w.heap.size w W := by rw [← hW]; exact (Below.refl _ _).alloc (Nat.le_refl _) _
  have hx : Hold W w.heap.size 114 x.cells := by rw [← hW]; exact heap_alloc_new w _
  obtain ⟨A, c, hun⟩ := hr.len
  rw [List.length_map] at hun
  have hpl : p < w.heap.size := h.sees.top.lt
  have hgl : gd < w.heap.size := h.sees.dirs.lt
  have hk2 : W.cell? ⟨p, 2, none⟩ = some (.slice (some ⟨gd, 0, none⟩) fs.dirs.length cd) := (hb.cell (p := ⟨p, 2, none⟩) hpl).trans hc2
  have hk1 : W.cell? ⟨gd, i * 4 + 1, none⟩ = some u.n := (hb.cell (p := ⟨gd, i * 4 + 1, none⟩) hgl).trans hc1
  have hk3' : W.cell? ⟨gd, i * 4 + 3, none⟩ = some u.s := (hb.cell (p := ⟨gd, i * 4 + 3, none⟩) hgl).trans hc3
  have hf1 : W.frozen? ⟨gd, i * 4 + 1, none⟩ = false := (hb.frozen (p := ⟨gd, i * 4 + 1, none⟩) hgl).trans (h.dirs.frozen _)
  have hx0 : W.cell? ⟨w.heap.size, 0, none⟩ = some (.string x.p) := by rw [hx.cell]; rfl
  have hx1 : W.cell? ⟨w.heap.size, 1, none⟩ = some (.int .i64 x.f) := by rw [hx.cell]; rfl
  have hx2 : W.cell? ⟨w.heap.size, 2, none⟩ = some (.string x.g) := by rw [hx.cell]; rfl
  have hpg : p ≠ gd := by
    rintro rfl
    obtain ⟨cur, hc⟩ := h.sees.dirs.kind
    have ht := h.sees.top
    unfold Hold at ht
    rw [ht] at hc
    injection hc with hc; injection hc with _ h2; revert h2; decide
  have hrW : Reads W 111 2 u.n (d.names.map Nm.cells) := hr.keep fun g cur hg => hb.block g (by
    rcases Nat.lt_or_ge g w.heap.size with hl | hl
    · exact hl
    · rw [Array.getElem?_eq_none hl] at hg; cases hg)
  obtain ⟨B, hB⟩ : ∃ B, w.heap.size = B := ⟨_, rfl⟩
  have hi0 : (0 : Int) ≤ (i : Int) := by omega
  have hi1 : (i : Int) < (fs.dirs.length : Int) := by omega
  rw [hun] at hrW hk1
  have HX := Lib.hid hx; have HB := Lib.hid hb; have hrd : Reads W.drew 111 2 (.slice A d.names.length c) (d.names.map Nm.cells) := hrW.keep fun g cur _ => rfl
  have HR := Lib.hid hrd
  have hWs : w.heap.size < W.heap.size := hx.lt
  clear hb hx hc0 hc1 hc2 hc3 hrW hr hrd
  go_wp2_with fail
  clear hW
  rw [hB] at hx0 hx1 hx2 hpl hgl hWs
  try rw [hB]
  have hgp : gd ≠ p := Ne.symm hpg
  have hgB : gd ≠ B := by omega
  have hpB : p ≠ B := by omega
  refine wp_region_mix (fun z => z.cell? ⟨p, 2, none⟩ = some (.slice (some ⟨gd, 0, none⟩) fs.dirs.length cd) ∧ z.cell? ⟨gd, i * 4 + 1, none⟩ = some (.slice A d.names.length c) ∧ z.cell? ⟨B, 0, none⟩ = some (.string x.p) ∧ z.cell? ⟨B, 1, none⟩ = some (.int .i64 x.f) ∧ z.cell? ⟨B, 2, none⟩ = some (.string x.g))
    [true, true, true, true, true, true, true, true, true, true, true, true, true, true, false, true, true] _ (by kernel_rfl) rfl (by kernel_rfl) ⟨hk2, hk1, hx0, hx1, hx2⟩ ?_
  dsimp only [List.dropLast, List.zip, List.zipWith, List.getLast]
  repeat (apply wpMix_free
          · intro z hz
            try dsimp only at hz
            go_simp
            all_goals with_reducible rfl
          simp only [Act.put, List.setIfInBounds_toArray, List.set_cons_zero, List.set_cons_succ])
  refine wpMix_turn (fun K hK => ?_)
  have HK := Lib.hid hK; clear hK
  go_simp
  refine (taken_any _ d.names x _ HR.out hl).mono ?_
  rintro e w1 ⟨v1, rfl, hown1, hb1⟩
  obtain ⟨A1, c1, hv1⟩ := hown1.reads.len
  subst hv1
  have hs1 : W.heap.size ≤ w1.heap.size := hb1.size
  have hc1' := (hb1.cell (p := ⟨gd, i * 4 + 1, none⟩) (Nat.lt_trans hgl hWs)).trans hk1
  have hf1' := (hb1.frozen (p := ⟨gd, i * 4 + 1, none⟩) (Nat.lt_trans hgl hWs)).trans hf1
  have hc2' := (hb1.cell (p := ⟨p, 2, none⟩) (Nat.lt_trans hpl hWs)).trans hk2
  have hx0' := (hb1.cell (p := ⟨B, 0, none⟩) hWs).trans hx0
  have hx1' := (hb1.cell (p := ⟨B, 1, none⟩) hWs).trans hx1
  have hx2' := (hb1.cell (p := ⟨B, 2, none⟩) hWs).trans hx2
  refine HK.out _ _ ⟨hc2', hc1', hx0', hx1', hx2'⟩ ?_
  clear HK
  try simp only [Act.put, List.setIfInBounds_toArray, List.set_cons_zero, List.set_cons_succ]
  repeat (apply wpMix_free
          · intro z hz
            try dsimp only at hz
            go_simp
            all_goals with_reducible rfl
          simp only [Act.put, List.setIfInBounds_toArray, List.set_cons_zero, List.set_cons_succ])
  refine wpMix_end ?_
  go_simp
  have hG : w.grownBy (w1.setCell ⟨gd, i * 4 + 1, none⟩ (.slice A1 (takenOf d.names x).length c1)) (some gd) := by
    have g1 : w.grownBy w1 (some gd) := by
      have hb := HB.out
      refine ⟨hb1.os.trans hb.os, hb1.tape.trans hb.tape, hb1.output.trans hb.output, Nat.le_trans hb.size hb1.size, fun k hk _ => (hb1.block k ?_).trans (hb.block k hk)⟩
      show k < W.heap.size
      omega
    exact gb_set g1 _ _
  have hdirV : ∀ XS, w.ownsRow 0 62 4 (.slice (some ⟨gd, 0, none⟩) fs.dirs.length cd) fs.dirs.length XS → (w1.setCell ⟨gd, i * 4 + 1, none⟩ (.slice A1 (takenOf d.names x).length c1)).ownsRow 0 62 4 (.slice (some ⟨gd, 0, none⟩) fs.dirs.length cd) fs.dirs.length (XS.set (i * 4 + 1) (.slice A1 (takenOf d.names x).length c1)) := by
    intro XS hXS
    have g0 : w.grownBy w1 none := by
      have hb := HB.out
      refine ⟨hb1.os.trans hb.os, hb1.tape.trans hb.tape, hb1.output.trans hb.output, Nat.le_trans hb.size hb1.size, fun k hk _ => (hb1.block k ?_).trans (hb.block k hk)⟩
      show k < W.heap.size
      omega
    exact (World.ownsRow.stored (World.ownsRow.kept hXS g0 (.inr (by simp [Value.ownBlock]))) _ _).1
  have hk3 : (w1.setCell ⟨gd, i * 4 + 1, none⟩ (.slice A1 (takenOf d.names x).length c1)).cell? ⟨gd, i * 4 + 3, none⟩ = some u.s := by
    rw [World.cell?_setCell_other _ _ _ _ (by intro e; injection e with _ e; omega)]
    exact (hb1.cell (p := ⟨gd, i * 4 + 3, none⟩) (Nat.lt_trans hgl hWs)).trans hk3'
  have hj2 : (w1.setCell ⟨gd, i * 4 + 1, none⟩ (.slice A1 (takenOf d.names x).length c1)).cell? ⟨p, 2, none⟩ = some (.slice (some ⟨gd, 0, none⟩) fs.dirs.length cd) := by
    rw [World.cell?_setCell_other _ _ _ _ (by intro e; injection e with e _; omega)]; exact hc2'
  have hj0 : ∀ (k : Nat) (y : Value), w1.cell? ⟨B, k, none⟩ = some y → (w1.setCell ⟨gd, i * 4 + 1, none⟩ (.slice A1 (takenOf d.names x).length c1)).cell? ⟨B, k, none⟩ = some y := fun k y hy => by
    rw [World.cell?_setCell_other _ _ _ _ (by intro e; injection e with e _; omega)]; exact hy
  have hy0 := hj0 0 _ hx0'
  have hy1 := hj0 1 _ hx1'
  have hy2 := hj0 2 _ hx2'
  have hd1 : ∃ V, w1.setCell ⟨gd, i * 4 + 1, none⟩ (.slice A1 (takenOf d.names x).length c1) = V := ⟨_, rfl⟩
  have hdirs2 := hk3
  have hs2 : B < (w1.setCell ⟨gd, i * 4 + 1, none⟩ (.slice A1 (takenOf d.names x).length c1)).heap.size := by simp [World.setCell]; omega
  have hown2 : OwnR (w1.setCell ⟨gd, i * 4 + 1, none⟩ (.slice A1 (takenOf d.names x).length c1)) B 111 2 (.slice A1 (takenOf d.names x).length c1) ((takenOf d.names x).map Nm.cells) := by
    rw [List.length_map] at hown1
    exact (hown1.mono (by show B ≤ W.heap.size; omega)).kept (row := some gd) (gb_set (World.grownBy.refl _ _) _ _) (by
      right
      intro e
      have := (hown1.lt gd e).1
      have : W.heap.size ≤ gd := this
      omega)
  clear hd1 hdirs2
  obtain ⟨V, hV⟩ : ∃ V, w1.setCell ⟨gd, i * 4 + 1, none⟩ (.slice A1 (takenOf d.names x).length c1) = V := ⟨_, rfl⟩
  rw [hV] at hG hdirV hk3 hj2 hy0 hy1 hy2 hs2 hown2 ⊢
  have HV1 := Lib.hid hV
  clear hV hj0 hown1 hx0' hx1' hx2' hc1' hf1' hc2' hb1 hk1 hk2 hx0 hx1 hx2 hf1 hk3'
  go_wp2_with fail
  have hgV : gd < V.heap.size := by omega
  have hpV : p < V.heap.size := by omega
  have how : OwnR V 0 114 3 u.s (d.waits.map St.cells) := (h.waits i d u hd hu).kept hG (by
    right
    intro e
    obtain ⟨cur, hc⟩ := h.sees.dirs.kind
    rcases (h.waits i d u hd hu).1.2 with ⟨e0, _⟩ | ⟨g', cap', cur', e0, _, hg', _⟩
    · rw [e0] at e; cases e
    · rw [e0] at e; simp only [Value.ownBlock, Option.some.injEq] at e
      subst e
      rw [hg'] at hc
      injection hc with hc; injection hc with _ h2; revert h2; decide)
  have hne : ∀ k, u.s.ownBlock = some k → k < B ∧ k ≠ p ∧ k ≠ gd := by
    intro k hk
    have hlt := ((h.waits i d u hd hu).lt k hk).2
    obtain ⟨cur, hc⟩ := h.sees.dirs.kind
    have htop := h.sees.top
    unfold Hold at htop
    rcases (h.waits i d u hd hu).1.2 with ⟨e0, _⟩ | ⟨g', cap', cur', e0, _, hg', _⟩
    · rw [e0] at hk; cases hk
    · rw [e0] at hk; simp only [Value.ownBlock, Option.some.injEq] at hk
      subst hk
      refine ⟨by omega, ?_, ?_⟩
      · rintro rfl
        rw [hg'] at htop; injection htop with e; injection e with _ e; revert e; decide
      · rintro rfl
        rw [hg'] at hc; injection hc with e; injection e with _ e; revert e; decide
  obtain ⟨A2, c2, hus⟩ := how.reads.len
  rw [hus] at how hk3 hne
  rw [List.length_map] at how hk3 hne
  have hdl : (List.zipWith drCells fs.dirs dv).length = fs.dirs.length := h.sees.dirs.len
  have hd0 := h.dirs.1
  rw [hdl] at hd0
  have hf3 : V.frozen? ⟨gd, i * 4 + 3, none⟩ = false := World.ownsRow.frozenAt (hdirV _ hd0) _
  refine wp_region_mix (fun z => z.cell? ⟨p, 2, none⟩ = some (.slice (some ⟨gd, 0, none⟩) fs.dirs.length cd) ∧ z.cell? ⟨gd, i * 4 + 3, none⟩ = some (.slice A2 d.waits.length c2) ∧ z.cell? ⟨B, 0, none⟩ = some (.string x.p) ∧ z.cell? ⟨B, 1, none⟩ = some (.int .i64 x.f) ∧ z.cell? ⟨B, 2, none⟩ = some (.string x.g))
    [true, true, true, true, true, true, true, true, true, true, true, true, true, true, false, false, true, true] _ (by kernel_rfl) rfl (by kernel_rfl) ⟨hj2, hk3, hy0, hy1, hy2⟩ ?_
  dsimp only [List.dropLast, List.zip, List.zipWith, List.getLast]
  repeat (apply wpMix_free
          · intro z hz
            try dsimp only at hz
            go_simp
            all_goals with_reducible rfl
          simp only [Act.put, List.setIfInBounds_toArray, List.set_cons_zero, List.set_cons_succ])
  refine wpMix_turn (fun K hK => ?_)
  have HK := Lib.hid hK; clear hK
  go_simp
  have hal : ∀ (q : Addr) (y : Value), q.block < V.heap.size → V.cell? q = some y → (V.drew.alloc (.cells #[.string x.p, .int .i64 x.f, .string x.g] 114)).cell? q = some y := fun q y hq hy => (World.cell?_alloc_lt V.drew _ q hq).trans hy
  refine HK.out _ _ ⟨hal _ _ hpV hj2, hal _ _ hgV hk3, hal _ _ hs2 hy0, hal _ _ hs2 hy1, hal _ _ hs2 hy2⟩ ?_
  clear HK
  try simp only [Act.put, List.setIfInBounds_toArray, List.set_cons_zero, List.set_cons_succ]
  refine wpMix_turn (fun K hK => ?_)
  have HK := Lib.hid hK; clear hK
  obtain ⟨si, hsi, hz0, hz1, hz2⟩ := info_parts step_info
  have hal2 : (V.drew.alloc (.cells #[.string x.p, .int .i64 x.f, .string x.g] 114)).heap.size = V.heap.size + 1 := by show (V.heap.push _).size = V.heap.size + 1; exact Array.size_push _
  have how2 := World.ownsRow.alloc (w := V.drew) (how.kept (row := none) (w' := V.drew) ⟨rfl, rfl, rfl, Nat.le_refl _, fun _ _ _ => rfl⟩ (by cases hv : (Value.slice A2 d.waits.length c2).ownBlock <;> simp)).1 (.cells #[.string x.p, .int .i64 x.f, .string x.g] 114)
  rw [List.length_map] at how2
  refine wp_append_lies _ (.tmp 35) (.tmp 37) 60 rfl 0 114 si _ 3 40 Tryz.underlying60 hsi hz0 hz1 hz2 rfl (by decide) _ d.waits.length _ rfl how2 ⟨V.heap.size, 0, none⟩ 1 1 x.cells rfl rfl (new_cells V.drew _ rfl _ _) (by simp [St.cells, Value.oneCell']) (by decide) (by unfold maxLen; omega) (by omega) (Nat.zero_le _) (V.heap.size + 1) hal2 ?_
  intro g2 cap2 V2 hown3 hgr3 hat3 hlt3
  have hcl : ∀ (q : Addr) (y : Value), q.block < V.heap.size → some q.block ≠ (Value.slice A2 d.waits.length c2).ownBlock → V.cell? q = some y → V2.cell? q = some y := fun q y hq hn hy => (World.cell?_of_block (hgr3.block _ (by show q.block < (V.heap.push _).size; rw [Array.size_push]; omega) hn)).trans (hal q y hq hy)
  have hnp : some p ≠ (Value.slice A2 d.waits.length c2).ownBlock := fun e => (hne p e.symm).2.1 rfl
  have hng : some gd ≠ (Value.slice A2 d.waits.length c2).ownBlock := fun e => (hne gd e.symm).2.2 rfl
  have hnb : some B ≠ (Value.slice A2 d.waits.length c2).ownBlock := fun e => Nat.lt_irrefl _ (hne B e.symm).1
  have hf4 : V2.frozen? ⟨gd, i * 4 + 3, none⟩ = false := by
    have e1 : V2.heap[gd]? = V.heap[gd]? := (hgr3.block gd (by show gd < (V.heap.push _).size; rw [Array.size_push]; omega) hng).trans (Below.heap_alloc V.drew _ gd hgV)
    rw [← hf3]
    exact World.frozen?_of_block (a := ⟨gd, i * 4 + 3, none⟩) e1
  have hk4 := hcl ⟨gd, i * 4 + 3, none⟩ _ hgV hng hk3
  refine HK.out _ _ ⟨hcl _ _ hpV hnp hj2, hk4, hcl _ _ hs2 hnb hy0, hcl _ _ hs2 hnb hy1, hcl _ _ hs2 hnb hy2⟩ ?_
  clear HK
  try simp only [Act.put, List.setIfInBounds_toArray, List.set_cons_zero, List.set_cons_succ]
  repeat (apply wpMix_free
          · intro z hz
            try dsimp only at hz
            go_simp
            all_goals with_reducible rfl
          simp only [Act.put, List.setIfInBounds_toArray, List.set_cons_zero, List.set_cons_succ])
  refine wpMix_end ?_
  go_simp
  go_wp2_with fail
  go_end0
  refine ⟨⟨_, rfl⟩, V, V2, A1, c1, g2, cap2, hG, by omega, hdirV, by rw [hB]; exact hown2, ?_, hown3, ?_, rfl⟩
  · rw [hus]
    exact ⟨hgr3.os, hgr3.tape, hgr3.output, Nat.le_trans (by show V.heap.size ≤ (V.heap.push _).size; rw [Array.size_push]; omega) hgr3.size, fun k hk hn => (hgr3.block k (by show k < (V.heap.push _).size; rw [Array.size_push]; omega) (fun e => hn (by rw [List.length_map]; exact e))).trans (Below.heap_alloc V.drew _ k hk)⟩
  · rw [hus, List.length_map]
    rcases hat3 with e | e
    · exact .inl e
    · right; omega
end Go.Proofs.YtdbcjiapbehacaaGreatDoor.Vf

/-! The document's file system behind a step. -/
namespace Go.Proofs.YtdbcjiapbehacaaGreatDoor.Vf
open Go.RowKit

theorem flat_set {s : Nat} : ∀ {xs : List (List Value)}, (∀ x ∈ xs, x.length = s) → ∀ {i k : Nat} {cs : List Value} (v : Value), xs[i]? = some cs → k < s → (xs.set i (cs.set k v)).flatten = xs.flatten.set (i * s + k) v
  | [], _, _, _, _, _, h, _ => by simp at h
  | x :: xs, hs, 0, k, cs, v, h, hk => by
    simp at h; subst h
    have hx : x.length = s := hs x (by simp)
    rw [List.set_cons_zero, List.flatten_cons, List.flatten_cons, Nat.zero_mul, Nat.zero_add, List.set_append_left _ _ (by omega)]
  | x :: xs, hs, i + 1, k, cs, v, h, hk => by
    have hx : x.length = s := hs x (by simp)
    rw [List.set_cons_succ, List.flatten_cons, List.flatten_cons, flat_set (fun y hy => hs y (by simp [hy])) v (by simpa using h) hk, List.set_append_right _ _ (by rw [hx, Nat.add_mul]; omega), hx]
    congr 2
    rw [Nat.add_mul]; omega
theorem zip_set {α β γ : Type} (f : α → β → γ) : ∀ (l : List α) (m : List β) (i : Nat) (a : α) (b : β), List.zipWith f (l.set i a) (m.set i b) = (List.zipWith f l m).set i (f a b)
  | [], _, _, _, _ => by simp
  | _ :: _, [], _, _, _ => by simp
  | _ :: l, _ :: m, 0, _, _ => rfl
  | _ :: l, _ :: m, i + 1, a, b => by
    simp only [List.set_cons_succ, List.zipWith_cons_cons, zip_set f l m i a b]
theorem OwnR.blk {w w' : World} {base : Nat} {t : TypeId} {s : Nat} {v : Value} {xs : List (List Value)} (h : OwnR w base t s v xs) (e : ∀ k, v.ownBlock = some k → w'.heap[k]? = w.heap[k]?) : OwnR w' base t s v xs := by
  refine ⟨⟨h.1.1, ?_⟩, h.2⟩
  rcases h.1.2 with h0 | ⟨g, cap, cur, rfl, hb, hg, rest⟩
  · exact .inl h0
  · exact .inr ⟨g, cap, cur, rfl, hb, (e g rfl).trans hg, rest⟩
/-- The block of a row of the call's own, by its type. -/
theorem OwnR.kind {w : World} {base : Nat} {t : TypeId} {s : Nat} {v : Value} {xs : List (List Value)} (h : OwnR w base t s v xs) {k : Nat} (hk : v.ownBlock = some k) : ∃ cur, w.heap[k]? = some (.cells cur t (0, 0)) := by
  rcases h.1.2 with ⟨rfl, _⟩ | ⟨g, cap, cur, rfl, hb, hg, rest⟩
  · cases hk
  · injection hk with hk; subst hk; exact ⟨cur, hg⟩
theorem kind_ne {w : World} {a b : Nat} {x y : Array Value} {t u : TypeId} (h : w.heap[a]? = some (.cells x t (0, 0))) (k : w.heap[b]? = some (.cells y u (0, 0))) (hne : t ≠ u) : a ≠ b := by
  rintro rfl
  rw [h] at k
  injection k with k; injection k with _ k; exact hne k
theorem taken_len (l : List Nm) (x : St) : (takenOf l x).length ≤ l.length + 1 := by
  unfold takenOf
  have := List.length_filter_le (stays x) l
  rw [List.length_append]
  split <;> simp <;> omega
/-- A directory behind a step. -/
def stepD (d : Dr) (x : St) : Dr := { d with names := takenOf d.names x, waits := d.waits ++ [x] }

theorem owns_step {w w' V V2 : World} {p gd cd i : Nat} {fs : Fs} {vf : Value} {dv : List Dv} {d : Dr} {u : Dv} {x : St} {A1 : Option Addr} {c1 g2 cap2 : Nat} (h : Owns w p fs vf gd cd dv) (hd : fs.dirs[i]? = some d) (hu : dv[i]? = some u) (hl : d.names.length ≤ 1000000) (k : StepLeft w gd fs cd i d u x w' V V2 A1 c1 g2 cap2) :
    Owns w' p { fs with dirs := fs.dirs.set i (stepD d x) } vf gd cd (dv.set i ⟨.slice A1 (takenOf d.names x).length c1, u.d, .slice (some ⟨g2, 0, none⟩) (d.waits.length + 1) cap2⟩) := by
  obtain ⟨curD, hkD⟩ := h.sees.dirs.kind
  have hgl : gd < w.heap.size := h.sees.dirs.lt
  have hil := lt_of_get hd
  have hui : i < dv.length := lt_of_get hu
  -- blocks that stay
  have huk : ∀ g, u.s.ownBlock = some g → (∃ cur, w.heap[g]? = some (.cells cur 114 (0, 0))) ∧ g < w.heap.size := fun g hg => ⟨(h.waits i d u hd hu).kind hg, ((h.waits i d u hd hu).lt g hg).2⟩
  have hlast : ∀ g, g ≠ gd → w'.heap[g]? = V2.heap[g]? := fun g hg => by rw [k.last]; exact Below.heap_setCell V2 _ _ g hg
  have hstay : ∀ g, g < w.heap.size → g ≠ gd → u.s.ownBlock ≠ some g → w'.heap[g]? = w.heap[g]? := fun g hg h1 h2 =>
    (hlast g h1).trans ((k.gV2.block g (by have := k.more; omega) (fun e => h2 e.symm)).trans (k.gV.block g hg (by simpa using h1)))
  have hty : ∀ (t : TypeId), t ≠ 62 → t ≠ 114 → ∀ (g : Nat) (cur : Array Value), w.heap[g]? = some (.cells cur t (0, 0)) → w'.heap[g]? = w.heap[g]? := fun t h1 h2 g cur hg =>
    hstay g (by
      rcases Nat.lt_or_ge g w.heap.size with hl | hl
      · exact hl
      · rw [Array.getElem?_eq_none hl] at hg; cases hg) (kind_ne hg hkD h1) (fun e => by
        obtain ⟨⟨cur', hc⟩, _⟩ := huk g e
        exact kind_ne hg hc h2 rfl)
  have hNm : Same 111 w w' := hty _ (by decide) (by decide)
  have hlenZ : (List.zipWith drCells fs.dirs dv).length = fs.dirs.length := h.sees.dirs.len
  have hz4 : ∀ y ∈ List.zipWith drCells fs.dirs dv, y.length = 4 := h.dirs.2
  have hzi : (List.zipWith drCells fs.dirs dv)[i]? = some (drCells d u) := by rw [List.getElem?_zipWith, hd, hu]
  -- the directories' row
  have hdirs : OwnR w' 0 62 4 (.slice (some ⟨gd, 0, none⟩) fs.dirs.length cd) (List.zipWith drCells (fs.dirs.set i (stepD d x)) (dv.set i ⟨.slice A1 (takenOf d.names x).length c1, u.d, .slice (some ⟨g2, 0, none⟩) (d.waits.length + 1) cap2⟩)) := by
    have hd0 := h.dirs.1
    rw [hlenZ] at hd0
    have h1 := World.ownsRow.kept (k.dirs _ hd0) k.gV2 (.inr (fun e => by
      obtain ⟨⟨cur', hc⟩, _⟩ := huk gd e.symm
      exact kind_ne hkD hc (by decide) rfl))
    have h2 := (World.ownsRow.stored h1 (i * 4 + 3) (.slice (some ⟨g2, 0, none⟩) (d.waits.length + 1) cap2)).1
    rw [← k.last] at h2
    rw [zip_set]
    have e0 : drCells (stepD d x) ⟨.slice A1 (takenOf d.names x).length c1, u.d, .slice (some ⟨g2, 0, none⟩) (d.waits.length + 1) cap2⟩ = ((drCells d u).set 1 (.slice A1 (takenOf d.names x).length c1)).set 3 (.slice (some ⟨g2, 0, none⟩) (d.waits.length + 1) cap2) := rfl
    have e1 := flat_set hz4 (i := i) (k := 1) (.slice A1 (takenOf d.names x).length c1) hzi (by decide)
    have hz4' : ∀ y ∈ (List.zipWith drCells fs.dirs dv).set i ((drCells d u).set 1 (.slice A1 (takenOf d.names x).length c1)), y.length = 4 := fun y hy => by
      rcases List.mem_or_eq_of_mem_set hy with hy | rfl
      · exact hz4 y hy
      · rfl
    have e2 := flat_set hz4' (i := i) (k := 3) (.slice (some ⟨g2, 0, none⟩) (d.waits.length + 1) cap2) (by rw [List.getElem?_set_self (by rw [hlenZ]; exact hil)]) (by decide)
    rw [List.set_set] at e2
    refine ⟨?_, fun y hy => ?_⟩
    · rw [List.length_set, hlenZ, e0, e2, e1]; exact h2
    · rcases List.mem_or_eq_of_mem_set hy with hy | rfl
      · exact hz4 y hy
      · rfl
  -- the row of names, the row of waiting steps
  have hnm : Reads w' 111 2 (.slice A1 (takenOf d.names x).length c1) ((takenOf d.names x).map Nm.cells) := by
    refine OwnR.reads (base := w.heap.size) (k.names.blk fun g hg => ?_)
    obtain ⟨cur, hc⟩ := k.names.kind hg
    have hb := (k.names.lt g hg).1
    have h1 : g ≠ gd := by omega
    refine (hlast g h1).trans (k.gV2.block g (k.names.lt g hg).2 (fun e => ?_))
    have := (huk g e.symm).2
    omega
  have hgd2 : g2 ≠ gd := by
    rcases k.place with e | e
    · obtain ⟨⟨cur', hc⟩, _⟩ := huk g2 e
      exact (kind_ne hkD hc (by decide)).symm
    · omega
  have hws : OwnR w' 0 114 3 (.slice (some ⟨g2, 0, none⟩) (d.waits.length + 1) cap2) ((d.waits ++ [x]).map St.cells) := by
    refine OwnR.blk (w := V2) ⟨?_, ?_⟩ fun g hg => ?_
    · have := k.waits
      rw [List.map_append, List.flatten_append, List.length_append, List.length_map]
      simpa using this
    · intro y hy
      obtain ⟨z, _, rfl⟩ := List.mem_map.1 hy
      rfl
    · injection hg with hg; subst hg
      exact hlast _ hgd2
  have hwo : ∀ (j : Nat) (e : Dr) (v : Dv), j ≠ i → fs.dirs[j]? = some e → dv[j]? = some v → OwnR w' 0 114 3 v.s (e.waits.map St.cells) := fun j e v hji he hv => (h.waits j e v he hv).blk fun g hg => by
    obtain ⟨cur, hc⟩ := (h.waits j e v he hv).kind hg
    refine hstay g ((h.waits j e v he hv).lt g hg).2 (kind_ne hc hkD (by decide)) (fun e2 => ?_)
    rcases h.apart j i v u hv hu hji with e3 | e3
    · rw [e3] at hg; cases hg
    · exact e3 (hg.trans e2.symm)
  have hZl : (List.zipWith drCells (fs.dirs.set i (stepD d x)) (dv.set i ⟨.slice A1 (takenOf d.names x).length c1, u.d, .slice (some ⟨g2, 0, none⟩) (d.waits.length + 1) cap2⟩)).length = fs.dirs.length := by
    rw [zip_set, List.length_set, hlenZ]
  have hE : Elems w' 62 4 gd cd fs.dirs.length (List.zipWith drCells (fs.dirs.set i (stepD d x)) (dv.set i ⟨.slice A1 (takenOf d.names x).length c1, u.d, .slice (some ⟨g2, 0, none⟩) (d.waits.length + 1) cap2⟩)) := by
    rcases hdirs.reads with ⟨h0, _⟩ | ⟨g', cap', hv, he⟩
    · rw [h0] at hZl; simp at hZl; omega
    · injection hv with e1 _ e3
      injection e1 with e1; injection e1 with e1 _ _
      subst e1; subst e3
      rw [hZl] at he; exact he
  have hfiles : OwnR w' 0 109 2 vf (fs.files.map Fl.cells) := h.files.blk fun g hg => by
    obtain ⟨cur, hc⟩ := h.files.kind hg
    exact hty _ (by decide) (by decide) g cur hc
  have hsl : (fs.dirs.set i (stepD d x)).length = fs.dirs.length := List.length_set
  refine ⟨⟨?_, hfiles.reads, by rw [List.length_set, hsl]; exact h.sees.many, by rw [hsl]; exact hE, fun j e v he hv => ?_, h.sees.ticks, ⟨by rw [hsl]; exact h.sees.small.1, fun e he => ?_⟩⟩, hfiles, by rw [hsl]; exact hdirs, fun j e v he hv => ?_, fun j m v z hv hz hne => ?_⟩
  · have ht := h.sees.top
    show Hold w' p _ _
    simp only [hsl]
    unfold Hold at ht
    exact Hold.keep ht (hty _ (by decide) (by decide) p _ ht)
  · by_cases hji : j = i
    · subst hji
      rw [List.getElem?_set_self hil] at he
      rw [List.getElem?_set_self hui] at hv
      injection he with he; injection hv with hv
      subst he; subst hv
      exact ⟨hnm, (h.sees.each j d u hd hu).2.1.keep hNm, hws.reads⟩
    · rw [List.getElem?_set_ne (Ne.symm hji)] at he hv
      have hj := h.sees.each j e v he hv
      exact ⟨hj.1.keep hNm, hj.2.1.keep hNm, (hwo j e v hji he hv).reads⟩
  · rcases List.mem_or_eq_of_mem_set he with he | rfl
    · exact h.sees.small.2 e he
    · have := taken_len d.names x
      show (takenOf d.names x).length ≤ _
      omega
  · by_cases hji : j = i
    · subst hji
      rw [List.getElem?_set_self hil] at he
      rw [List.getElem?_set_self hui] at hv
      injection he with he; injection hv with hv
      subst he; subst hv
      exact hws
    · rw [List.getElem?_set_ne (Ne.symm hji)] at he hv
      exact hwo j e v hji he hv
  · have hother : ∀ (j : Nat) (v : Dv), j ≠ i → dv[j]? = some v → v.s.ownBlock ≠ some g2 := by
      intro j v hji hv e
      have hjl : j < fs.dirs.length := by rw [← h.sees.many]; exact lt_of_get hv
      have hlt := ((h.waits j fs.dirs[j] v (List.getElem?_eq_getElem hjl) hv).lt g2 e).2
      rcases k.place with e2 | e2
      · rcases h.apart j i v u hv hu hji with e3 | e3
        · rw [e3] at e; cases e
        · exact e3 (e.trans e2.symm)
      · omega
    by_cases hji : j = i
    · subst hji
      rw [List.getElem?_set_self hui] at hv
      injection hv with hv; subst hv
      rw [List.getElem?_set_ne hne] at hz
      exact .inr (fun e => hother m z (Ne.symm hne) hz e.symm)
    · rw [List.getElem?_set_ne (Ne.symm hji)] at hv
      by_cases hmi : m = i
      · subst hmi
        rw [List.getElem?_set_self hui] at hz
        injection hz with hz; subst hz
        exact .inr (fun e => hother j v hji hv e)
      · rw [List.getElem?_set_ne (Ne.symm hmi)] at hz
        exact h.apart j m v z hv hz hne

/-- The blocks that a file system writes. -/
def Foot (p gd : Nat) (vf : Value) (dv : List Dv) (g : Nat) : Prop := g = p ∨ g = gd ∨ vf.ownBlock = some g ∨ ∃ v ∈ dv, v.s.ownBlock = some g
/-- What stands behind: all other blocks; what it writes then: those, or new ones. -/
structure Moves (w w' : World) (F F' : Nat → Prop) : Prop where
  os : w'.os = w.os
  tape : w'.tape = w.tape
  output : w'.output = w.output
  size : w.heap.size ≤ w'.heap.size
  stay : ∀ g, g < w.heap.size → ¬ F g → w'.heap[g]? = w.heap[g]?
  new : ∀ g, F' g → F g ∨ w.heap.size ≤ g
theorem Moves.refl (w : World) (F : Nat → Prop) : Moves w w F F := ⟨rfl, rfl, rfl, Nat.le_refl _, fun _ _ _ => rfl, fun _ h => .inl h⟩
theorem Moves.trans {a b c : World} {F G H : Nat → Prop} (h : Moves a b F G) (k : Moves b c G H) : Moves a c F H :=
  ⟨k.os.trans h.os, k.tape.trans h.tape, k.output.trans h.output, Nat.le_trans h.size k.size, fun g hg hn => (k.stay g (Nat.lt_of_lt_of_le hg h.size) (fun hG => by
    rcases h.new g hG with e | e
    · exact hn e
    · omega)).trans (h.stay g hg hn), fun g hg => by
    rcases k.new g hg with e | e
    · exact h.new g e
    · exact .inr (Nat.le_trans h.size e)⟩
theorem Moves.of_gb {w w' : World} {p gd : Nat} {vf : Value} {dv : List Dv} (h : w.grownBy w' (some p)) : Moves w w' (Foot p gd vf dv) (Foot p gd vf dv) :=
  ⟨h.os, h.tape, h.output, h.size, fun g hg hn => h.block g hg (fun e => by injection e with e; exact hn (.inl e)), fun _ h => .inl h⟩
theorem moves_step {w w' V V2 : World} {p gd cd i : Nat} {fs : Fs} {vf : Value} {dv : List Dv} {d : Dr} {u : Dv} {x : St} {A1 : Option Addr} {c1 g2 cap2 : Nat} (hu : dv[i]? = some u) (k : StepLeft w gd fs cd i d u x w' V V2 A1 c1 g2 cap2) :
    Moves w w' (Foot p gd vf dv) (Foot p gd vf (dv.set i ⟨.slice A1 (takenOf d.names x).length c1, u.d, .slice (some ⟨g2, 0, none⟩) (d.waits.length + 1) cap2⟩)) := by
  have hum := List.mem_of_getElem? hu
  refine ⟨?_, ?_, ?_, ?_, fun g hg hn => ?_, fun g hg => ?_⟩
  · rw [k.last]; exact k.gV2.os.trans k.gV.os
  · rw [k.last]; exact k.gV2.tape.trans k.gV.tape
  · rw [k.last]; exact k.gV2.output.trans k.gV.output
  · rw [k.last]; simp only [World.setCell, Array.size_modify]; exact Nat.le_trans k.gV.size k.gV2.size
  · have h1 : g ≠ gd := fun e => hn (.inr (.inl e))
    rw [k.last]
    refine (Below.heap_setCell V2 _ _ g h1).trans ((k.gV2.block g (by have := k.more; omega) (fun e => hn (.inr (.inr (.inr ⟨u, hum, e.symm⟩))))).trans (k.gV.block g hg (by simpa using h1)))
  · rcases hg with e | e | e | ⟨v, hv, e⟩
    · exact .inl (.inl e)
    · exact .inl (.inr (.inl e))
    · exact .inl (.inr (.inr (.inl e)))
    · rcases List.mem_or_eq_of_mem_set hv with hv | rfl
      · exact .inl (.inr (.inr (.inr ⟨v, hv, e⟩)))
      · injection e with e
        have e2 : g2 = g := e
        subst e2
        rcases k.place with e3 | e3
        · exact .inl (.inr (.inr (.inr ⟨u, hum, e3⟩)))
        · exact .inr e3
theorem step_any (p gd cd : Nat) (fs : Fs) (vf : Value) (dv : List Dv) (i : Nat) (d : Dr) (x : St) (w : World) (h : Owns w p fs vf gd cd dv) (hd : fs.dirs[i]? = some d) (hl : d.names.length ≤ 1000000) (hlw : d.waits.length ≤ 1000000) :
    Calls Tryz.prog 64 #[.pointer (some ⟨p, 0, none⟩), .int .i64 i, stVal x] w fun e w' => (∃ r, e = .returned r) ∧ ∃ dv', Owns w' p { fs with dirs := fs.dirs.set i (stepD d x) } vf gd cd dv' ∧ Moves w w' (Foot p gd vf dv) (Foot p gd vf dv') := by
  have hil : i < dv.length := by rw [h.sees.many]; exact lt_of_get hd
  have hu : dv[i]? = some dv[i] := List.getElem?_eq_getElem hil
  refine (step_walk p gd cd fs vf dv i d dv[i] x w h hd hu hl hlw).mono ?_
  rintro e w' ⟨hr, V, V2, A1, c1, g2, cap2, k⟩
  exact ⟨hr, _, owns_step h hd hu hl k, moves_step hu k⟩
end Go.Proofs.YtdbcjiapbehacaaGreatDoor.Vf
