/-
  Layer 5: VpKeys VpCollect VpOrder VpPlaces VpPick, one behind the other.
-/
import Derived.Test.YtdbcjiapbehacaaGreatDoorVpD
import Derived.Test.YtdbcjiapbehacaaGreatDoorVpB
import Derived.Sort.MapsRangeIn
import Derived.RangeFuncSeq
import Derived.RangeFuncGives
import Derived.Sort.LotA
import Derived.Shelf.SlSortCmp.Insertion
import Derived.Lib.Bytealg
import Derived.Test.YtdbcjiapbehacaaGreatDoorLays
import Derived.Shelf.SlSortCmp.QuietGrown
/-! Layer 5: where the names stand, collected. -/
namespace Go.Proofs.YtdbcjiapbehacaaGreatDoor.Vp
open Go.RowKit Go.Maps Go.Shelf Go.MapKept Go.WideShapes
open Go.Proofs.YtdbcjiapbehacaaGreatDoor.Vf (Hold OwnR Moves ret_int new_cells OwnR.nil)
attribute [local go_sem] Oper.semAt_some

section
variable {α β : Type} {P : Program} {k : TypeId} {mk : α → Value} {mv : β → Value} {ok : α → Prop} {w w' : World} {b r : Nat} {l todo : List (α × β)}
theorem RangeL.of_walks (h : RangeL P k mk mv ok w b r l todo) (hk : KeepsWalks w w') : RangeL P k mk mv ok w' b r l todo ∧ w'.rangeLeft b r = w.rangeLeft b r := by
  obtain ⟨left, cnt, h1, h2⟩ := h.rg
  have h3 := h1.of_walks hk
  obtain ⟨es, clock, hb⟩ := h.mp.kind
  exact ⟨⟨h.mp.same ((hk.same b _ hb rfl).trans hb.symm), ⟨left, cnt, h3, h2⟩, h.sub, h.apart⟩, by rw [h3.left_eq, h1.left_eq]⟩
theorem RangeL.iter_walk (h : RangeL P k mk mv ok w b r l todo) : ∃ o : Obj, w.heap[r]? = some o ∧ o.isWalk = true := by
  obtain ⟨_, _, h1, _⟩ := h.rg; exact h1.iter_walk
variable (L : Laid P k ok mk) {t e : TypeId} {ops : Array Oper} {rest : List Oper} {o : Oper} {a : Act} {Q : Exit → Act → World → Prop} {F : Fence} {n : Nat}
include L
theorem wpListIn_range_l (ht : P.underlying t = some (.map k e)) (hg : o.guard = none) (m : Operand) (hop : o.op = Op.range t m) (h : MapL P k mk mv ok w b l) (hm : a.eval m = .map (some b))
    (hK : ∀ w', RangeL P k mk mv ok w' b w.heap.size l l → w.grownBy w' none → w'.heap.size = w.heap.size + 1 → wpListIn F n P ops Q rest (a.put o.dst (.pointer (some ⟨w.heap.size, 0, none⟩))) w') : wpListIn F n P ops Q (o :: rest) a w :=
  wpListIn_range_own w hg m t hop k e L.law ht asIs b l.length (dat P k mk mv l) hm h.own fun w' h1 h2 h3 => hK w' (range_start L h h1 h2) h2 h3
theorem wpListIn_next_l [DecidableEq α] (hg : o.guard = none) (it : Operand) (hop : o.op = Op.next it false) (h : RangeL P k mk mv ok w b r l todo) (hit : a.eval it = .pointer (some ⟨r, 0, none⟩))
    (hDone : todo = [] → wpListIn F n P ops Q rest (a.put o.dst (.tuple #[.bool false])) w)
    (hMore : ∀ (x : α) (v : β) (todo' : List (α × β)) (w' : World), todo.Perm ((x, v) :: todo') → RangeL P k mk mv ok w' b r l todo' → w'.rangeLeft b r < w.rangeLeft b r → w.grownBy w' (some r) → w'.heap.size = w.heap.size →
      (Instr.entry (.pointer (some ⟨r, 0, none⟩))).run P w' = .ok (.tuple #[mk x, mv v]) w' → wpListIn F n P ops Q rest (a.put o.dst (.tuple #[.bool true, mk x, mv v])) w') : wpListIn F n P ops Q (o :: rest) a w := by
  obtain ⟨left, cnt, hr, hl1, hl2⟩ := h.rg
  refine wpListIn_next_ranges w hg it hop k L.law asIs (id : Value → Value) (id : Value → Value) (fun key _ _ => ⟨key, rfl⟩) (fun v _ _ => ⟨v, rfl⟩) b r l.length _ left cnt hit hr (fun _ hl => hDone ?_) ?_
  · cases htd : todo with
    | nil => rfl
    | cons p q =>
      have hp : p ∈ todo := by rw [htd]; simp
      have := (hl1 p (h.sub p hp)).2 hp
      rw [hl] at this; cases this
  · intro key c kl y w' cnt' hkey hlk hv hat hrg hlt hgr hsz hen
    obtain ⟨p, hp, hpk⟩ := hl2 kl hlk
    have hgp := h.mp.good p hp
    have e1 : key = mk p.1 := L.law.inj hkey (by rw [L.key p.1 hgp, hpk])
    have hD := hat (.held c)
    rw [← hpk, dat_at L h.mp.good h.mp.apart hgp, look_of_mem h.mp.apart (v := p.2) hp] at hD
    have e2 : c = mv p.2 := by
      have hy : (DataW.held c, ([] : List MemPlace)) = y := by simpa [asIs] using hv
      rw [← hy] at hD
      simpa using hD.symm
    subst e1; subst e2
    have hpt : p ∈ todo := (hl1 p hp).1 (by rw [hpk]; exact hlk)
    have hperm : todo.Perm ((p.1, p.2) :: strike todo p.1) := by
      have : ∀ {td : List (α × β)}, td.Pairwise (fun p q => p.1 ≠ q.1) → p ∈ td → td.Perm (p :: strike td p.1) := by
        intro td
        induction td with
        | nil => intro _ hm; cases hm
        | cons x td ih =>
          intro hd hm
          obtain ⟨h1, h2⟩ := List.pairwise_cons.1 hd
          by_cases hx : x.1 = p.1
          · have hxp : x = p := by
              rcases List.mem_cons.1 hm with e | hm
              · exact e.symm
              · exact absurd hx (h1 p hm)
            subst hxp
            have hn : look td x.1 = none := look_none.2 fun q hq => (h1 q hq).symm
            have : strike (x :: td) x.1 = td := by
              have e := strike_none hn
              unfold strike at e ⊢
              rw [List.filter_cons]; simp [e]
            rw [this]
          · have hmt : p ∈ td := by
              rcases List.mem_cons.1 hm with e | hm
              · rw [e] at hx; exact absurd rfl hx
              · exact hm
            have e : strike (x :: td) p.1 = x :: strike td p.1 := by unfold strike; rw [List.filter_cons]; simp [hx]
            rw [e]
            exact ((ih h2 hmt).cons x).trans (List.Perm.swap p x _)
      exact this h.apart hpt
    refine hMore p.1 p.2 (strike todo p.1) w' hperm ⟨h.mp.kept hgr (by simpa using h.ne.symm), ⟨_, cnt', hrg, fun q hq => ?_, fun kl' hkl' => ?_⟩, fun q hq => h.sub q (mem_strike.1 hq).1, strike_apart h.apart _⟩ (by rw [hrg.left_eq, hr.left_eq]; exact hlt) hgr hsz hen
    · rw [mem_strike]
      have hkq := L.law.key (L.key q.1 (h.mp.good q hq))
      simp only [Bool.and_eq_true, Bool.not_eq_true']
      constructor
      · rintro ⟨h1, h2⟩
        refine ⟨(hl1 q hq).1 h1, fun e => ?_⟩
        rw [e, hpk] at h2
        rw [← hpk, WideAt.sameKey_self (L.law.key (L.key p.1 hgp))] at h2; cases h2
      · rintro ⟨h1, h2⟩
        refine ⟨(hl1 q hq).2 h1, ?_⟩
        cases hs : (lit P k (mk q.1)).sameKey kl with
        | false => rfl
        | true =>
          have := WideAt.sameKey_eq hs
          rw [← hpk] at this
          exact absurd (lit_inj L (h.mp.good q hq) hgp this) h2
    · simp only [Bool.and_eq_true] at hkl'
      exact hl2 kl' hkl'.1
end

/-! ### The iterator over the names -/
def plcCells (x : Plc) : List Value := [.string x.d, .string x.n]
set_option maxRecDepth 100000 in
set_option maxHeartbeats 2000000 in
theorem keysP_walk (l : Loc) (b Bm lp n : Nat) (hn : 1 ≤ n) (ns : List (Plc × Nat)) (J : List Plc → World → Prop)
    (hY : ∀ (pre : List Plc) (x : Plc) (W : World), J pre W → pre.length < ns.length → YieldAt Fence.wide (n - 1) Tryz.prog lp #[.agg #[.string x.d, .string x.n]] W fun e W' => e = .returned (.bool true) ∧ J (pre ++ [x]) W' ∧ KeepsWalks W W')
    (W : World) (hJ : AbidesFrom W.heap.size J) (hm : W.cell? ⟨Bm, 0, none⟩ = some (.map (some b))) (hns : NamesAt W l b ns) (h0 : J [] W) :
    CallsIn Fence.wide n Tryz.prog 96 #[.func (.yield lp) #[] #[], .pointer (some ⟨Bm, 0, none⟩)] W fun e W' => (∃ v, e = .returned v) ∧ ∃ ks : List Plc, ks.Perm (ns.map (·.1)) ∧ J ks W' := by
  refine callsIn_of_wp Tryz.func96 rfl trivial ?_ rfl
  simp only [Tryz.ntmps96, List.size_toArray, List.length_cons, List.length_nil, Nat.reduceAdd, Nat.reduceSub, Array.replicate_succ, Array.replicate_zero, List.push_toArray, List.append_toArray, List.nil_append, List.cons_append]
  have HNS := Lib.hid hns; have HJ := Lib.hid hJ; have H0 := Lib.hid h0; have HYY := Lib.hid hY
  clear hns hJ h0 hY
  gi_wp2_with (first
    | (gi_at_range; refine wpListIn_range_l plc_laid Tryz.underlying56 rfl _ rfl HNS.out rfl ?_; intro w0 hrg0 hg0 hs0; have HR0 := Lib.hid hrg0; have HG0 := Lib.hid hg0; clear hrg0 hg0 hs0)
    | gi_in)
  go_frame
  gi_loopw [3] (fun _ wr => ∃ (todo : List (Plc × Nat)) (ks : List Plc), RangeL Tryz.prog 79 mkPlc (pv l) okP wr b W.heap.size ns todo ∧ (ns.map (·.1)).Perm (ks ++ todo.map (·.1)) ∧ J ks wr) (fun _ wr => wr.rangeLeft b W.heap.size)
  case atStart => exact ⟨ns, [], HR0.out, by simp, HJ.out [] W _ none H0.out HG0.out (fun r e => by cases e)⟩
  case round =>
    obtain ⟨todo, ks, hrg, hp, hj⟩ := hrel
    have HRG := Lib.hid hrg; have HP := Lib.hid hp; have HJS := Lib.hid hj
    clear hrg hp hj
    gi_wp2_with (first
      | (gi_at_next; refine wpListIn_next_l plc_laid rfl _ rfl HRG.out rfl ?_ ?_)
      | gi_in)
    · intro htd
      have hpp := HP.out
      rw [htd] at hpp
      have HPP := Lib.hid hpp
      clear htd hpp
      gi_wp2
      go_end0
      exact ⟨⟨_, rfl⟩, ks, by simpa using HPP.out.symm, HJS.out⟩
    · intro x i todo' w2 hperm hrg2 hlt hg2 hs2 hen
      have hJ2 : J ks w2 := HJ.out ks wr w2 (some W.heap.size) HJS.out hg2 (fun r e => by cases e; exact ⟨Nat.le_refl _, HRG.out.iter_walk⟩)
      have hJ3 : J ks (w2.alloc (.cells #[.string x.d, .string x.n] 79)) := HJ.out ks w2 _ none hJ2 (World.grownBy_alloc _ _ _) (fun r e => by cases e)
      have hlen : ks.length < ns.length := by
        have h1 := HP.out.length_eq
        have h2 := hperm.length_eq
        simp at h1 h2; omega
      have hrg3 := hrg2.kept (World.grownBy_alloc w2 (.cells #[.string x.d, .string x.n] 79) none) (by simp) (by simp)
      have hlt3 : (w2.alloc (.cells #[.string x.d, .string x.n] 79)).rangeLeft b W.heap.size = w2.rangeLeft b W.heap.size := by
        obtain ⟨_, cnt, h1, _⟩ := hrg2.rg
        rw [(h1.kept (World.grownBy_alloc w2 (.cells #[.string x.d, .string x.n] 79) none) (by simp) (by simp)).left_eq, h1.left_eq]
      obtain ⟨fn, tmps, assign, body, hy, hR⟩ := HYY.out ks x _ hJ3 hlen
      have HR := Lib.hid hR; have HRG3 := Lib.hid hrg3; have HL := Lib.hid hlt; have HL3 := Lib.hid hlt3; have HPM := Lib.hid hperm
      unfold mkPlc at hen
      clear hs2 hJ2 hJ3 hrg2 hrg3 hlt hlt3 hg2 hR hlen hperm
      gi_wp2
      refine HR.out.mono ?_
      rintro e W3 ⟨rfl, hJ3, hk3⟩
      obtain ⟨h4, h5⟩ := HRG3.out.of_walks hk3
      have H4 := Lib.hid h4; have H5 := Lib.hid h5; have HJ3 := Lib.hid hJ3
      clear h4 h5 hJ3 hk3
      gi_wp2
      go_roundw
      case rel => exact ⟨todo', ks ++ [x], H4.out, HP.out.trans (by
        have := (HPM.out.map (·.1)).append_left ks
        simpa using this), HJ3.out⟩
      case measure => rw [H5.out, HL3.out]; exact HL.out
end Go.Proofs.YtdbcjiapbehacaaGreatDoor.Vp

/-! Layer 5: the names' places as a slice of the call's own, in whichever order. -/
namespace Go.Proofs.YtdbcjiapbehacaaGreatDoor.Vp
open Go.RowKit Go.Maps Go.Shelf
open Go.Proofs.YtdbcjiapbehacaaGreatDoor.Vf (Hold OwnR Moves ret_int new_cells OwnR.nil OwnR.kind OwnR.lt OwnR.kept OwnR.blk OwnR.alloc)
attribute [local go_sem] Oper.semAt_some

theorem plc_info : (Tryz.prog.info? 79).map (fun i => (i.zero, i.size, i.bytes)) = some (some (.agg #[.string ⟨#[]⟩, .string ⟨#[]⟩]), 2, 32) := by kernel_rfl
/-- Between two rounds: the box holds what has come so far. -/
structure Ap (w : World) (B : Nat) (rec : LoopState → Option Code → Loop) (ks : List Plc) (W : World) : Prop where
  box : ∃ v, W.heap[B]? = some (.cells #[v] 98 (0, 0)) ∧ OwnR W B 79 2 v (ks.map plcCells)
  D : W.heap[B + 1]? = some (.deferred (some []))
  L : W.heap[B + 2]? = some (.loop (rec .ready none))
  below : Below B w W
theorem Ap.abides {w : World} {B : Nat} {rec : LoopState → Option Code → Loop} {C : Nat} (hC : B ≤ C) : AbidesFrom C (Ap w B rec) := by
  intro ks W W' row h hg hr
  have hrow : ∀ r, row = some r → ∃ o : Obj, W.heap[r]? = some o ∧ o.isWalk = true := fun r e => (hr r e).2
  obtain ⟨v, hv, ho⟩ := h.box
  refine ⟨⟨v, (grownBy_keeps hg hrow hv rfl).trans hv, ho.blk fun g hgb => ?_⟩, (grownBy_keeps hg hrow h.D rfl).trans h.D, (grownBy_keeps hg hrow h.L rfl).trans h.L, h.below.grown hg (by have := (Array.getElem?_eq_some_iff.1 h.D).1; omega) fun r e => Nat.le_trans hC (hr r e).1⟩
  obtain ⟨cur, hc⟩ := ho.kind hgb
  exact grownBy_keeps hg hrow hc rfl
structure ApEnd (w : World) (B : Nat) (ks : List Plc) (W : World) : Prop where
  box : ∃ v, W.heap[B]? = some (.cells #[v] 98 (0, 0)) ∧ OwnR W B 79 2 v (ks.map plcCells)
  D : W.heap[B + 1]? = some (.deferred (some []))
  below : Below B w W
/-- A block that is none of a row's elements. -/
theorem own_off {W : World} {base : Nat} {v : Value} {xs : List (List Value)} (h : OwnR W base 79 2 v xs) {j : Nat} {o : Obj} (hj : W.heap[j]? = some o) (hno : ∀ cur, o ≠ .cells cur 79 (0, 0)) : v.ownBlock ≠ some j := by
  intro e
  obtain ⟨cur, hc⟩ := h.kind e
  rw [hj] at hc
  injection hc with hc
  exact hno cur hc
theorem apEnd_put {w W : World} {B : Nat} {ks : List Plc} {o o' : Obj} (hv : ∃ v, W.heap[B]? = some (.cells #[v] 98 (0, 0)) ∧ OwnR W B 79 2 v (ks.map plcCells)) (hD : W.heap[B + 1]? = some (.deferred (some []))) (hL : W.heap[B + 2]? = some o) (hno : ∀ cur, o ≠ .cells cur 79 (0, 0)) (hb : Below B w W) : ApEnd w B ks (W.putObj (B + 2) o') := by
  obtain ⟨v, hv, ho⟩ := hv
  exact ⟨⟨v, (World.putObj_heap_other (by omega)).trans hv, ho.blk fun g hgb => World.putObj_heap_other fun e => own_off ho hL hno (by rw [hgb, e])⟩, (World.putObj_heap_other (by omega)).trans hD, hb.grown (grownBy_putObj' _ _ _) (by have := (Array.getElem?_eq_some_iff.1 hD).1; omega) (fun k e => by cases e; omega)⟩
def recK (fn : FuncId) (tmps : Array Value) (assign body : Code) (D : Nat) (st : LoopState) (pe : Option Code) : Loop := { state := st, pending := pe, fn, tmps, params := #[7], assign, body, defers := D }
theorem wpIn_keys (w : World) (B : Nat) (hB : w.heap.size = B) (l : Loc) (b Bm : Nat) (ns : List (Plc × Nat)) (hBm : Bm < B) (hm : w.cell? ⟨Bm, 0, none⟩ = some (.map (some b))) (hns : NamesAt w l b ns) {g : Operand} {assign body : Code} {Q : Exit → Act → World → Prop} {a : Act}
    (hg : a.eval g = .func (.func 96) #[] #[.pointer (some ⟨Bm, 0, none⟩)])
    (hround : ∀ (fn : FuncId) (rec : LoopState → Option Code → Loop), (rec .ready none).state = .ready → (∀ st pe, { rec .ready none with state := st, pending := pe } = rec st pe) → ∀ (pre : List Plc) (x : Plc) (W : World), Ap w B rec pre W → pre.length < ns.length → RoundIn Fence.wide 4 Tryz.prog (B + 2) fn (a.tmps.setIfInBounds 7 (.agg #[.string x.d, .string x.n])) assign body W fun e W' =>
      e = .returned (.bool true) ∧ Ap w B rec (pre ++ [x]) W' ∧ KeepsWalks W W')
    (hdone : ∀ ks : List Plc, ks.Perm (ns.map (·.1)) → ∀ W, ApEnd w B ks W → Q .normal { a with defers := { target := .collected (B + 1), args := #[] } :: a.defers } W) :
    (Code.rangeFunc g #[7] assign body).wpIn Fence.wide 6 Tryz.prog Q a (w.alloc (.cells #[.slice none 0 0] 98)) := by
  obtain ⟨W0, hW0⟩ : ∃ W0, w.alloc (.cells #[.slice none 0 0] 98) = W0 := ⟨_, rfl⟩
  have hs0 : W0.heap.size = B + 1 := by rw [← hW0, ← hB]; simp
  have hv0 : W0.heap[B]? = some (.cells #[.slice none 0 0] 98 (0, 0)) := by rw [← hW0, ← hB]; exact World.alloc_heap_new w _
  have hb0 : Below B w W0 := by rw [← hW0, ← hB]; exact (Below.refl _ w).alloc (Nat.le_refl _) _
  rw [hW0]
  refine wpIn_rangeFunc ?_
  intro fn hfn
  obtain ⟨W1, hW1⟩ : ∃ W1, (W0.alloc (.deferred (some []))).alloc (.loop (recK fn a.tmps assign body (B + 1) .ready none)) = W1 := ⟨_, rfl⟩
  have hold : ∀ k, k < B + 1 → W1.heap[k]? = W0.heap[k]? := fun k hk => by rw [← hW1]; exact (Below.heap_alloc _ _ k (by simp; omega)).trans (Below.heap_alloc _ _ k (by omega))
  have hb1 : Below B w W1 := by rw [← hW1]; exact (hb0.alloc (by omega) _).alloc (by simp; omega) _
  have hst : Ap w B (recK fn a.tmps assign body (B + 1)) [] W1 := by
    refine ⟨⟨_, (hold B (by omega)).trans hv0, OwnR.nil _ _ _ _⟩, ?_, ?_, hb1⟩
    · rw [← hW1]
      have := World.alloc_heap_new W0 (.deferred (some []))
      rw [hs0] at this
      exact (Below.heap_alloc _ _ _ (by simp; omega)).trans this
    · rw [← hW1]
      have := World.alloc_heap_new (W0.alloc (.deferred (some []))) (.loop (recK fn a.tmps assign body (B + 1) .ready none))
      rwa [World.size_alloc, hs0] at this
  refine ⟨B + 2, [{ target := .collected (B + 1), args := #[] }], W1, { target := .fn (.func 96) #[.pointer (some ⟨Bm, 0, none⟩)], args := #[.func (.yield (B + 2)) #[] #[]] }, W1, 96,
    #[.func (.yield (B + 2)) #[] #[], .pointer (some ⟨Bm, 0, none⟩)], W1, ?_, ?_, fun _ _ => trivial, ?_, fun _ => by omega, ?_⟩
  · have := run_enterLoop_outer (P := Tryz.prog) (w := W0) fn a.tmps #[7] assign body
    rw [hs0] at this
    rw [← hW1]
    exact this
  · simp only [resolve, hg]
    simp [go_sem]
  · have eg : ∀ args w, (callFunc 96 args).run Tryz.prog w = .ok (.enter 96 args) w := enters_of Tryz.func96 (by kernel_rfl) rfl
    simp [invoke, go_sem, eg]
  · have hbl := hns.lt
    refine (keysP_walk l b Bm (B + 2) 5 (by omega) ns (Ap w B (recK fn a.tmps assign body (B + 1))) (fun pre x W h hl => ?_) W1 (Ap.abides (by rw [← hB]; exact hb1.size)) ((hb1.cell (p := ⟨Bm, 0, none⟩) hBm).trans hm) (hns.same (hb1.block b (by omega))) hst).mono ?_
    · refine ⟨fn, a.tmps.setIfInBounds 7 (.agg #[.string x.d, .string x.n]), assign, body, ?_, hround fn _ rfl (fun _ _ => rfl) pre x W h hl⟩
      have hy := run_yield (P := Tryz.prog) (args := #[.agg #[.string x.d, .string x.n]]) h.L rfl
      simpa [recK] using hy
    · rintro e W2 ⟨⟨v, rfl⟩, ks, hp, h2⟩
      exact ⟨none, _, run_endLoop h2.L (by simp [recK]), hdone ks hp _ (apEnd_put h2.box h2.D h2.L (fun cur e => by cases e) h2.below)⟩

set_option maxRecDepth 100000 in
set_option maxHeartbeats 4000000 in
theorem appendSeq_any (l : Loc) (b Bm : Nat) (ns : List (Plc × Nat)) (w : World) (hBm : Bm < w.heap.size) (hm : w.cell? ⟨Bm, 0, none⟩ = some (.map (some b))) (hns : NamesAt w l b ns) (hlen : ns.length ≤ 1000000) :
    Calls Tryz.prog 95 #[.slice none 0 0, .func (.func 96) #[] #[.pointer (some ⟨Bm, 0, none⟩)]] w fun e w' => ∃ (v : Value) (ks : List Plc), e = .returned v ∧ ks.Perm (ns.map (·.1)) ∧ OwnR w' w.heap.size 79 2 v (ks.map plcCells) ∧ Below w.heap.size w w' := by
  refine (callsIn_wide (n := 6)).1 ?_
  refine callsIn_of_wp_marks Tryz.func95 rfl trivial ?_ rfl
  simp only [Tryz.ntmps95, List.size_toArray, List.length_cons, List.length_nil, Nat.reduceAdd, Nat.reduceSub, Array.replicate_succ, Array.replicate_zero, List.push_toArray, List.append_toArray, List.nil_append, List.cons_append]
  gi_wp2
  obtain ⟨B, hB⟩ : ∃ B, w.heap.size = B := ⟨_, rfl⟩
  rw [hB] at hBm ⊢
  refine wpIn_keys w B hB l b Bm ns hBm hm hns rfl ?round ?done
  case round =>
    intro fn rec hst0 hrec pre x W hst hpl
    have hBl : B + 2 < W.heap.size := (Array.getElem?_eq_some_iff.1 hst.L).1
    obtain ⟨Wx, hWx⟩ : ∃ Wx, W.alloc (.cells #[.string x.d, .string x.n] 79) = Wx := ⟨_, rfl⟩
    obtain ⟨X, hX⟩ : ∃ X, W.heap.size = X := ⟨_, rfl⟩
    have hkx : ∀ k, k < X → Wx.heap[k]? = W.heap[k]? := fun k hk => by rw [← hWx]; exact Below.heap_alloc _ _ k (by omega)
    have hsx : Wx.heap.size = X + 1 := by rw [← hWx, ← hX]; simp
    have hx0 : Wx.cell? ⟨X, 0, none⟩ = some (.string x.d) := by rw [← hWx, ← hX]; simp
    have hx1 : Wx.cell? ⟨X, 1, none⟩ = some (.string x.n) := by rw [← hWx, ← hX]; simp
    have hLx : Wx.heap[B + 2]? = some (.loop (rec .ready none)) := (hkx _ (by omega)).trans hst.L
    have hbr := run_beginRound (P := Tryz.prog) hLx hst0
    obtain ⟨W2, hW2⟩ : ∃ W2, Wx.putObj (B + 2) (.loop { rec .ready none with state := .busy }) = W2 := ⟨_, rfl⟩
    rw [hW2] at hbr
    obtain ⟨v, hv, hrow⟩ := hst.box
    have hL2 : W2.heap[B + 2]? = some (.loop { rec .ready none with state := .busy }) := by rw [← hW2]; exact World.putObj_heap_same (by omega)
    have hky : ∀ k, k ≠ B + 2 → W2.heap[k]? = Wx.heap[k]? := fun k hk => by rw [← hW2]; exact World.putObj_heap_other hk
    have hk2 : ∀ k, k < X → k ≠ B + 2 → W2.heap[k]? = W.heap[k]? := fun k hl hk => (hky k hk).trans (hkx k hl)
    have hy0 := (World.cell?_of_block (a := ⟨X, 0, none⟩) (hky X (by omega))).trans hx0
    have hy1 := (World.cell?_of_block (a := ⟨X, 1, none⟩) (hky X (by omega))).trans hx1
    have hs2 : W2.heap.size = X + 1 := by rw [← hW2]; simpa using hsx
    have hkw2 : KeepsWalks W W2 := by rw [← hW2, ← hWx]; exact (KeepsWalks.alloc _ _).trans (KeepsWalks.putObj _ (by rw [hWx]; exact hLx) rfl)
    have hb2 : Below B w W2 := by rw [← hW2, ← hWx]; exact (hst.below.alloc (by omega) _).grown (grownBy_putObj' _ _ _) (by simp; omega) (fun k e => by cases e; omega)
    have hv2 := (hk2 B (by omega) (by omega)).trans hv
    have hD2 := (hk2 (B + 1) (by omega) (by omega)).trans hst.D
    have hrow2 : OwnR W2 B 79 2 v (pre.map plcCells) := hrow.blk fun g hgb => hk2 g (by have := (hrow.lt g hgb).2; omega) fun e => own_off hrow hst.L (fun cur e => by cases e) (by rw [hgb, e])
    obtain ⟨hc2, hf2⟩ := box_cell hv2
    obtain ⟨i0, hi, hz0, hz1, hz2⟩ := info_parts plc_info
    have HROW := Lib.hid hrow2; have HV := Lib.hid hv2; have HD := Lib.hid hD2; have HL := Lib.hid hL2; have HKW := Lib.hid hkw2; have HB2 := Lib.hid hb2
    have hBlt : B < W2.heap.size := by omega
    have hgo : Hid (∀ (w3 : World) (g' cap' : Nat), OwnR w3 B 79 2 (.slice (some ⟨g', 0, none⟩) (pre.length + 1) cap') ((pre ++ [x]).map plcCells) → (W2.alloc (.cells #[.string x.d, .string x.n] 79)).grownBy w3 v.ownBlock →
        ∃ v w', (Instr.endRound (B + 2) none).run Tryz.prog (w3.setCell ⟨B, 0, none⟩ (.slice (some ⟨g', 0, none⟩) (pre.length + 1) cap')) = .ok v w' ∧ Ending.returned v = .returned (.bool true) ∧ Ap w B rec (pre ++ [x]) w' ∧ KeepsWalks W w') := by
      intro w3 g' cap' hown hg3
      have hgs : W2.heap.size + 1 ≤ w3.heap.size := by have := hg3.size; simpa using this
      have hne : ∀ {j : Nat} {o : Obj}, W2.heap[j]? = some o → (∀ cur, o ≠ .cells cur 79 (0, 0)) → w3.heap[j]? = some o := fun {j o} hj hno => by
        have hjl := (Array.getElem?_eq_some_iff.1 hj).1
        rw [hg3.block j (by simp; omega) (fun e => own_off HROW.out hj hno e.symm), Below.heap_alloc _ _ j hjl]; exact hj
      have hv3 := hne HV.out (fun cur e => by cases e)
      have hD3 := hne HD.out (fun cur e => by cases e)
      have hL3 := hne HL.out (fun cur e => by cases e)
      obtain ⟨w4, hw4⟩ : ∃ w4, w3.setCell ⟨B, 0, none⟩ (.slice (some ⟨g', 0, none⟩) (pre.length + 1) cap') = w4 := ⟨_, rfl⟩
      rw [hw4]
      have hk4 : ∀ k, k ≠ B → w4.heap[k]? = w3.heap[k]? := fun k hk => by rw [← hw4]; exact Below.heap_setCell w3 ⟨B, 0, none⟩ _ k hk
      have hv4 : w4.heap[B]? = some (.cells #[.slice (some ⟨g', 0, none⟩) (pre.length + 1) cap'] 98 (0, 0)) := by rw [← hw4]; exact box_set hv3
      have hL4 := (hk4 (B + 2) (by omega)).trans hL3
      have hb3 : Below B w w3 := (HB2.out.alloc (by omega) _).grown hg3 (by simp; omega) (fun k e => (HROW.out.lt k e).1)
      have hb4 : Below B w w4 := by rw [← hw4]; exact hb3.setCell (p := ⟨B, 0, none⟩) (Nat.le_refl _) _
      have hs4 : w4.heap.size = w3.heap.size := by rw [← hw4]; simp [World.setCell]
      have hrow4 : OwnR w4 B 79 2 (.slice (some ⟨g', 0, none⟩) (pre.length + 1) cap') ((pre ++ [x]).map plcCells) := hown.blk fun g hgb => hk4 g fun e => own_off hown hv3 (fun cur e => by cases e) (by rw [hgb, e])
      have hkw : KeepsWalks W w4 := ((HKW.out.trans (KeepsWalks.alloc _ _)).trans (KeepsWalks.of_grownBy hg3 (fun j o hj ho => by
        have hjl := (HROW.out.lt j hj).2
        obtain ⟨cur, hc⟩ := HROW.out.kind hj
        rw [Below.heap_alloc _ _ j hjl, hc] at ho
        injection ho with ho; subst ho; rfl))).trans (by rw [← hw4]; exact KeepsWalks.setCell _ _ _)
      refine ⟨_, _, run_endRound none hL4, rfl, ?_, ?_⟩
      · have e1 : ({ { rec .ready none with state := .busy } with state := if (none : Option Code).isNone then .ready else .done, pending := none } : Loop) = rec .ready none := hrec .ready none
        rw [e1]
        exact ⟨⟨_, (World.putObj_heap_other (by omega)).trans hv4, hrow4.blk fun g hgb => World.putObj_heap_other fun e => own_off hrow4 hL4 (fun cur e => by cases e) (by rw [hgb, e])⟩, (World.putObj_heap_other (by omega)).trans ((hk4 _ (by omega)).trans hD3), World.putObj_heap_same (Array.getElem?_eq_some_iff.1 hL4).1, hb4.grown (grownBy_putObj' _ _ _) (by omega) (fun k e => by cases e; omega)⟩
      · exact hkw.trans (KeepsWalks.putObj _ hL4 rfl)
    have happ : pre.length ≤ 1000000 := by omega
    have hboxk : Hid (∀ (w3 : World), (W2.alloc (.cells #[.string x.d, .string x.n] 79)).grownBy w3 v.ownBlock → w3.cell? ⟨B, 0, none⟩ = some v ∧ w3.frozen? ⟨B, 0, none⟩ = false) := fun w3 hg3 => by
      refine box_cell (v := v) (t := 98) ?_
      rw [hg3.block B (by simp; omega) (fun e => own_off HROW.out HV.out (fun cur e => by cases e) e.symm), Below.heap_alloc _ _ B hBlt]; exact HV.out
    have hBX : B < X := by omega
    clear hW2 hst hst0 hrec hL2 hk2 hb2 hv2 hD2 hrow2 hkw2 hrow hv HV HD HL HKW HB2 hpl hBl hkx hky hx0 hx1 hLx hsx
    refine roundIn_of_wpIn trivial ?_
    gi_wp2
    clear hWx hX
    refine ⟨_, hbr, ?_⟩
    clear hbr
    gi_wp2_with (first
      | (gi_at_builtin; refine wpListIn_append_own _ rfl _ _ 98 rfl B 79 i0 _ 2 32 Tryz.underlying98 hi hz0 hz1 hz2 rfl (by decide) v (pre.map plcCells).length (pre.map plcCells).flatten rfl (HROW.out.alloc (.cells #[.string x.d, .string x.n] 79)).1 ⟨X + 1, 0, none⟩ 1 1 [.string x.d, .string x.n] rfl rfl (new_cells W2 (X + 1) hs2 [.string x.d, .string x.n] 79) (by simp [Value.oneCell']) (by rw [List.length_map]; unfold maxLen; omega) (by rw [List.length_map]; omega) (by simp; omega) ?_
         intro v' w3 hown' hg3 hnil3
         obtain ⟨hc3, hf3⟩ := hboxk.out w3 hg3
         obtain ⟨g', cap', rfl⟩ : ∃ g' cap', v' = .slice (some ⟨g', 0, none⟩) (pre.length + 1) cap' := (by
           rw [List.length_map] at hown'
           rcases hown'.2 with ⟨_, h0⟩ | ⟨g', cap', cur', e, _⟩
           · exact absurd h0 (by omega)
           · exact ⟨g', cap', e⟩)
         have hrw : OwnR w3 B 79 2 (.slice (some ⟨g', 0, none⟩) (pre.length + 1) cap') ((pre ++ [x]).map plcCells) := (by
           refine ⟨?_, fun y hy => ?_⟩
           · have e2 : ((pre ++ [x]).map plcCells).flatten = (pre.map plcCells).flatten ++ [.string x.d, .string x.n] := by simp [plcCells]
             rw [e2, List.length_map, List.length_append, List.length_singleton]
             rw [List.length_map] at hown'
             exact hown'
           · obtain ⟨z, _, rfl⟩ := List.mem_map.1 hy; rfl)
         have HRW := Lib.hid hrw; have HG3 := Lib.hid hg3
         clear hown' hnil3 hrw hg3)
      | gi_in)
    obtain ⟨v2, w', h1, h2⟩ := hgo.out w3 g' cap' HRW.out HG3.out
    exact ⟨v2, w', h1, h2⟩
  case done =>
    intro ks hp W hbh
    obtain ⟨v, hv, hrow⟩ := hbh.box
    obtain ⟨hc, hf⟩ := box_cell hv
    have HP := Lib.hid hp; have HROW := Lib.hid hrow
    clear hp hrow
    simp only [Exit.inBlock, Exit.then]
    gi_wp2
    refine ⟨by simp, .inl ⟨B + 1, _, rfl, run_takeDeferred hbh.D, ?_⟩⟩
    rw [hB]
    refine ⟨v, by simp [results, Tryz.results95, go_sem], v, ks, rfl, HP.out, HROW.out.blk fun g hgb => World.putObj_heap_other fun e => own_off HROW.out hbh.D (fun cur e => by cases e) (by rw [hgb, e]), ?_⟩
    exact hbh.below.grown (grownBy_putObj' _ _ _) (by have := (Array.getElem?_eq_some_iff.1 hbh.D).1; omega) (fun k e => by cases e; omega)
set_option maxRecDepth 100000 in
theorem collect_any (l : Loc) (b Bm : Nat) (ns : List (Plc × Nat)) (w : World) (hBm : Bm < w.heap.size) (hm : w.cell? ⟨Bm, 0, none⟩ = some (.map (some b))) (hns : NamesAt w l b ns) (hlen : ns.length ≤ 1000000) :
    Calls Tryz.prog 80 #[.func (.func 96) #[] #[.pointer (some ⟨Bm, 0, none⟩)]] w fun e w' => ∃ (v : Value) (ks : List Plc), e = .returned v ∧ ks.Perm (ns.map (·.1)) ∧ OwnR w' w.heap.size 79 2 v (ks.map plcCells) ∧ Below w.heap.size w w' := by
  have HC := Lib.hid (appendSeq_any l b Bm ns w hBm hm hns hlen)
  clear hBm hm hns hlen
  go_enter Tryz.func80, Tryz.ntmps80
  go_wp2_with (go_at_call 95; refine HC.out.mono ?_; rintro e w' ⟨v, ks, rfl, hp, ho, hb⟩; have HP := Lib.hid hp; have HO := Lib.hid ho; have HB := Lib.hid hb; clear hp ho hb)
  go_ret
  exact ⟨v, ks, rfl, HP.out, HO.out, HB.out⟩
set_option maxRecDepth 100000 in
theorem keysP_any (b : Nat) (w : World) : Calls Tryz.prog 81 #[.map (some b)] w fun e w' => e = .returned (.func (.func 96) #[] #[.pointer (some ⟨w.heap.size, 0, none⟩)]) ∧ w' = w.alloc (.cells #[.map (some b)] 56) := by
  go_enter Tryz.func81, Tryz.ntmps81
  go_wp2
  go_ret
  exact ⟨rfl, rfl⟩
end Go.Proofs.YtdbcjiapbehacaaGreatDoor.Vp

/-! Layer 5: paths and their places, one for one; the order of paths. -/
namespace Go.Proofs.YtdbcjiapbehacaaGreatDoor.Vp
open Go.RowKit Go.Maps Go.Sort

theorem compare_lt : ∀ (a b : List UInt8), Lib.compareBytes a b < 0 ↔ a < b
  | [], [] => by simp [Lib.compareBytes]
  | [], _ :: _ => by simp [Lib.compareBytes]
  | _ :: _, [] => by simp [Lib.compareBytes]
  | a :: xs, b :: bs => by
    unfold Lib.compareBytes
    rw [List.cons_lt_cons_iff]
    by_cases h : a < b
    · rw [if_pos h]; simp [h]
    · rw [if_neg h]
      by_cases h2 : b < a
      · rw [if_pos h2]
        have : a ≠ b := fun e => by subst e; exact h h2
        simp [h, this]
      · rw [if_neg h2]
        have : a = b := UInt8.le_antisymm (UInt8.not_lt.1 h2) (UInt8.not_lt.1 h)
        subst this
        simp [h, compare_lt xs bs]

/-! ### Two slashes side by side -/
theorem pieces_ne (l : List UInt8) : ∃ x xs, pieces l = x :: xs := by
  cases l with
  | nil => exact ⟨_, _, rfl⟩
  | cons c l =>
    unfold pieces
    split
    · exact ⟨_, _, rfl⟩
    · split <;> exact ⟨_, _, rfl⟩
theorem pieces_two (b : List UInt8) : ∀ u : List UInt8, [] ∈ (pieces (u ++ 47 :: 47 :: b)).tail
  | [] => by
    show [] ∈ (pieces (47 :: 47 :: b)).tail
    rw [pieces, if_pos rfl, pieces, if_pos rfl]; simp
  | c :: u => by
    have ih := pieces_two b u
    show [] ∈ (pieces (c :: (u ++ 47 :: 47 :: b))).tail
    obtain ⟨x, xs, hx⟩ := pieces_ne (u ++ 47 :: 47 :: b)
    rw [hx] at ih
    unfold pieces
    by_cases hc : c = 47
    · rw [if_pos hc, hx]; exact List.mem_cons_of_mem _ ih
    · rw [if_neg hc, hx]; exact ih
theorem good_two {u b : List UInt8} : hasName (u ++ 47 :: 47 :: b) = false := by
  cases u with
  | nil => simp [hasName, pieces, goodName]
  | cons c u =>
    by_cases hc : c = 47
    · subst hc
      have h := List.mem_of_mem_tail (pieces_two b u)
      have : ((pieces (u ++ 47 :: 47 :: b)).all goodName) = false := by
        rw [List.all_eq_false]
        exact ⟨[], h, by simp [goodName]⟩
      show (decide ((47 : UInt8) = 47) && (pieces (u ++ 47 :: 47 :: b)).all goodName) = false
      rw [this]; rfl
    · show (decide (c = 47) && _) = false
      simp [hc]
/-- The path of the place of a path. -/
theorem path_back {path : ByteArray} (h : hasName path.data.toList = true) : pathOfP (plcOf path) = path := by
  have hs := good_slashed h
  have hcut := hs.cut
  obtain ⟨l, hl⟩ := hs.2
  obtain ⟨L, hL⟩ : ∃ L, path.data.toList = L := ⟨_, rfl⟩
  have hsz : path.size = L.length := by rw [Lib.size_eq, hL]
  have h47 : L[cutOf path]? = some 47 := by
    rcases Lib.lastIndexByte_spec path 47 with ⟨he, _⟩ | ⟨i, hi, he, hc, _⟩
    · rw [hcut.1] at he; omega
    · have hic : cutOf path = i := by have := hcut.1; omega
      rw [hic, ← hL, Array.getElem?_toList, Array.getElem?_eq_getElem hi]
      rw [getElem!_pos path.data i hi] at hc
      congr 1
      exact UInt8.toNat_inj.1 (by have h9 : ((path.data[i].toNat : Nat) : Int) = 47 := hc; show path.data[i].toNat = 47; omega)
  have hd : (plcOf path).d.data.toList = L.take (max (cutOf path) 1) := by show (path.extract 0 (max (cutOf path) 1)).data.toList = _; rw [Lib.extract_data, hL]; rfl
  have hn : (plcOf path).n.data.toList = L.drop (cutOf path + 1) := by
    show (path.extract (cutOf path + 1) path.size).data.toList = _
    rw [Lib.extract_data, hL, List.take_of_length_le]
    rw [List.length_drop]; omega
  have hgood : hasName L = true := by rw [← hL]; exact h
  have htrim : Lib.trimSuffix (L.take (max (cutOf path) 1)) [47] = L.take (cutOf path) := by
    by_cases h0 : cutOf path = 0
    · rw [h0, ← hL, hl]
      simp [Lib.trimSuffix, Lib.hasSuffix, List.isSuffixOf]
    · rw [show max (cutOf path) 1 = cutOf path by omega]
      unfold Lib.trimSuffix
      rw [if_neg]
      intro hsuf
      unfold Lib.hasSuffix at hsuf
      rw [List.isSuffixOf_iff_suffix] at hsuf
      obtain ⟨u, hu⟩ := hsuf
      have e : L = u ++ 47 :: 47 :: L.drop (cutOf path + 1) := by
        have e1 : L = L.take (cutOf path) ++ L.drop (cutOf path) := (List.take_append_drop _ _).symm
        have hlt : cutOf path < L.length := by rw [← hsz]; exact hcut.2
        have e2 : L.drop (cutOf path) = 47 :: L.drop (cutOf path + 1) := by
          rw [List.drop_eq_getElem_cons hlt]
          rw [List.getElem?_eq_getElem hlt] at h47
          injection h47 with h47; rw [h47]
        rw [e2, ← hu] at e1
        rw [List.append_assoc] at e1
        exact e1
      rw [e, good_two] at hgood; cases hgood
  have hlt : cutOf path < L.length := by rw [← hsz]; exact hcut.2
  apply ByteArray.ext
  apply Array.ext'
  rw [hL]
  unfold pathOfP
  rw [hd, htrim]
  simp only [ByteArray.data_append, Array.toList_append]
  rw [hn]
  show (L.take (cutOf path) ++ [47]) ++ L.drop (cutOf path + 1) = L
  rw [List.append_assoc]
  have e2 : L.drop (cutOf path) = [47] ++ L.drop (cutOf path + 1) := by
    rw [List.drop_eq_getElem_cons hlt]
    rw [List.getElem?_eq_getElem hlt] at h47
    injection h47 with h47; rw [h47]; rfl
  rw [← e2, List.take_append_drop]

/-! ### Places that are paths' -/
def Canon (x : Plc) : Prop := okP x ∧ ∃ path : ByteArray, hasName path.data.toList = true ∧ plcOf path = x
theorem Canon.inj {x y : Plc} (hx : Canon x) (hy : Canon y) (h : pathOfP x = pathOfP y) : x = y := by
  obtain ⟨_, p, hp, rfl⟩ := hx
  obtain ⟨_, q, hq, rfl⟩ := hy
  rw [path_back hp, path_back hq] at h
  rw [h]
abbrev CPlc := { x : Plc // Canon x }
theorem canon_one : Canon ⟨⟨#[47]⟩, ⟨#[120]⟩⟩ := by
  refine ⟨⟨by unfold okS; decide, by unfold okS; decide⟩, ⟨#[47, 120]⟩, by decide, ?_⟩
  have hn : hasName (⟨#[47, 120]⟩ : ByteArray).data.toList = true := by decide
  have hc := (good_slashed hn).cut
  have hb := path_back hn
  obtain ⟨c, hcc⟩ : ∃ c, cutOf ⟨#[47, 120]⟩ = c := ⟨_, rfl⟩
  have h2 : c < 2 := by rw [← hcc]; exact hc.2
  have h0 : c = 0 := by
    rcases Nat.lt_or_ge c 1 with h | h
    · omega
    · obtain rfl : c = 1 := by omega
      rcases Lib.lastIndexByte_spec ⟨#[47, 120]⟩ 47 with ⟨he, _⟩ | ⟨i, hi, he, h3, _⟩
      · rw [hc.1] at he; omega
      · have : i = 1 := by have := hc.1; omega
        subst this
        simp at h3
  unfold plcOf
  rw [hcc, h0]
  rfl
instance : Inhabited CPlc := ⟨⟨_, canon_one⟩⟩
def pathL (x : Plc) : List UInt8 := (pathOfP x).data.toList
def cmpP (x y : CPlc) : Int := Lib.compareBytes (pathL x.1) (pathL y.1)
theorem ltOf_cmpP (x y : CPlc) : ltOf cmpP x y = ltStr (pathL x.1) (pathL y.1) := by
  unfold ltOf cmpP ltStr
  by_cases h : pathL x.1 < pathL y.1
  · simp [h, (compare_lt _ _).2 h]
  · have : ¬ Lib.compareBytes (pathL x.1) (pathL y.1) < 0 := fun e => h ((compare_lt _ _).1 e)
    simp [h, this]
theorem swo_cmpP : SWO (ltOf cmpP) where
  irrefl x := by rw [ltOf_cmpP]; exact swo_ltStr.irrefl _
  trans x y z h1 h2 := by rw [ltOf_cmpP] at *; exact swo_ltStr.trans _ _ _ h1 h2
  ntrans x y z h1 h2 := by rw [ltOf_cmpP] at *; exact swo_ltStr.ntrans _ _ _ h1 h2
theorem str_anti {a b : List UInt8} (h1 : ltStr a b = false) (h2 : ltStr b a = false) : a = b := by
  unfold ltStr at h1 h2
  simp only [decide_eq_false_iff_not] at h1 h2
  exact List.le_antisymm (List.not_lt.1 h2) (List.not_lt.1 h1)
theorem total_cmpP (x y : CPlc) (h1 : ltOf cmpP x y = false) (h2 : ltOf cmpP y x = false) : x = y := by
  rw [ltOf_cmpP] at h1 h2
  have e := str_anti h1 h2
  exact Subtype.ext (x.2.inj y.2 (ByteArray.ext (Array.ext' e)))

/-! ### Sorted by paths; directories sorted -/
def leP (x y : Plc) : Bool := !ltStr (pathL y) (pathL x)
def sortP (l : List Plc) : List Plc := l.mergeSort leP
theorem sortP_perm (l : List Plc) : (sortP l).Perm l := List.mergeSort_perm _ _
theorem leP_trans (a b c : Plc) (h1 : leP a b = true) (h2 : leP b c = true) : leP a c = true := by
  unfold leP at *
  simp only [Bool.not_eq_true'] at *
  exact swo_ltStr.ntrans _ _ _ h2 h1
theorem leP_total (a b : Plc) : (leP a b || leP b a) = true := by
  unfold leP
  cases h : ltStr (pathL b) (pathL a) with
  | false => simp
  | true => simp [swo_ltStr.asymmA h]
theorem sortP_eq {l l' : List Plc} (hc : ∀ x ∈ l, Canon x) (hp : l'.Perm l) (hs : l'.Pairwise fun x y => leP x y = true) : l' = sortP l := by
  refine List.Perm.eq_of_pairwise (le := fun x y => leP x y = true) ?_ hs (List.pairwise_mergeSort leP_trans leP_total l) (hp.trans (sortP_perm l).symm)
  intro a b ha hb h1 h2
  unfold leP at h1 h2
  simp only [Bool.not_eq_true'] at h1 h2
  exact (hc a (hp.mem_iff.1 ha)).inj (hc b ((sortP_perm l).mem_iff.1 hb)) (ByteArray.ext (Array.ext' (str_anti h2 h1)))
theorem sortP_perm_eq {l l' : List Plc} (hc : ∀ x ∈ l, Canon x) (hp : l'.Perm l) : sortP l' = sortP l :=
  sortP_eq hc ((sortP_perm l').trans hp) (List.pairwise_mergeSort leP_trans leP_total l')
def sortB (l : List (List UInt8)) : List (List UInt8) := l.mergeSort fun x y => decide (x ≤ y)
theorem sortB_perm_eq {l l' : List (List UInt8)} (hp : l'.Perm l) : sortB l' = sortB l := by
  refine List.Perm.eq_of_pairwise (le := fun x y => decide (x ≤ y) = true) ?_ (List.pairwise_mergeSort ?_ ?_ _) (List.pairwise_mergeSort ?_ ?_ _) (((List.mergeSort_perm _ _).trans hp).trans (List.mergeSort_perm _ _).symm)
  · intro a b _ _ h1 h2; exact List.le_antisymm (by simpa using h1) (by simpa using h2)
  · intro a b c h1 h2; simp only [decide_eq_true_eq] at *; exact List.le_trans h1 h2
  · intro a b; simp; exact List.le_total a b
  · intro a b c h1 h2; simp only [decide_eq_true_eq] at *; exact List.le_trans h1 h2
  · intro a b; simp; exact List.le_total a b
end Go.Proofs.YtdbcjiapbehacaaGreatDoor.Vp

/-! Layer 5: the names' places, sorted by their paths; the directories, sorted. -/
namespace Go.Proofs.YtdbcjiapbehacaaGreatDoor.Vp
open Go.RowKit Go.Maps Go.Sort Go.Shelf
open Go.Proofs.YtdbcjiapbehacaaGreatDoor.Vf (Hold OwnR Moves ret_int Reads Elems OwnR.kind OwnR.lt OwnR.reads)

set_option maxRecDepth 100000 in
set_option maxHeartbeats 1000000 in
theorem path_grown (x : Plc) (w : World) (hx : okP x) :
    Calls Tryz.prog 57 #[.agg #[.string x.d, .string x.n]] w fun e w' => e = .returned (.string (pathOfP x)) ∧ ∃ q os', w' = grow (w.drewN q) os' := by
  obtain ⟨h1, h2⟩ := hx
  unfold okS at h1 h2
  obtain ⟨t, ht⟩ : ∃ t, (⟨(Lib.trimSuffix x.d.data.toList [47]).toArray⟩ : ByteArray) = t := ⟨_, rfl⟩
  have htl : t.size ≤ x.d.size := by
    rw [← ht, Lib.size_eq x.d]
    show (Lib.trimSuffix x.d.data.toList [47]).toArray.size ≤ _
    rw [List.size_toArray]
    unfold Lib.trimSuffix
    split
    · rw [List.length_take]; omega
    · omega
  unfold pathOfP
  rw [ht]
  have hc : ∀ W : World, Calls Tryz.prog 85 #[.string x.d, .string ⟨#[47]⟩] W fun e w' => e = .returned (.string t) ∧ w' = W := fun W => (Tryz.strings_TrimSuffix x.d ⟨#[47]⟩ W (by omega)).mono fun e w' ⟨he, hw⟩ => ⟨by rw [he, ← ht], hw⟩
  clear ht
  have hs1 : t.size + (⟨#[47]⟩ : ByteArray).size ≤ 9223372036854775807 := by show t.size + 1 ≤ _; omega
  have hs2 : (t ++ (⟨#[47]⟩ : ByteArray)).size + x.n.size ≤ 9223372036854775807 := by rw [ByteArray.size_append]; show t.size + 1 + _ ≤ _; omega
  go_enter Tryz.func57, Tryz.ntmps57
  go_wp2_with fail
  go_quiet ((go_at_call 85; exact Calls.quiet_of_same (hc _)))
  go_wp2_with fail
  go_ret
  exact ⟨rfl, nq, #[.cells #[.string x.d, .string x.n] 79], by rw [alloc_eq_grow]; rfl⟩
set_option maxRecDepth 100000 in
set_option maxHeartbeats 4000000 in
theorem closure_any (x y : CPlc) (w : World) :
    Calls Tryz.prog 83 #[.agg #[.string x.1.d, .string x.1.n], .agg #[.string y.1.d, .string y.1.n]] w fun e w' => e = .returned (.int .i64 (cmpP x y)) ∧ ∃ q os', w' = grow (w.drewN q) os' := by
  obtain ⟨x, hx⟩ := x
  obtain ⟨y, hy⟩ := y
  dsimp only
  have HX : Hid (∀ W : World, Calls Tryz.prog 57 #[.agg #[.string x.d, .string x.n]] W fun e w' => e = .returned (.string (pathOfP x)) ∧ ∃ q os', w' = grow (W.drewN q) os') := fun W => path_grown x W hx.1
  have HY : Hid (∀ W : World, Calls Tryz.prog 57 #[.agg #[.string y.d, .string y.n]] W fun e w' => e = .returned (.string (pathOfP y)) ∧ ∃ q os', w' = grow (W.drewN q) os') := fun W => path_grown y W hy.1
  obtain ⟨r, hr⟩ : ∃ r, cmpP ⟨x, hx⟩ ⟨y, hy⟩ = r := ⟨_, rfl⟩
  have HC : Hid (∀ W : World, Calls Tryz.prog 84 #[.string (pathOfP x), .string (pathOfP y)] W fun e w' => e = .returned (.int .i64 r) ∧ ∃ q os', w' = grow (W.drewN q) os') := fun W => (Tryz.strings_Compare (pathOfP x) (pathOfP y) W).mono fun e w' ⟨he, hw⟩ => ⟨by rw [he, ← hr]; rfl, 0, #[], by rw [hw, grow_empty]; rfl⟩
  rw [hr]
  clear hr
  have mixed : Tryz.prog.follows .mixedOrders = true := by kernel_rfl
  go_enter Tryz.func83, Tryz.ntmps83
  go_wp2_with fail
  obtain ⟨B, hB⟩ : ∃ B, w.heap.size = B := ⟨_, rfl⟩
  obtain ⟨W, hW⟩ : ∃ W, (w.alloc (.cells #[.string x.d, .string x.n] 79)).alloc (.cells #[.string y.d, .string y.n] 79) = W := ⟨_, rfl⟩
  have hWs : W.heap.size = B + 2 := by rw [← hW, ← hB]; simp
  have hx0 : W.cell? ⟨B, 0, none⟩ = some (.string x.d) := by rw [← hW, ← hB]; rw [World.cell?_alloc_lt _ _ ⟨w.heap.size, 0, none⟩ (by simp)]; simp
  have hx1 : W.cell? ⟨B, 1, none⟩ = some (.string x.n) := by rw [← hW, ← hB]; rw [World.cell?_alloc_lt _ _ ⟨w.heap.size, 1, none⟩ (by simp)]; simp
  have hy0 : W.cell? ⟨B + 1, 0, none⟩ = some (.string y.d) := by rw [← hW, ← hB]; have := World.cell?_alloc_mark (w.alloc (.cells #[.string x.d, .string x.n] 79)) #[.string y.d, .string y.n] 79 (0, 0) 0; rw [World.size_alloc] at this; exact this
  have hy1 : W.cell? ⟨B + 1, 1, none⟩ = some (.string y.n) := by rw [← hW, ← hB]; have := World.cell?_alloc_mark (w.alloc (.cells #[.string x.d, .string x.n] 79)) #[.string y.d, .string y.n] 79 (0, 0) 1; rw [World.size_alloc] at this; exact this
  have gx0 : ∀ n os, (grow (W.drewN n) os).cell? ⟨B, 0, none⟩ = some (.string x.d) := cell_grown (a := ⟨B, 0, none⟩) (show B < W.heap.size by omega) hx0
  have gx1 : ∀ n os, (grow (W.drewN n) os).cell? ⟨B, 1, none⟩ = some (.string x.n) := cell_grown (a := ⟨B, 1, none⟩) (show B < W.heap.size by omega) hx1
  have gy0 : ∀ n os, (grow (W.drewN n) os).cell? ⟨B + 1, 0, none⟩ = some (.string y.d) := cell_grown (a := ⟨B + 1, 0, none⟩) (show B + 1 < W.heap.size by omega) hy0
  have gy1 : ∀ n os, (grow (W.drewN n) os).cell? ⟨B + 1, 1, none⟩ = some (.string y.n) := cell_grown (a := ⟨B + 1, 1, none⟩) (show B + 1 < W.heap.size by omega) hy1
  have HE : Hid (∀ n os, ∃ q os', grow (W.drewN n) os = grow (w.drewN q) os') := Lib.hid fun n os => ⟨n, #[.cells #[.string x.d, .string x.n] 79, .cells #[.string y.d, .string y.n] 79] ++ os, by
    rw [← hW, alloc_eq_grow, alloc_eq_grow, grow_grow]
    show grow (grow (w.drewN n) _) os = _
    rw [grow_grow]; rfl⟩
  rw [hW, hB]
  clear hW hB hx0 hx1 hy0 hy1 hWs
  go_quiet_grown ((first
    | (go_at_call 57; with_reducible exact Calls.grown_of (HX.out _))
    | (go_at_call 57; with_reducible exact Calls.grown_of (HY.out _))
    | (go_at_call 84; with_reducible exact Calls.grown_of (HC.out _))))
  go_wp2_with fail
  go_ret
  exact ⟨rfl, HE.out _ _⟩

/-! ### The sort -/
def encP (x : CPlc) : List Value := plcCells x.1
theorem heap_sortedK {w : World} {g n : Nat} {os : Array Obj} {cur : Array Value} {e : TypeId} {fr : Nat × Nat} (d : Array CPlc) (hb : w.heap[g]? = some (.cells cur e fr)) :
    ∃ cur', (sortWorldK encP 2 w g 0 n d os).heap[g]? = some (.cells cur' e fr) := by
  have hg : g < w.heap.size := (Array.getElem?_eq_some_iff.1 hb).1
  refine ⟨putCells id 0 (flatK encP 2 d) cur, ?_⟩
  show (grow (putRow id (Sort.ahead w n) g 0 (flatK encP 2 d)) os).heap[g]? = _
  rw [heap_grow_old _ _ (by simpa using hg)]
  simp [putRow, mapBlock, Sort.ahead, Array.getElem?_modify, hb, onCells]
theorem grownBy_sortedK {w : World} {g n : Nat} {os : Array Obj} (d : Array CPlc) : w.grownBy (sortWorldK encP 2 w g 0 n d os) (some g) := by
  refine ⟨rfl, rfl, rfl, by simp [sortWorldK, putRowK], fun k hk hne => ?_⟩
  show (grow (putRow id (Sort.ahead w n) g 0 (flatK encP 2 d)) os).heap[k]? = _
  rw [heap_grow_old _ _ (by simpa using hk)]
  have : g ≠ k := fun e => hne (by rw [e])
  simp [putRow, mapBlock, Sort.ahead, Array.getElem?_modify, this]
theorem attach_map {l : List Plc} (hc : ∀ x ∈ l, Canon x) : ∃ d : List CPlc, d.map (·.1) = l := by
  induction l with
  | nil => exact ⟨[], rfl⟩
  | cons x l ih =>
    obtain ⟨d, hd⟩ := ih fun y hy => hc y (by simp [hy])
    exact ⟨⟨x, hc x (by simp)⟩ :: d, by simp [hd]⟩
theorem sort_places {l : List Plc} {d : List CPlc} (hd : d.map (·.1) = l) : (d.mergeSort fun x y => !(ltOf cmpP) y x).map (·.1) = sortP l := by
  have hc : ∀ x ∈ l, Canon x := fun x hx => by rw [← hd] at hx; obtain ⟨y, _, rfl⟩ := List.mem_map.1 hx; exact y.2
  refine sortP_eq hc (by rw [← hd]; exact (List.mergeSort_perm _ _).map _) ?_
  rw [List.pairwise_map]
  have h := List.pairwise_mergeSort (le := fun x y : CPlc => !(ltOf cmpP) y x) (fun a b c h1 h2 => by
    simp only [Bool.not_eq_true'] at *
    exact swo_cmpP.ntrans _ _ _ h2 h1) (fun a b => by
    cases h : ltOf cmpP b a with
    | false => simp
    | true => simp [swo_cmpP.asymmA h]) d
  refine h.imp fun {a b} hab => ?_
  unfold leP
  rw [ltOf_cmpP] at hab
  exact hab
set_option maxRecDepth 100000 in
theorem sortFunc_any (v : Value) (ks : List Plc) (base : Nat) (w : World) (ho : OwnR w base 79 2 v (ks.map plcCells)) (hc : ∀ x ∈ ks, Canon x) (hl : ks.length ≤ 1000000) :
    Calls Tryz.prog 82 #[v, .func (.func 83) #[] #[]] w fun e w' => e = .returned (.tuple #[]) ∧ Reads w' 79 2 v ((sortP ks).map plcCells) ∧ w.grownBy w' v.ownBlock := by
  obtain ⟨d, hd⟩ := attach_map hc
  have hdl : d.length = ks.length := by rw [← hd, List.length_map]
  rcases ho.reads with ⟨h0, A, c, rfl⟩ | ⟨g, cap, rfl, hE⟩
  · have hk : ks = [] := List.map_eq_nil_iff.1 h0
    subst hk
    refine (AnyF.slices_SortFunc_none Tryz.sortFuncOf A c _ w).mono ?_
    rintro e w' ⟨he, hw⟩
    exact ⟨he, .inl ⟨by simp [sortP], A, c, rfl⟩, by rw [hw]; exact World.grownBy.refl _ _⟩
  · obtain ⟨cur, hcur⟩ := hE.kind
    have hgl : g < w.heap.size := (Array.getElem?_eq_some_iff.1 hcur).1
    have eg : ∀ args w, (callFunc 83 args).run Tryz.prog w = .ok (.enter 83 args) w := enters_of Tryz.func83 (by kernel_rfl) rfl
    have hH : HoldsK encP 2 w g 0 d.toArray := by
      intro j hj
      rw [size_flatK] at hj
      have hj2 : j / 2 < d.length := by simp at hj; omega
      have hcell := hE.cell (j / 2) (j % 2) (plcCells (d[j / 2]'hj2).1) ((plcCells (d[j / 2]'hj2).1)[j % 2]'(by simp [plcCells]; omega)) (by
        rw [List.getElem?_map, ← hd, List.getElem?_map, List.getElem?_eq_getElem hj2]; rfl) (List.getElem?_eq_getElem _)
      rw [show j / 2 * 2 + j % 2 = j by omega] at hcell
      rw [get_flatK _ _ _ _ hj, Nat.zero_add]
      refine ⟨?_, by simp [World.frozen?, hcur]⟩
      rw [hcell]
      show some _ = some (((encP (d.toArray[j / 2]!))[j % 2]!))
      have e1 : d.toArray[j / 2]! = d[j / 2]'hj2 := by
        rw [getElem!_pos _ _ (by simpa using hj2)]; simp
      rw [e1]
      unfold encP
      rw [getElem!_pos (plcCells (d[j / 2]'hj2).1) (j % 2) (by simp [plcCells]; omega)]
    have hcmp : CmpLays Tryz.prog 83 #[] encP 2 cmpP g 0 d.toArray.size w := fun _ _ _ _ x y => closure_any x y _
    have aE : ∀ w, (isAgg 79).run Tryz.prog w = .ok true w := Tryz.isAgg79
    have zE : ∀ w, (Go.sizeOf 79).run Tryz.prog w = .ok 2 w := Tryz.sizeOf79
    have h := AnyQ.slices_SortFunc_total Tryz.sortFuncOf 2 aE zE encP (fun _ => rfl) (fun x v hv => by simp [encP, plcCells] at hv; rcases hv with rfl | rfl <;> rfl) cmpP swo_cmpP 83 #[] g 0 cap d.toArray w eg hcmp hH hgl (by simp; omega) total_cmpP
    have hsz : d.toArray.size = (ks.map plcCells).length := by simp [hdl]
    rw [hsz] at h
    refine h.mono ?_
    rintro e w' ⟨he, n, os, hw⟩
    subst hw
    obtain ⟨d', hd'⟩ : ∃ d', (d.toArray.toList.mergeSort fun x y => !(ltOf cmpP) y x) = d' := ⟨_, rfl⟩
    have hs' : d'.map (·.1) = sortP ks := by rw [← hd']; exact sort_places hd
    have hl' : d'.length = d.length := by rw [← hd', List.length_mergeSort]
    rw [hd']
    have hS : SWK encP 2 w g 0 d'.toArray (sortWorldK encP 2 w g 0 n d'.toArray os) := ⟨n, os, rfl⟩
    have hH2 := hS.holds hgl hH (by simpa using hl')
    obtain ⟨cur', hcur'⟩ := heap_sortedK (n := n) (os := os) d'.toArray hcur
    refine ⟨he, .inr ⟨g, cap, by rw [List.length_map, List.length_map, ← hs', List.length_map, hl', hdl], ?_, ?_, ?_, cur', hcur'⟩, grownBy_sortedK _⟩
    · rfl
    · have := hE.fits
      rw [List.length_map] at this ⊢
      rw [← hs', List.length_map, hl', hdl]; exact this
    · intro i k cs u hi hk
      rw [← hs', List.map_map, List.getElem?_map] at hi
      obtain ⟨x, hx, rfl⟩ := Option.map_eq_some_iff.1 hi
      have hk2 : k < 2 := by have := (List.getElem?_eq_some_iff.1 hk).1; simpa [plcCells] using this
      have hil : i < d'.length := (List.getElem?_eq_some_iff.1 hx).1
      have := (hH2.cell (i := i) (c := k) (by simpa using hil) hk2).1
      rw [Nat.zero_add] at this
      rw [this]
      have e1 : d'.toArray[i]! = x := by
        rw [getElem!_pos _ _ (by simpa using hil)]
        rw [List.getElem?_eq_getElem hil] at hx
        injection hx
      rw [e1, getElem!_pos (encP x) k (by simpa [encP, plcCells] using hk2)]
      have h3 : (plcCells x.1)[k]? = some u := hk
      rw [List.getElem?_eq_getElem (by simpa [plcCells] using hk2)] at h3
      exact h3

set_option maxRecDepth 100000 in
theorem places_any (p : Nat) (s : Pf) (l : Loc) (w : World) (h : At w p s l) (hc : ∀ q ∈ s.names, Canon q.1) (hl : s.names.length ≤ 1000000) :
    Calls Tryz.prog 55 #[.pointer (some ⟨p, 0, none⟩)] w fun e w' => ∃ v, e = .returned v ∧ Reads w' 79 2 v ((sortP (s.names.map (·.1))).map plcCells) ∧ Below w.heap.size w w' := by
  have h2 : w.cell? ⟨p, 2, none⟩ = some (.map (some l.bn)) := by rw [h.cell]; rfl
  have hnm := h.names.kept (World.grownBy_alloc w (.cells #[.map (some l.bn)] 56) none) (by simp)
  have HCL := Lib.hid (collect_any l l.bn w.heap.size s.names _ (by simp) (by simp) hnm hl)
  have HC := Lib.hid hc; have HL := Lib.hid hl
  have hb0 : Below w.heap.size w (w.alloc (.cells #[.map (some l.bn)] 56)) := (Below.refl _ _).alloc (Nat.le_refl _) _
  have HB0 := Lib.hid hb0
  clear hnm hc hl h hb0
  go_enter Tryz.func55, Tryz.ntmps55
  go_wp2_with (first
    | (go_at_call 81; refine (keysP_any l.bn _).mono ?_; rintro e w1 ⟨rfl, rfl⟩)
    | (go_at_call 80; refine HCL.out.mono ?_; rintro e w2 ⟨v, ks, rfl, hp, ho, hb⟩; have HP := Lib.hid hp; have HO := Lib.hid ho; have HB := Lib.hid hb; clear hp ho hb)
    | (go_at_call 82; refine (sortFunc_any v ks _ w2 HO.out (fun x hx => by have hx2 := HP.out.mem_iff.1 hx; obtain ⟨q, hq, rfl⟩ := List.mem_map.1 hx2; exact HC.out q hq) (by have := HP.out.length_eq; rw [List.length_map] at this; have := HL.out; omega)).mono ?_; rintro e w3 ⟨rfl, hr, hg⟩; have HR := Lib.hid hr; have HG := Lib.hid hg; clear hr hg)
    | fail)
  go_ret
  refine ⟨v, rfl, ?_, ?_⟩
  · have e := sortP_perm_eq (l := s.names.map (·.1)) (l' := ks) (fun x hx => by obtain ⟨q, hq, rfl⟩ := List.mem_map.1 hx; exact HC.out q hq) HP.out
    rw [← e]; exact HR.out
  · have hb1 := HB0.out.trans (HB.out.mono (by simp))
    refine hb1.grown HG.out hb1.size fun k hk => ?_
    have := (HO.out.lt k hk).1
    simp at this; omega
end Go.Proofs.YtdbcjiapbehacaaGreatDoor.Vp

/-! Layer 5: the directories, sorted; what a choice picks; what a file comes up with. -/
namespace Go.Proofs.YtdbcjiapbehacaaGreatDoor.Vp
open Go.RowKit Go.Maps Go.Sort Go.Shelf Go.WideShapes
open Go.Proofs.YtdbcjiapbehacaaGreatDoor.Vf (Hold OwnR Moves ret_int Reads Elems OwnR.reads Hold.cell Hold.frozen Hold.keep Hold.lt Hold.set wp_region_mix wpMix_free wpMix_turn wpMix_end Moves.refl Moves.trans)

theorem keysS_any (b : Nat) (w : World) : Calls Tryz.prog 53 #[.map (some b)] w fun e w' => e = .returned (.func (.func 78) #[] #[.pointer (some ⟨w.heap.size, 0, none⟩)]) ∧ w' = w.alloc (.cells #[.map (some b)] 55) :=
  (callsIn_wide (n := 5)).1 (AnyZ.keys_in Tryz.keysOf Fence.wide 5 trivial rfl (some b) w)
theorem sorts_in (m : Nat) : AnyZ.SortsIn Tryz.prog Tryz.sortedOf_ren Fence.wide m :=
  ⟨fun blk off cap ss W hH hblk hsz => callsIn_wide.2 (AnyM.slices_Sort_string Tryz.sortOf blk off cap ss W hH hblk hsz), fun p cap W => callsIn_wide.2 (AnyM.slices_Sort_string_none Tryz.sortOf p cap W)⟩
theorem str_lit (x : ByteArray) (h : okS x) : lit Tryz.prog 9 (.string x) = .string x.data.toList := by
  have : keyOf Tryz.prog 9 (.string x) = some (.string x.data.toList) := by
    have := Go.WideMaps.keyOf_string_mk (P := Tryz.prog) Tryz.underlying9 (small_max h)
    exact this
  unfold lit; rw [this]; rfl
def dirsOf (ws : List (ByteArray × List Stp)) : List (List UInt8) := sortB (ws.map fun x => x.1.data.toList)
set_option maxRecDepth 100000 in
set_option maxHeartbeats 1000000 in
theorem sortedKeys_any (b : Nat) (l : List (ByteArray × Value)) (w : World) (h : MapL Tryz.prog 9 Value.string (id : Value → Value) okS w b l) (hl : l.length ≤ 1000000) :
    Calls Tryz.prog 52 #[.func (.func 78) #[] #[.pointer (some ⟨w.heap.size, 0, none⟩)]] (w.alloc (.cells #[.map (some b)] 55)) fun e w' => ∃ v, e = .returned v ∧ Reads w' 9 1 v ((sortB (l.map fun x => x.1.data.toList)).map fun x => [encStr x]) ∧ Below w.heap.size w w' := by
  have hown := h.own
  obtain ⟨D0, hD0⟩ : ∃ D0, dat Tryz.prog 9 Value.string (id : Value → Value) l = D0 := ⟨_, rfl⟩
  have hsz : Maps.size D0 = l.length := by rw [← hD0]; exact dat_size
  have hkeys : (strKeys D0).Perm (l.map fun x => x.1.data.toList) := by
    rw [← hD0]
    show ((((l.map (ent Tryz.prog 9 Value.string (id : Value → Value))).foldr DataW.insert []).map fun p => strOf p.1)).Perm _
    refine ((sorted_perm _).map _).trans ?_
    rw [List.map_map]
    refine List.Perm.of_eq (List.map_congr_left fun x hx => ?_)
    show strOf (lit Tryz.prog 9 (.string x.1)) = _
    rw [str_lit x.1 (h.good x hx)]; rfl
  rw [hD0] at hown
  have hbl := h.lt
  have hseq : SeqGives Fence.wide 2 Tryz.prog 78 #[.pointer (some ⟨w.heap.size, 0, none⟩)] encStr (fun ss => ss.Perm (strKeys D0)) (Maps.size D0) (w.alloc (.cells #[.map (some b)] 55)) :=
    AnyZ.keys_gives (ρ := Tryz.keysOf_ren) { Tryz.keysOf with } Fence.wide _ trivial rfl (by omega) w.heap.size b l.length D0 _ (by simp) (by simp) (by
      obtain ⟨es, clock, hb, Ft, hs, hD⟩ := hown
      exact ⟨es, clock, (Below.heap_alloc _ _ b hbl).trans hb, Ft, hs, hD⟩)
  have hs := AnyZ.sorted_in Tryz.sortedOf Fence.wide 5 trivial trivial trivial trivial rfl (by omega) (sorts_in _) (enters_of Tryz.func59 (by kernel_rfl) rfl) 78 #[.pointer (some ⟨w.heap.size, 0, none⟩)] trivial (enters_of Tryz.func78 (by kernel_rfl) rfl) _ _ (by rw [hsz]; unfold maxLen; omega) (by rw [hsz]; omega) _ hseq
  refine ((callsIn_wide (n := 5)).1 hs).mono ?_
  rintro e w' ⟨v, ss, rfl, hp, hrow, _, hb⟩
  refine ⟨v, rfl, ?_, ((Below.refl _ w).alloc (Nat.le_refl _) _).trans (hb.mono (by simp))⟩
  have e1 : sortB (l.map fun x => x.1.data.toList) = ss.mergeSort (fun x y => decide (x ≤ y)) := (sortB_perm_eq (hp.trans hkeys)).symm
  rw [e1]
  have ho : OwnR w' (w.alloc (.cells #[.map (some b)] 55)).heap.size 9 1 v ((ss.mergeSort (fun x y => decide (x ≤ y))).map fun x => [encStr x]) := by
    refine ⟨?_, fun x hx => by obtain ⟨y, _, rfl⟩ := List.mem_map.1 hx; rfl⟩
    have e2 : ∀ zs : List (List UInt8), (zs.map fun x => [encStr x]).flatten = zs.map encStr := fun zs => by induction zs with
      | nil => rfl
      | cons z zs ih => simp [ih]
    rw [e2, List.length_map, List.length_mergeSort]
    exact hrow
  exact ho.reads

/-! ### What is picked -/
/-- The block that counts. -/
def CntAt (w : World) (C c : Nat) : Prop := w.heap[C]? = some (.cells #[.int .u64 c] 91 (0, 0))
set_option maxRecDepth 100000 in
theorem pick_any (C c n : Nat) (w : World) (h : CntAt w C c) (hc : c < 18446744073709551616) (hn : 1 ≤ n) (hm : n ≤ 4611686018427387904) :
    Calls Tryz.prog 51 #[.int .i64 n, .pointer (some ⟨C, 0, none⟩)] w fun e w' => e = .returned (.int .i64 (c % n : Nat)) ∧ CntAt w' C (c / n) ∧ w.grownBy w' (some C) := by
  have h0 := (box_cell h).1
  have hf := (box_cell h).2
  have hw : IntKind.u64.wrap (n : Int) = n := by simp [IntKind.wrap, IntKind.bits, IntKind.signed]; omega
  have hlt : c % n < n := Nat.mod_lt _ hn
  have hdv : c / n ≤ c := Nat.div_le_self _ _
  have ht1 : (c : Int).tmod n = (c % n : Nat) := (Int.ofNat_tmod c n).symm
  have ht2 : (c : Int).tdiv n = (c / n : Nat) := (Int.ofNat_tdiv c n).symm
  have hE1 : (c : Int) / n = (c / n : Nat) := rfl
  have hE2 : (c : Int) % n = (c % n : Nat) := rfl
  obtain ⟨q, hq⟩ : ∃ q, c / n = q := ⟨_, rfl⟩
  obtain ⟨r, hr⟩ : ∃ r, c % n = r := ⟨_, rfl⟩
  rw [hq] at hdv ht2 hE1 ⊢
  rw [hr] at hlt ht1 hE2 ⊢
  have hw2 : IntKind.i64.wrap (r : Int) = r := IntWalk.i64_in _ (by omega)
  have hw3 : IntKind.u64.wrap (q : Int) = q := by simp [IntKind.wrap, IntKind.bits, IntKind.signed]; omega
  have hw4 : IntKind.u64.wrap (r : Int) = r := by simp [IntKind.wrap, IntKind.bits, IntKind.signed]; omega
  have hn0 : (n : Int) ≠ 0 := by omega
  have HS := Lib.hid (box_set (u := .int .u64 (q : Int)) h)
  clear h hq hr
  go_enter Tryz.func51, Tryz.ntmps51
  go_wp2_with fail
  go_ret
  exact ⟨rfl, HS.out, Go.Proofs.YtdbcjiapbehacaaGreatDoor.Vf.gb_set (World.grownBy.refl _ _) _ _⟩

/-- What a file comes up with, and what is left of the choice. -/
def comeS (x : Fil) (c : Nat) : Fil × Nat :=
  if x.c = x.d then (x, c) else
  let d := if 0 < c % (x.c.size + 2) then x.c.extract 0 (c % (x.c.size + 2) - 1) else x.d
  (⟨d, d⟩, c / (x.c.size + 2))
set_option maxRecDepth 100000 in
set_option maxHeartbeats 2000000 in
theorem comeUp_any (g C i c : Nat) (x : Fil) (w : World) (h : Hold w g 83 (filCells i x)) (hC : CntAt w C c) (hc : c < 18446744073709551616) (hx : x.c.size ≤ 1048576) :
    Calls Tryz.prog 56 #[.pointer (some ⟨g, 0, none⟩), .func (.func 51) #[] #[.pointer (some ⟨C, 0, none⟩)]] w fun e w' => (∃ r, e = .returned r) ∧ Hold w' g 83 (filCells i (comeS x c).1) ∧ CntAt w' C (comeS x c).2 ∧ Moves w w' (fun b => b = g ∨ b = C) (fun b => b = g ∨ b = C) := by
  have h1 : w.cell? ⟨g, 1, none⟩ = some (.string x.c) := by rw [h.cell]; rfl
  have h2 : w.cell? ⟨g, 2, none⟩ = some (.string x.d) := by rw [h.cell]; rfl
  have hgC : g ≠ C := by
    have hg : w.heap[g]? = _ := h
    have hC2 : w.heap[C]? = _ := hC
    exact cells_ty hg hC2 (by decide)
  have heq := toList_eq (a := x.c) (b := x.d)
  have hdr : w.drew.cell? ⟨g, 1, none⟩ = some (.string x.c) := h1
  have hdr2 : w.drew.cell? ⟨g, 2, none⟩ = some (.string x.d) := h2
  by_cases he : x.c = x.d
  · have e1 : comeS x c = (x, c) := by unfold comeS; rw [if_pos he]
    rw [e1]
    have hq : (x.c.toList == x.d.toList) = true := by rw [heq]; simpa using he
    have HH := Lib.hid h; have HC := Lib.hid hC
    clear h hC heq he
    go_enter Tryz.func56, Tryz.ntmps56
    go_wp2_with fail
    go_quiet (fail)
    go_wp2_with fail
    (try simp only [Exit.inBlock, Exit.then])
    refine bodyPost_ret (results_none rfl _ _ _) rfl ?_
    exact ⟨⟨_, rfl⟩, HH.out.keep rfl, HC.out, ⟨rfl, rfl, rfl, Nat.le_refl _, fun _ _ _ => rfl, fun _ h => .inl h⟩⟩
  · have hq : (x.c.toList == x.d.toList) = false := by rw [heq]; simpa using he
    obtain ⟨n, hn⟩ : ∃ n, x.c.size + 2 = n := ⟨_, rfl⟩
    have e1 : comeS x c = (⟨if 0 < c % n then x.c.extract 0 (c % n - 1) else x.d, if 0 < c % n then x.c.extract 0 (c % n - 1) else x.d⟩, c / n) := by unfold comeS; rw [if_neg he, hn]
    rw [e1]
    obtain ⟨k, hk⟩ : ∃ k, c % n = k := ⟨_, rfl⟩
    have hkn : k < n := by rw [← hk]; exact Nat.mod_lt _ (by omega)
    have HP : Hid (∀ W : World, CntAt W C c → Calls Tryz.prog 51 #[.int .i64 n, .pointer (some ⟨C, 0, none⟩)] W fun e w' => e = .returned (.int .i64 k) ∧ CntAt w' C (c / n) ∧ W.grownBy w' (some C)) := Lib.hid fun W hW => by
      have := pick_any C c n W hW hc (by omega) (by omega)
      rwa [hk] at this
    rw [hk]
    have hn2 : ((x.c.size : Int) + 2) = (n : Int) := by omega
    have hwn : IntKind.i64.wrap ((x.c.size : Int) + 2) = (n : Int) := by rw [hn2]; exact IntWalk.i64_in _ (by omega)
    have HH := Lib.hid h; have HC := Lib.hid hC
    clear h hC heq he e1 hk
    have hc2 : ∀ nq : Nat, CntAt (w.drewN nq) C c := fun _ => HC.out
    have HC2 := Lib.hid hc2; clear hc2
    cases hkz : decide (0 < k)
    case false =>
      have hk0 : k = 0 := by simpa using hkz
      subst hk0
      rw [if_neg (by omega)]
      go_enter Tryz.func56, Tryz.ntmps56
      go_wp2_with fail
      go_quiet (fail)
      go_wp2_with (first
        | (go_at_call 51; refine (HP.out _ (HC2.out _)).mono ?_; rintro e w1 ⟨rfl, hC1, hg⟩; have hh : Hold w1 g 83 (filCells i x) := (HH.out.keep (hg.block g HH.out.lt (by simpa using hgC))); have hd1 : w1.cell? ⟨g, 1, none⟩ = some (.string x.c) := (by rw [hh.cell]; rfl); have hd2 : w1.cell? ⟨g, 2, none⟩ = some (.string x.d) := (by rw [hh.cell]; rfl); have hf1 := hh.frozen 1; have hf2 := hh.frozen 2; have H1 := Lib.hid hh; have HC1 := Lib.hid hC1; have HG := Lib.hid hg; clear hh hC1 hg)
        | fail)
      go_end0
      refine ⟨⟨_, rfl⟩, H1.out.set 1 (.string x.d), (Below.heap_setCell w1 ⟨g, 1, none⟩ _ C (Ne.symm hgC)).trans HC1.out, ⟨HG.out.os, HG.out.tape, HG.out.output, by have := HG.out.size; simpa [World.setCell] using this, fun b hb hnb => ?_, fun b hb => .inl hb⟩⟩
      rw [Below.heap_setCell w1 ⟨g, 1, none⟩ _ b (fun e => hnb (.inl e))]
      exact HG.out.block b hb (fun e => hnb (.inr (by injection e)))
    case true =>
      have hk0 : 0 < k := by simpa using hkz
      rw [if_pos hk0]
      have hki : (0 : Int) < (k : Int) := by omega
      have hk1 : (0 : Int) ≤ (k : Int) - 1 ∧ (k : Int) - 1 ≤ (x.c.size : Int) := by omega
      have hk2 : ((k : Int) - 1).toNat = k - 1 := by omega
      have hwk : IntKind.i64.wrap ((k : Int) - 1) = (k : Int) - 1 := IntWalk.i64_in _ (by omega)
      go_enter Tryz.func56, Tryz.ntmps56
      go_wp2_with fail
      go_quiet (fail)
      go_wp2_with (first
        | (go_at_call 51; refine (HP.out _ (HC2.out _)).mono ?_; rintro e w1 ⟨rfl, hC1, hg⟩; have hh : Hold w1 g 83 (filCells i x) := (HH.out.keep (hg.block g HH.out.lt (by simpa using hgC))); have hd1 : w1.cell? ⟨g, 1, none⟩ = some (.string x.c) := (by rw [hh.cell]; rfl); have hd2 : w1.cell? ⟨g, 2, none⟩ = some (.string x.d) := (by rw [hh.cell]; rfl); have hf1 := hh.frozen 1; have hf2 := hh.frozen 2; have H1 := Lib.hid hh; have HC1 := Lib.hid hC1; have HG := Lib.hid hg; clear hh hC1 hg)
        | fail)
      go_end0
      have hset := (H1.out.set 2 (.string (x.c.extract 0 (k - 1)))).set 1 (.string (x.c.extract 0 (k - 1)))
      refine ⟨⟨_, rfl⟩, hset, ?_, ⟨HG.out.os, HG.out.tape, HG.out.output, by have := HG.out.size; simpa [World.setCell] using this, fun b hb hnb => ?_, fun b hb => .inl hb⟩⟩
      · exact (Below.heap_setCell _ ⟨g, 1, none⟩ _ C (Ne.symm hgC)).trans ((Below.heap_setCell w1 ⟨g, 2, none⟩ _ C (Ne.symm hgC)).trans HC1.out)
      · rw [Below.heap_setCell _ ⟨g, 1, none⟩ _ b (fun e => hnb (.inl e)), Below.heap_setCell w1 ⟨g, 2, none⟩ _ b (fun e => hnb (.inl e))]
        exact HG.out.block b hb (fun e => hnb (.inr (by injection e)))
end Go.Proofs.YtdbcjiapbehacaaGreatDoor.Vp
