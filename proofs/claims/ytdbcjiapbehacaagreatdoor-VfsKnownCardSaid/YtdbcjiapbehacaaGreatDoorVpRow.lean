/-
  What the rows of layer 5 ask: a start in which the listed tables lie; a row of calls, opened; the end of a call that left all as it was below the heap's end.
-/
import Derived.Test.YtdbcjiapbehacaaGreatDoorRows
import Derived.Test.YtdbcjiapbehacaaGreatDoorVpA
import Derived.Deep.Slices
import Derived.Lib.SmallJoins
import Derived.ProofKit
import Derived.LaidMore
import Derived.OpenShut
import Derived.Stop.Joined
import Derived.Stop.LaidErr
import Derived.Carry
import Derived.WideKeyArgs
import Derived.ChangeMaps5
namespace Go.Proofs.YtdbcjiapbehacaaGreatDoor.Vp
open Go.ChangeShapes Go.WideShapes Go.ChangeAt Go.RowKit

theorem own : ownKnob Tryz.prog.godebug = none := by kernel_rfl
/-- The tables that the rows list. -/
def laid2 : List (String × DataW Unit) := [("unicode/utf8.acceptRanges", Rows.laid_unicode_utf8_acceptRanges), ("unicode/utf8.first", Rows.laid_unicode_utf8_first)]
/-- A block with the first bytes' table in the place of what it holds. -/
def firstIn : Obj → Obj
  | .cells _ t fr => .cells (Go.Pinned.utf8FirstZ.map fun (z : Nat) => Value.int .u8 (z : Int)).toArray t fr
  | o => o
/-- A start in which both lie. -/
noncomputable def startL (os : Os) : World := { World.doorLaid Tryz.prog 100 os with heap := (World.doorLaid Tryz.prog 100 os).heap.modify ((Tryz.prog.globalNamed "unicode/utf8.first").getD 0) firstIn }
set_option maxRecDepth 100000 in
theorem startL_met (os : Os) (args : Array Value) : laidMetH Tryz.prog laid2 ((startL os).forCall (fun _ _ => 0) ⟨#[], args, []⟩).memory :=
  laidMetH_of_parts3 (fuel := 8) (laidMet_of_run' 8 (by kernel_rfl) (by kernel_rfl)) (by kernel_rfl) (by kernel_rfl)

section
variable {H : Type} {enc : TypeId × Value → H} {P : Program}
/-- What came in reads behind the call as it did. -/
theorem all_stays (hl : laidOutB P = true) {W W' : World} {sp : Nat → Bool} : ∀ {ts : List TypeId} {vs : List Value} {ds : List (DataW H)} {ps : List MemPlace}, (∀ t ∈ ts, P.readableRec t = true ∧ t < P.types.size) →
    DataW.TrodAll enc P W 0 (fun _ => true) true ts vs ds ps → (∀ p ∈ ps, W.sameAt W' p) → (∀ p ∈ ps, sp p.block = true) → DataW.TrodAll enc P W' 0 sp true ts vs ds ps
  | [], [], [], _, _, h, _, _ => h
  | t0 :: _, _ :: _, _ :: _, _, ht, h, hs, hp => by
    obtain ⟨p, q, h1, h2, rfl⟩ := h
    obtain ⟨a, b⟩ := ht t0 (by simp)
    exact ⟨p, q, WideElems.Trod_stays hl a b h1 (fun x hx => hs x (by simp [hx])) (fun x hx => hp x (by simp [hx])), all_stays hl (fun t h => ht t (by simp [h])) h2 (fun x hx => hs x (by simp [hx])) (fun x hx => hp x (by simp [hx])), rfl⟩
/-- The end of a call that made at most new blocks, and answers what its law says. -/
theorem post_mem {f : Func} {s : ChangeSpec} {apart fresh handsOn again : Bool} {W W' : World} {args : Array Value} {v : Value} {ds gs : List (DataW H)} {before : List MemPlace} (hl : laidOutB P = true)
    (ht : ∀ t ∈ f.params.toList, P.readableRec t = true ∧ t < P.types.size) (hv : s.vars = [])
    (hW : DataW.Whole enc P f.params.toList s.vars apart W args.toList ds gs before)
    (hres : ∀ (b : Nat) (sp : Nat → Bool) (hd : Bool), DataW.TrodAll enc P W' b sp hd f.resultTypes.toList (v.resultList f.resultTypes.size) (s.fn H (ds ++ gs)).results [])
    (hargs : (s.fn H (ds ++ gs)).args = ds) (hvs : (s.fn H (ds ++ gs)).vars = []) (hb : Below W.heap.size W W')
    (hok : ∀ (j : Nat) (t : TypeId) (r : Value), f.resultTypes[j]? = some t → (v.resultList f.resultTypes.size)[j]? = some r → Value.okWide P W' .any 0 t r) :
    s.post enc P f apart fresh handsOn again W args v W' := by
  have hlt : ∀ p ∈ before, p.block < W.heap.size := fun p hp => hW.lt p hp
  have hW2 := hW
  obtain ⟨p0, q0, hA, hV, hpq, hz, hn⟩ := hW2
  rw [hv] at hV
  obtain ⟨rfl, rfl⟩ := trodVars_none hV
  rw [List.append_nil] at hpq
  subst hpq
  have hkeep : ∀ sp : Nat → Bool, (∀ p ∈ before, sp p.block = true) → DataW.TrodAll enc P W' 0 sp true f.params.toList args.toList (s.fn H (ds ++ [])).args before := fun sp hsp => by
    rw [hargs]; exact all_stays hl ht hA (fun x hx => hb.same (hlt x hx)) hsp
  have hvars : ∀ sp : Nat → Bool, DataW.TrodVars enc P W' sp s.vars (s.fn H (ds ++ [])).vars [] := fun sp => by
    rw [hv, hvs]; exact rfl
  have hold : ∀ p ∈ before, (fun b => decide (b < W.heap.size)) p.block = true := fun p hp => by simpa using hlt p hp
  refine ⟨ds, [], before, [], before, [], hW, hres _ _ _, hkeep _ hold, hvars _, World.keptBut_mono (fun p hp => ⟨hp, Or.inr (by simpa using hp)⟩) (hb.frame (· ∈ before)), fun _ => ?_⟩
  refine ⟨hok, _, _, ([] ++ before) ++ [], ⟨[] ++ before, [], trodAll_append (hkeep _ (fun _ _ => rfl)) (hres _ _ _), hvars _, rfl, ?_, ?_⟩, ?_⟩
  · intro b off hp
    have hin : MemPlace.cell b off ∈ before := by simpa using hp
    rw [hb.frozen (hlt _ hin)]
    exact hz b off hin
  · intro ha
    simpa using hn ha
  · intro p hp _
    simpa using hp
end

theorem wf_byte {n : Int} (h : (Lit.int .u8 n).wf = true) : 0 ≤ n ∧ n ≤ 255 := by
  simp [Lit.wf, IntKind.min, IntKind.max, IntKind.bits, IntKind.signed] at h
  omega
theorem wf_u16 {n : Int} (h : (Lit.int .u16 n).wf = true) : 0 ≤ n ∧ n ≤ 65535 := by
  simp [Lit.wf, IntKind.min, IntKind.max, IntKind.bits, IntKind.signed] at h
  omega
theorem wf_i64 {n : Int} (h : (Lit.int .i64 n).wf = true) : -9223372036854775808 ≤ n ∧ n ≤ 9223372036854775807 := by
  simp [Lit.wf, IntKind.min, IntKind.max, IntKind.bits, IntKind.signed] at h
  omega
/-- A call. -/
structure Op where
  kind : Int
  (a b : ByteArray)
  n : Int
  deriving Inhabited
/-- What is known of a call's parts. -/
structure Op.Ok (o : Op) : Prop where
  kind : 0 ≤ o.kind ∧ o.kind ≤ 255
  a : o.a.size ≤ maxLen
  b : o.b.size ≤ maxLen
  n : -9223372036854775808 ≤ o.n ∧ o.n ≤ 9223372036854775807
/-- A slice of calls, in blocks below B. -/
structure Ops (w : World) (B : Nat) (A : Option Addr) (n : Nat) (os : List Op) : Prop where
  len : os.length = n
  at_ : ∀ j o, os[j]? = some o → o.Ok ∧ ∃ g off, A = some ⟨g, off, none⟩ ∧ g < B ∧ w.cell? ⟨g, off + j * 4, none⟩ = some (.int .u8 o.kind) ∧ w.cell? ⟨g, off + j * 4 + 1, none⟩ = some (.string o.a) ∧ w.cell? ⟨g, off + j * 4 + 2, none⟩ = some (.string o.b) ∧ w.cell? ⟨g, off + j * 4 + 3, none⟩ = some (.int .i64 o.n)
theorem Ops.below {w w' : World} {B C n : Nat} {A : Option Addr} {os : List Op} (h : Ops w B A n os) (hb : Below C w w') (hB : B ≤ C) : Ops w' B A n os :=
  ⟨h.len, fun j o ho => by
    obtain ⟨h1, g, off, e, hg, c0, c1, c2, c3⟩ := h.at_ j o ho
    have hk : ∀ k v, w.cell? ⟨g, k, none⟩ = some v → w'.cell? ⟨g, k, none⟩ = some v := fun k v hv => (hb.cell (p := ⟨g, k, none⟩) (by show g < C; omega)).trans hv
    exact ⟨h1, g, off, e, hg, hk _ _ c0, hk _ _ c1, hk _ _ c2, hk _ _ c3⟩⟩
theorem spot_none {w : World} {a : Addr} {v : Value} (h : w.cell? a = some v) : a.spot = none := by
  unfold World.cell? at h
  split at h
  · split at h
    · cases h
    · rename_i hs; cases hsp : a.spot with
      | none => rfl
      | some x => rw [hsp] at hs; simp at hs
  · cases h
theorem add_none {b off k : Nat} : (⟨b, off, none⟩ : Addr).add k = ⟨b, off + k, none⟩ := by
  unfold Addr.add
  split
  · rename_i h; subst h; rfl
  · rfl
theorem op_cells : Tryz.prog.cellsOf 32 = 4 := by kernel_rfl
theorem u8_cells : Tryz.prog.cellsOf 5 = 1 := by kernel_rfl
theorem i64_cells : Tryz.prog.cellsOf 2 = 1 := by kernel_rfl
section
variable {H : Type} {enc : TypeId × Value → H} {w : World} {base b0 : Nat} {sp : Nat → Bool} {held : Bool} {r : Reach} {v : Value} {d : DataW H} {p : List MemPlace}
set_option maxRecDepth 100000 in
/-- A row of calls. -/
theorem open_ops (hv : Value.okWide Tryz.prog w r b0 22 v) (h : DataW.Trod enc Tryz.prog w base (fun _ => true) held 22 v d p) :
    ∃ (A : Option Addr) (n c : Nat) (os : List Op), v = .slice A n c ∧ n ≤ c ∧ n ≤ 9223372036854775807 ∧ Ops w w.heap.size A n os := by
  obtain ⟨a0, len, cap, rfl⟩ := okWide_slice Tryz.underlying22 hv
  obtain ⟨fuel, hf⟩ := h
  rcases Go.Deep.open_slice Tryz.underlying22 hf with ⟨hcs, _⟩ | ⟨a, len', cap', m, n, D, Pl, hcs, _, hl, hm, hmm, _, hx⟩
  · simp [Value.cells] at hcs
    obtain ⟨rfl, rfl, rfl⟩ := hcs
    exact ⟨none, 0, 0, [], rfl, Nat.le_refl _, by omega, rfl, fun j o ho => by simp at ho⟩
  · simp [Value.cells] at hcs
    obtain ⟨rfl, rfl, rfl⟩ := hcs
    have hml : cap ≤ 9223372036854775807 := by unfold maxLen at hm; omega
    have hlm : len ≤ m := by rw [hmm]; simp only [if_true]; exact hl
    have hsp : 0 < len → a.spot = none := fun h0 => by
      obtain ⟨cs', h1, h2⟩ := hx 0 (by omega)
      rw [op_cells] at h1
      obtain ⟨_, hlen, hcell⟩ := World.cells?_some h1
      have h3 := hcell 0 (by omega)
      rw [List.getElem?_eq_getElem (by omega)] at h3
      have h4 := spot_none h3
      simpa [Addr.add] using h4
    have each : ∀ i, i < len → ∃ o : Op, o.Ok ∧ ∃ g off, a = ⟨g, off, none⟩ ∧ g < w.heap.size ∧ w.cell? ⟨g, off + i * 4, none⟩ = some (.int .u8 o.kind) ∧ w.cell? ⟨g, off + i * 4 + 1, none⟩ = some (.string o.a) ∧ w.cell? ⟨g, off + i * 4 + 2, none⟩ = some (.string o.b) ∧ w.cell? ⟨g, off + i * 4 + 3, none⟩ = some (.int .i64 o.n) := fun i hi => by
      obtain ⟨cs', h1, h2⟩ := hx i (by omega)
      rw [op_cells] at h1
      obtain ⟨_, hlen, hcell⟩ := World.cells?_some h1
      obtain ⟨y0, y1, y2, y3, k, _, _, g0, g1, g2, g3⟩ := Go.Joins.trod_struct4 Tryz.underlying32 h2
      obtain ⟨ab, aoff, asp⟩ := a
      obtain rfl : asp = none := hsp (by omega)
      match cs', hlen with
      | [v0, v1, v2, v3], _ =>
        simp only [u8_cells, str_cells, i64_cells, List.drop_zero, List.drop_succ_cons, List.take_succ_cons, List.take_zero] at g0 g1 g2 g3
        obtain ⟨k0, hk0, _, w0⟩ := DataW.trod_int Tryz.underlying5 g0
        obtain ⟨s1, hs1, _, w1⟩ := DataW.trod_string Tryz.underlying9 g1
        obtain ⟨s2, hs2, _, w2⟩ := DataW.trod_string Tryz.underlying9 g2
        obtain ⟨k3, hk3, _, w3⟩ := DataW.trod_int Tryz.underlying2 g3
        injection hk0 with hk0; injection hs1 with hs1; injection hs2 with hs2; injection hk3 with hk3
        subst hk0; subst hs1; subst hs2; subst hk3
        have e0 := hcell 0 (by omega)
        have e1 := hcell 1 (by omega)
        have e2 := hcell 2 (by omega)
        have e3 := hcell 3 (by omega)
        rw [add_none, add_none] at e0 e1 e2 e3
        have hb := block_lt_of_cell e0
        exact ⟨⟨k0, s1, s2, k3⟩, ⟨wf_byte w0, w1, w2, wf_i64 w3⟩, ab, aoff, rfl, hb, e0, e1, e2, e3⟩
    obtain ⟨q, hq⟩ := Go.Deep.choose_lt each
    refine ⟨some a, len, cap, (List.range len).map q, rfl, hl, by omega, by simp, fun j o ho => ?_⟩
    have hj : j < len := by have := (List.getElem?_eq_some_iff.1 ho).1; simpa using this
    have ho2 : q j = o := by simpa [hj] using ho
    subst ho2
    obtain ⟨h1, g, off, e, rest⟩ := hq j hj
    exact ⟨h1, g, off, by rw [e], rest⟩
end
end Go.Proofs.YtdbcjiapbehacaaGreatDoor.Vp
