/-
  What the rows of layer 6 ask: a zone by value, opened; the end of a call that left all as it was below the heap's end.
-/
import Derived.Test.YtohpdpcjhmopbaaRows
import Derived.Test.YtohpdpcjhmopbaaTzMa
import Derived.Deep.Slices
import Derived.Lib.SmallJoins
import Derived.ProofKit
import Derived.OpenShut
import Derived.Carry
import Derived.WideKeyArgs
import Derived.ChangeMaps5
import Derived.Deep.Strs
import Derived.ChangeArms
namespace Go.Proofs.Ytohpdpcjhmopbaa.Tz
open Go.ChangeShapes Go.WideShapes Go.ChangeAt Go.RowKit Go.Joins Go.Deep

theorem own : ownKnob Try.prog.godebug = none := by kernel_rfl
theorem laidOut : laidOutB Try.prog = true := by kernel_rfl
section
variable {H : Type} {enc : TypeId × Value → H} {P : Program}
/-- What came in reads behind the call as it did. -/
theorem all_stays (hl : laidOutB P = true) {W W' : World} {sp : Nat → Bool} : ∀ {ts : List TypeId} {vs : List Value} {ds : List (DataW H)} {ps : List MemPlace}, (∀ t ∈ ts, P.readableRec t = true ∧ t < P.types.size) →
    DataW.TrodAll enc P W 0 (fun _ => true) true ts vs ds ps → (∀ p ∈ ps, W.sameAt W' p) → (∀ p ∈ ps, sp p.block = true) → DataW.TrodAll enc P W' 0 sp true ts vs ds ps
  | [], [], [], _, _, h, _, _ => h
  | t0 :: _, _ :: _, _ :: _, _, ht, h, hs, hp => by
    obtain ⟨p, q, h1, h2, rfl⟩ := h
    obtain ⟨a, b⟩ := ht t0 (by simp)
    exact ⟨p, q, WideElems.Trod_stays hl a b h1 (fun x hx => hs x (by simp [hx])) (fun x hx => hp x (by simp [hx])), all_stays hl (fun t h => ht t (by simp [h])) h2 (fun x hx => hs x (by simp [hx])) (fun x hx => hp x (by simp [hx])), rfl⟩
/-- The end of a call that made at most new blocks, and answers what its law says. -/
theorem post_mem {f : Func} {s : ChangeSpec} {apart fresh handsOn again : Bool} {W W' : World} {args : Array Value} {v : Value} {ds gs : List (DataW H)} {before : List MemPlace} (hl : laidOutB P = true)
    (ht : ∀ t ∈ f.params.toList, P.readableRec t = true ∧ t < P.types.size) (hv : s.vars = [])
    (hW : DataW.Whole enc P f.params.toList s.vars apart W args.toList ds gs before)
    (hres : ∀ (b : Nat) (sp : Nat → Bool) (hd : Bool), DataW.TrodAll enc P W' b sp hd f.resultTypes.toList (v.resultList f.resultTypes.size) (s.fn H (ds ++ gs)).results [])
    (hargs : (s.fn H (ds ++ gs)).args = ds) (hvs : (s.fn H (ds ++ gs)).vars = []) (hb : Below W.heap.size W W')
    (hok : ∀ (j : Nat) (t : TypeId) (r : Value), f.resultTypes[j]? = some t → (v.resultList f.resultTypes.size)[j]? = some r → Value.okWide P W' .any 0 t r) :
    s.post enc P f apart fresh handsOn again W args v W' := by
  have hlt : ∀ p ∈ before, p.block < W.heap.size := fun p hp => hW.lt p hp
  have hW2 := hW
  obtain ⟨p0, q0, hA, hV, hpq, hz, hn⟩ := hW2
  rw [hv] at hV
  obtain ⟨rfl, rfl⟩ := trodVars_none hV
  rw [List.append_nil] at hpq
  subst hpq
  have hkeep : ∀ sp : Nat → Bool, (∀ p ∈ before, sp p.block = true) → DataW.TrodAll enc P W' 0 sp true f.params.toList args.toList (s.fn H (ds ++ [])).args before := fun sp hsp => by
    rw [hargs]; exact all_stays hl ht hA (fun x hx => hb.same (hlt x hx)) hsp
  have hvars : ∀ sp : Nat → Bool, DataW.TrodVars enc P W' sp s.vars (s.fn H (ds ++ [])).vars [] := fun sp => by
    rw [hv, hvs]; exact rfl
  have hold : ∀ p ∈ before, (fun b => decide (b < W.heap.size)) p.block = true := fun p hp => by simpa using hlt p hp
  refine ⟨ds, [], before, [], before, [], hW, hres _ _ _, hkeep _ hold, hvars _, World.keptBut_mono (fun p hp => ⟨hp, Or.inr (by simpa using hp)⟩) (hb.frame (· ∈ before)), fun _ => ?_⟩
  refine ⟨hok, _, _, ([] ++ before) ++ [], ⟨[] ++ before, [], trodAll_append (hkeep _ (fun _ _ => rfl)) (hres _ _ _), hvars _, rfl, ?_, ?_⟩, ?_⟩
  · intro b off hp
    have hin : MemPlace.cell b off ∈ before := by simpa using hp
    rw [hb.frozen (hlt _ hin)]
    exact hz b off hin
  · intro ha
    simpa using hn ha
  · intro p hp _
    simpa using hp
end

theorem wf_byte {n : Int} (h : (Lit.int .u8 n).wf = true) : 0 ≤ n ∧ n ≤ 255 := by
  simp [Lit.wf, IntKind.min, IntKind.max, IntKind.bits, IntKind.signed] at h
  omega
theorem wf_u16 {n : Int} (h : (Lit.int .u16 n).wf = true) : 0 ≤ n ∧ n ≤ 65535 := by
  simp [Lit.wf, IntKind.min, IntKind.max, IntKind.bits, IntKind.signed] at h
  omega
theorem wf_i64 {n : Int} (h : (Lit.int .i64 n).wf = true) : -9223372036854775808 ≤ n ∧ n ≤ 9223372036854775807 := by
  simp [Lit.wf, IntKind.min, IntKind.max, IntKind.bits, IntKind.signed] at h
  omega
theorem spot_none {w : World} {a : Addr} {v : Value} (h : w.cell? a = some v) : a.spot = none := by
  unfold World.cell? at h
  split at h
  · split at h
    · cases h
    · rename_i hs; cases hsp : a.spot with
      | none => rfl
      | some x => rw [hsp] at hs; simp at hs
  · cases h
theorem wf_u32 {n : Int} (h : (Lit.int .u32 n).wf = true) : 0 ≤ n ∧ n ≤ 4294967295 := by
  simp [Lit.wf, IntKind.min, IntKind.max, IntKind.bits, IntKind.signed] at h
  omega
theorem add_any {b off k : Nat} : (⟨b, off, none⟩ : Addr).add k = ⟨b, off + k, none⟩ := by
  unfold Addr.add
  split
  · rename_i h; subst h; rfl
  · rfl
/-! ### A row, opened -/
section
variable {H : Type} {enc : TypeId × Value → H} {w : World} {base : Nat} {held : Bool}
set_option maxRecDepth 100000 in
theorem open_row {α : Type} [Inhabited α] {ts te sz n : Nat} {v : Value} {y : DataW H × List MemPlace} (ht : Try.prog.underlying ts = some (.slice te)) (hsz : Try.prog.cellsOf te = sz) (h0 : 0 < sz) (f : α → List Value) (ok : α → Prop) (hf : ∀ a, (f a).length = sz)
    (elem : ∀ (n : Nat) (cs : List Value) (x : DataW H × List MemPlace), cs.length = sz → DataW.trod enc Try.prog w base (fun _ => true) held n te cs = some x → ∃ a, ok a ∧ cs = f a)
    (h : DataW.trod enc Try.prog w base (fun _ => true) held n ts [v] = some y) : ∃ xs : List α, Sl w w.heap.size sz v (xs.map f) ∧ (∀ a ∈ xs, ok a) ∧ xs.length ≤ 9223372036854775807 := by
  rcases Go.Deep.open_slice ht h with ⟨hcs, _⟩ | ⟨a, len, cap, m, n, D, Pl, hcs, _, hl, hm, hmm, _, hx⟩
  · injection hcs with hcs; subst hcs
    exact ⟨[], ⟨⟨none, 0, rfl⟩, fun j row hj => by simp at hj⟩, fun a ha => by simp at ha, by simp⟩
  · injection hcs with hcs; subst hcs
    have hml : cap ≤ 9223372036854775807 := by unfold maxLen at hm; omega
    have hlm : len ≤ m := by rw [hmm]; simp only [if_true]; exact hl
    rw [hsz] at hx
    have hsp : 0 < len → a.spot = none := fun h1 => by
      obtain ⟨cs', g1, _⟩ := hx 0 (by omega)
      obtain ⟨_, hlen, hcell⟩ := World.cells?_some g1
      have h3 := hcell 0 h0
      rw [List.getElem?_eq_getElem (by omega)] at h3
      simpa [Addr.add] using spot_none h3
    have each : ∀ i, i < len → ∃ x : α, ok x ∧ ∃ g off, a = ⟨g, off, none⟩ ∧ g < w.heap.size ∧ ∀ k u, (f x)[k]? = some u → w.cell? ⟨g, off + i * sz + k, none⟩ = some u := fun i hi => by
      obtain ⟨cs', g1, g2⟩ := hx i (by omega)
      obtain ⟨_, hlen, hcell⟩ := World.cells?_some g1
      obtain ⟨ab, aoff, asp⟩ := a
      obtain rfl : asp = none := hsp (by omega)
      obtain ⟨x, hok, rfl⟩ := elem n cs' _ hlen g2
      have hc : ∀ k u, (f x)[k]? = some u → w.cell? ⟨ab, aoff + i * sz + k, none⟩ = some u := fun k u hu => by
        have hk : k < sz := by rw [← hf x]; exact (List.getElem?_eq_some_iff.1 hu).1
        have := hcell k hk
        rw [add_any, add_any, hu] at this
        exact this
      have hlt : ab < w.heap.size := by
        have := hc 0 _ (List.getElem?_eq_getElem (by rw [hf]; exact h0))
        exact block_lt_of_cell this
      exact ⟨x, hok, ab, aoff, rfl, hlt, hc⟩
    obtain ⟨q, hq⟩ := Go.Deep.choose_lt each
    refine ⟨(List.range len).map q, ⟨⟨some a, cap, by simp⟩, fun j row hj => ?_⟩, fun x hx => ?_, by simp; omega⟩
    · have hj1 : j < len := by have := (List.getElem?_eq_some_iff.1 hj).1; simpa using this
      have e : row = f (q j) := by simpa [hj1] using hj.symm
      subst e
      obtain ⟨_, g, off, e, hlt, hc⟩ := hq j hj1
      exact ⟨g, off, cap, by rw [e]; simp, hlt, hc⟩
    · obtain ⟨i, hi, rfl⟩ := List.mem_map.1 hx
      exact (hq i (List.mem_range.1 hi)).1
theorem cells_ty : Try.prog.cellsOf 54 = 3 := by kernel_rfl
theorem cells_zone : Try.prog.cellsOf 26 = 4 := by kernel_rfl
theorem cells_int : Try.prog.cellsOf 3 = 1 := by kernel_rfl
theorem cells_i64 : Try.prog.cellsOf 2 = 1 := by kernel_rfl
theorem cells_bool : Try.prog.cellsOf 4 = 1 := by kernel_rfl
theorem cells_str : Try.prog.cellsOf 9 = 1 := by kernel_rfl
theorem cells_tys : Try.prog.cellsOf 22 = 1 := by kernel_rfl
theorem cells_i64s : Try.prog.cellsOf 23 = 1 := by kernel_rfl
theorem cells_ints : Try.prog.cellsOf 24 = 1 := by kernel_rfl
instance : Inhabited Ty := ⟨⟨0, false, ⟨#[]⟩⟩⟩
structure I64 (a : Int) : Prop where
  lo : -9223372036854775808 ≤ a
  hi : a ≤ 9223372036854775807
structure TyIn (t : Ty) : Prop where
  off : -9223372036854775808 ≤ t.off ∧ t.off ≤ 9223372036854775807
  abbr : t.abbr.size ≤ 9223372036854775807
/-- What is known of a zone that came in. -/
structure ZnIn (z : Zn) : Prop where
  types : ∀ t ∈ z.types, TyIn t
  times : ∀ t ∈ z.times, I64 t
  index : ∀ t ∈ z.index, I64 t
  footer : z.footer.size ≤ 9223372036854775807
  ntypes : z.types.length ≤ 9223372036854775807
  ntimes : z.times.length ≤ 9223372036854775807
  nindex : z.index.length ≤ 9223372036854775807
set_option maxRecDepth 100000 in
theorem open_ints_row {ts te n : Nat} {v : Value} {y : DataW H × List MemPlace} (ht : Try.prog.underlying ts = some (.slice te)) (he : Try.prog.underlying te = some (.int .i64)) (hsz : Try.prog.cellsOf te = 1)
    (h : DataW.trod enc Try.prog w base (fun _ => true) held n ts [v] = some y) : ∃ xs : List Int, Sl w w.heap.size 1 v (xs.map intCells) ∧ (∀ a ∈ xs, I64 a) ∧ xs.length ≤ 9223372036854775807 :=
  open_row ht hsz (by decide) intCells I64 (fun _ => rfl) (fun n cs x hl hx => by
    match cs, hl with
    | [c], _ =>
      obtain ⟨a, e, _, wa⟩ := DataW.trod_int he hx
      injection e with e; subst e
      exact ⟨a, ⟨(wf_i64 wa).1, (wf_i64 wa).2⟩, rfl⟩) h
set_option maxRecDepth 100000 in
/-- A zone by value, opened. -/
theorem open_zone {b0 : Nat} {r : Reach} {v : Value} {d : DataW H} {p : List MemPlace} (hv : Value.okWide Try.prog w r b0 26 v) (h : DataW.Trod enc Try.prog w base (fun _ => true) held 26 v d p) :
    ∃ (z : Zn) (vt vs vi : Value), v = .agg #[vt, vs, vi, .string z.footer] ∧ ZnAt w w.heap.size z vt vs vi ∧ ZnIn z := by
  obtain ⟨cs, rfl, hsz⟩ := okWide_struct Try.underlying26 hv
  obtain ⟨l⟩ := cs
  match l, hsz.trans cells_zone with
  | [c0, c1, c2, c3], _ =>
    obtain ⟨fuel, hf⟩ := h
    obtain ⟨y0, y1, y2, y3, n, _, _, k0, k1, k2, k3⟩ := Go.Joins.trod_struct4 Try.underlying26 hf
    have i0 : DataW.trod enc Try.prog w base (fun _ => true) held n 22 [c0] = some y0 := by simpa [Value.cells, cells_tys] using k0
    have i1 : DataW.trod enc Try.prog w base (fun _ => true) held n 23 [c1] = some y1 := by simpa [Value.cells, cells_i64s] using k1
    have i2 : DataW.trod enc Try.prog w base (fun _ => true) held n 24 [c2] = some y2 := by simpa [Value.cells, cells_ints] using k2
    have i3 : DataW.trod enc Try.prog w base (fun _ => true) held n 9 [c3] = some y3 := by simpa [Value.cells, cells_str] using k3
    obtain ⟨s, e3, _, ws⟩ := DataW.trod_string Try.underlying9 i3
    injection e3 with e3; subst e3
    obtain ⟨ts, ht, htok, htl⟩ := open_row (α := Ty) Try.underlying22 cells_ty (by decide) tyCells TyIn (fun _ => rfl) (fun n cs x hl hx => by
      match cs, hl with
      | [x0, x1, x2], _ =>
        obtain ⟨z0, z1, z2, n', _, _, j0, j1, j2⟩ := trod_struct3 Try.underlying54 hx
        have j0' : DataW.trod enc Try.prog w base (fun _ => true) held n' 3 [x0] = some z0 := by simpa [cells_int] using j0
        have j1' : DataW.trod enc Try.prog w base (fun _ => true) held n' 4 [x1] = some z1 := by simpa [cells_bool] using j1
        have j2' : DataW.trod enc Try.prog w base (fun _ => true) held n' 9 [x2] = some z2 := by simpa [cells_str] using j2
        obtain ⟨a, e0, _, wa⟩ := DataW.trod_int Try.underlying3 j0'
        obtain ⟨b, e1, _⟩ := DataW.trod_bool Try.underlying4 j1'
        obtain ⟨t, e2, _, wt⟩ := DataW.trod_string Try.underlying9 j2'
        injection e0 with e0; injection e1 with e1; injection e2 with e2
        subst e0; subst e1; subst e2
        exact ⟨⟨a, b, t⟩, ⟨wf_i64 wa, by unfold maxLen at wt; exact wt⟩, rfl⟩) i0
    obtain ⟨tm, hm, hmok, hml⟩ := open_ints_row Try.underlying23 Try.underlying2 cells_i64 i1
    obtain ⟨ix, hi, hiok, hil⟩ := open_ints_row Try.underlying24 Try.underlying3 cells_int i2
    exact ⟨⟨ts, tm, ix, s⟩, c0, c1, c2, rfl, ⟨ht, hm, hi⟩, ⟨htok, hmok, hiok, by unfold maxLen at ws; exact ws, htl, hml, hil⟩⟩
end
end Go.Proofs.Ytohpdpcjhmopbaa.Tz
