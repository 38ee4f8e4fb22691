/-
  What the rows of layer 7 ask: a start in which the listed variables lie; what the list gives the walks; days and rules by value.
-/
import Derived.Test.YtkfhipkcnocokaaDoorRows
import Derived.Test.YtkfhipkcnocokaaDoorFoSwitch2
import Derived.ProofKit
import Derived.LaidMore
import Derived.OpenShut
import Derived.Stop.Joined
import Derived.Stop.LaidErr
import Derived.Lib.LaidTab
import Derived.Lib.SmallJoins
import Derived.Carry
import Derived.WideKeyArgs
import Derived.ChangeMaps5
import Derived.ChangeArms
import Derived.Deep.Strs
namespace Go.Proofs.YtkfhipkcnocokaaDoor.Fo
open Go.ChangeShapes Go.WideShapes Go.ChangeAt Go.RowKit Go.Joins Go.Deep

theorem own : ownKnob Tryd.prog.godebug = none := by kernel_rfl
/-- The variables that the rows list. -/
def laid5 : List (String × DataW Unit) := [("math/bits.deBruijn32tab", Rows.laid_math_bits_deBruijn32tab), ("math/bits.deBruijn64tab", Rows.laid_math_bits_deBruijn64tab), ("internal/strconv.uint64pow10", Rows.laid_internal_strconv_uint64pow10), ("strconv.ErrRange", Rows.laid_strconv_ErrRange), ("strconv.ErrSyntax", Rows.laid_strconv_ErrSyntax)]
def laid6 : List (String × DataW Unit) := [("math/bits.deBruijn32tab", Rows.laid_math_bits_deBruijn32tab), ("math/bits.deBruijn64tab", Rows.laid_math_bits_deBruijn64tab), ("internal/strconv.uint64pow10", Rows.laid_internal_strconv_uint64pow10), ("strconv.ErrRange", Rows.laid_strconv_ErrRange), ("strconv.ErrSyntax", Rows.laid_strconv_ErrSyntax), ("clepsydra/civil.lengths", Rows.laid_clepsydra_civil_lengths)]
/-- A start in which they lie. -/
noncomputable def startL (os : Os) : World := World.doorLaid Tryd.prog 100 os
set_option maxRecDepth 100000 in
theorem startL_met6 (os : Os) (args : Array Value) : laidMetH Tryd.prog laid6 ((startL os).forCall (fun _ _ => 0) ⟨#[], args, []⟩).memory := by
  rw [MakeChecks.laidMetH_plain _ _ _ (by kernel_rfl)]
  exact laidMet_of_run' 8 (by kernel_rfl) (by kernel_rfl)
set_option maxRecDepth 100000 in
theorem startL_met5 (os : Os) (args : Array Value) : laidMetH Tryd.prog laid5 ((startL os).forCall (fun _ _ => 0) ⟨#[], args, []⟩).memory := by
  rw [MakeChecks.laidMetH_plain _ _ _ (by kernel_rfl)]
  exact laidMet_of_run' 8 (by kernel_rfl) (by kernel_rfl)
theorem gES : Tryd.prog.globalNamed "strconv.ErrSyntax" = some 3 := by kernel_rfl
theorem gER : Tryd.prog.globalNamed "strconv.ErrRange" = some 4 := by kernel_rfl
theorem gESType : (Tryd.prog.globals[3]?).map (·.type) = some 113 := by kernel_rfl
theorem gERType : (Tryd.prog.globals[4]?).map (·.type) = some 113 := by kernel_rfl
theorem laidOut : laidOutB Tryd.prog = true := by kernel_rfl
theorem star : "*" ++ "errors.errorString" = "*errors.errorString" := by decide
theorem rowES (u : TypeId) (h : Tryd.prog.typeName? 3 u = some "*errors.errorString") : u = 150 :=
  typeName_ptr_named (nm := "errors.errorString") (by rw [star]; kernel_rfl) (by kernel_rfl) (by decide) u (by rw [star]; exact h)
theorem cells_es : Tryd.prog.cellsOf 152 = 1 := by kernel_rfl
theorem cells_str : Tryd.prog.cellsOf 9 = 1 := by kernel_rfl
theorem cells_int : Tryd.prog.cellsOf 3 = 1 := by kernel_rfl
theorem cells_u8 : Tryd.prog.cellsOf 5 = 1 := by kernel_rfl
theorem cells_day : Tryd.prog.cellsOf 23 = 5 := by kernel_rfl
theorem cells_rule : Tryd.prog.cellsOf 25 = 14 := by kernel_rfl
/-- The list gives the library's errors. -/
theorem er_of' {r : List (String × DataW Unit)} {W : World} (h : laidMet Tryd.prog (("strconv.ErrRange", Rows.laid_strconv_ErrRange) :: ("strconv.ErrSyntax", Rows.laid_strconv_ErrSyntax) :: r) W) : Er W := by
  obtain ⟨a0, s0, hv0, -, -, -⟩ := laid_sentinel h gER gERType Tryd.underlying113 rowES Tryd.underlying150 Tryd.underlying152 rfl rfl Tryd.underlying9 cells_es cells_str
  obtain ⟨a1, s1, hv1, -, -, -⟩ := laid_sentinel h.tail gES gESType Tryd.underlying113 rowES Tryd.underlying150 Tryd.underlying152 rfl rfl Tryd.underlying9 cells_es cells_str
  exact ⟨⟨_, by have h0 := World.var?_cell gES hv1 0; simpa using h0, Or.inr ⟨_, _, rfl⟩⟩, ⟨_, by have h0 := World.var?_cell gER hv0 0; simpa using h0, Or.inr ⟨_, _, rfl⟩⟩⟩
theorem er_of6 {W : World} (h : laidMetH Tryd.prog laid6 W) : Er W := by
  rw [MakeChecks.laidMetH_plain _ _ _ (by kernel_rfl)] at h
  exact er_of' h.tail.tail.tail
theorem er_of5 {W : World} (h : laidMetH Tryd.prog laid5 W) : Er W := by
  rw [MakeChecks.laidMetH_plain _ _ _ (by kernel_rfl)] at h
  exact er_of' h.tail.tail.tail
theorem tab_of {W : World} (h : laidMetH Tryd.prog laid6 W) : Cv.Tab W := by
  rw [MakeChecks.laidMetH_plain _ _ _ (by kernel_rfl)] at h
  exact Lib.tabIs_of_head (k := .i64) (zs := Cv.tab) Cv.gTab (by kernel_rfl) Tryd.underlying108 Tryd.underlying3 (by kernel_rfl) (by kernel_rfl) h.tail.tail.tail.tail.tail
section
variable {H : Type} {enc : TypeId × Value → H} {P : Program}
/-- What came in reads behind the call as it did. -/
theorem all_stays (hl : laidOutB P = true) {W W' : World} {sp : Nat → Bool} : ∀ {ts : List TypeId} {vs : List Value} {ds : List (DataW H)} {ps : List MemPlace}, (∀ t ∈ ts, P.readableRec t = true ∧ t < P.types.size) →
    DataW.TrodAll enc P W 0 (fun _ => true) true ts vs ds ps → (∀ p ∈ ps, W.sameAt W' p) → (∀ p ∈ ps, sp p.block = true) → DataW.TrodAll enc P W' 0 sp true ts vs ds ps
  | [], [], [], _, _, h, _, _ => h
  | t0 :: _, _ :: _, _ :: _, _, ht, h, hs, hp => by
    obtain ⟨p, q, h1, h2, rfl⟩ := h
    obtain ⟨a, b⟩ := ht t0 (by simp)
    exact ⟨p, q, WideElems.Trod_stays hl a b h1 (fun x hx => hs x (by simp [hx])) (fun x hx => hp x (by simp [hx])), all_stays hl (fun t h => ht t (by simp [h])) h2 (fun x hx => hs x (by simp [hx])) (fun x hx => hp x (by simp [hx])), rfl⟩
/-- The end of a call that made at most new blocks, and answers what its law says. -/
theorem post_mem {f : Func} {s : ChangeSpec} {apart fresh handsOn again : Bool} {W W' : World} {args : Array Value} {v : Value} {ds gs : List (DataW H)} {before : List MemPlace} (hl : laidOutB P = true)
    (ht : ∀ t ∈ f.params.toList, P.readableRec t = true ∧ t < P.types.size) (hv : s.vars = [])
    (hW : DataW.Whole enc P f.params.toList s.vars apart W args.toList ds gs before)
    (hres : ∀ (b : Nat) (sp : Nat → Bool) (hd : Bool), DataW.TrodAll enc P W' b sp hd f.resultTypes.toList (v.resultList f.resultTypes.size) (s.fn H (ds ++ gs)).results [])
    (hargs : (s.fn H (ds ++ gs)).args = ds) (hvs : (s.fn H (ds ++ gs)).vars = []) (hb : Below W.heap.size W W')
    (hok : ∀ (j : Nat) (t : TypeId) (r : Value), f.resultTypes[j]? = some t → (v.resultList f.resultTypes.size)[j]? = some r → Value.okWide P W' .any 0 t r) :
    s.post enc P f apart fresh handsOn again W args v W' := by
  have hlt : ∀ p ∈ before, p.block < W.heap.size := fun p hp => hW.lt p hp
  have hW2 := hW
  obtain ⟨p0, q0, hA, hV, hpq, hz, hn⟩ := hW2
  rw [hv] at hV
  obtain ⟨rfl, rfl⟩ := trodVars_none hV
  rw [List.append_nil] at hpq
  subst hpq
  have hkeep : ∀ sp : Nat → Bool, (∀ p ∈ before, sp p.block = true) → DataW.TrodAll enc P W' 0 sp true f.params.toList args.toList (s.fn H (ds ++ [])).args before := fun sp hsp => by
    rw [hargs]; exact all_stays hl ht hA (fun x hx => hb.same (hlt x hx)) hsp
  have hvars : ∀ sp : Nat → Bool, DataW.TrodVars enc P W' sp s.vars (s.fn H (ds ++ [])).vars [] := fun sp => by
    rw [hv, hvs]; exact rfl
  have hold : ∀ p ∈ before, (fun b => decide (b < W.heap.size)) p.block = true := fun p hp => by simpa using hlt p hp
  refine ⟨ds, [], before, [], before, [], hW, hres _ _ _, hkeep _ hold, hvars _, World.keptBut_mono (fun p hp => ⟨hp, Or.inr (by simpa using hp)⟩) (hb.frame (· ∈ before)), fun _ => ?_⟩
  refine ⟨hok, _, _, ([] ++ before) ++ [], ⟨[] ++ before, [], trodAll_append (hkeep _ (fun _ _ => rfl)) (hres _ _ _), hvars _, rfl, ?_, ?_⟩, ?_⟩
  · intro b off hp
    have hin : MemPlace.cell b off ∈ before := by simpa using hp
    rw [hb.frozen (hlt _ hin)]
    exact hz b off hin
  · intro ha
    simpa using hn ha
  · intro p hp _
    simpa using hp
end

theorem wf_u16 {n : Int} (h : (Lit.int .u16 n).wf = true) : 0 ≤ n ∧ n ≤ 65535 := by
  simp [Lit.wf, IntKind.min, IntKind.max, IntKind.bits, IntKind.signed] at h
  omega
set_option maxRecDepth 100000 in
theorem wf_u32 {n : Int} (h : (Lit.int .u32 n).wf = true) : 0 ≤ n ∧ n ≤ 4294967295 := by
  simp [Lit.wf, IntKind.min, IntKind.max, IntKind.bits, IntKind.signed] at h
  omega
/-- What is known of a number, a day, a rule that came in. -/
structure I64 (a : Int) : Prop where
  lo : -9223372036854775808 ≤ a
  hi : a ≤ 9223372036854775807
theorem wf_i64 {n : Int} (h : (Lit.int .i64 n).wf = true) : I64 n := ⟨(Us.of_wf h).1, (Us.of_wf h).2⟩
structure DyIn (d : Dy) : Prop where
  month : I64 d.month
  week : I64 d.week
  day : I64 d.day
  time : I64 d.time
structure RlIn (r : Rl) : Prop where
  off : I64 r.off
  dstOff : I64 r.dstOff
  start : DyIn r.start
  end_ : DyIn r.end_
section
variable {H : Type} {enc : TypeId × Value → H} {w : World} {base : Nat} {sp : Nat → Bool} {held : Bool}
theorem int_of {n : Nat} {c : Value} {y : DataW H × List MemPlace} (h : DataW.trod enc Tryd.prog w base sp held n 3 [c] = some y) : ∃ a : Int, c = .int .i64 a ∧ I64 a := by
  obtain ⟨a, e, rfl, wa⟩ := DataW.trod_int Tryd.underlying3 h
  simp at e
  exact ⟨a, e, wf_i64 wa⟩
set_option maxRecDepth 100000 in
theorem day_of {n : Nat} {c0 c1 c2 c3 c4 : Value} {y : DataW H × List MemPlace} (hf : DataW.trod enc Tryd.prog w base sp held n 23 [c0, c1, c2, c3, c4] = some y) : ∃ d : Dy, [c0, c1, c2, c3, c4] = [.int .u8 d.kind, .int .i64 d.month, .int .i64 d.week, .int .i64 d.day, .int .i64 d.time] ∧ DyIn d := by
  obtain ⟨xs, n, _, hx, _, hlen, hfs⟩ := DataW.trod_struct Tryd.underlying23 hf
  match xs, hlen with
  | [y0, y1, y2, y3, y4], _ =>
    have k0 : DataW.trod enc Tryd.prog w base sp held n 5 [c0] = some y0 := by have := hfs 0 _ rfl; simpa [Value.cells, cells_u8] using this
    have k1 : DataW.trod enc Tryd.prog w base sp held n 3 [c1] = some y1 := by have := hfs 1 _ rfl; simpa [Value.cells, cells_int] using this
    have k2 : DataW.trod enc Tryd.prog w base sp held n 3 [c2] = some y2 := by have := hfs 2 _ rfl; simpa [Value.cells, cells_int] using this
    have k3 : DataW.trod enc Tryd.prog w base sp held n 3 [c3] = some y3 := by have := hfs 3 _ rfl; simpa [Value.cells, cells_int] using this
    have k4 : DataW.trod enc Tryd.prog w base sp held n 3 [c4] = some y4 := by have := hfs 4 _ rfl; simpa [Value.cells, cells_int] using this
    obtain ⟨a0, e, rfl, wa⟩ := DataW.trod_int Tryd.underlying5 k0
    simp at e
    obtain ⟨a1, rfl, i1⟩ := int_of k1
    obtain ⟨a2, rfl, i2⟩ := int_of k2
    obtain ⟨a3, rfl, i3⟩ := int_of k3
    obtain ⟨a4, rfl, i4⟩ := int_of k4
    subst e
    exact ⟨⟨a0, a1, a2, a3, a4⟩, rfl, i1, i2, i3, i4⟩
set_option maxRecDepth 100000 in
/-- A day by value. -/
theorem open_day {b0 : Nat} {r : Reach} {v : Value} {d : DataW H} {p : List MemPlace} (hv : Value.okWide Tryd.prog w r b0 23 v) (h : DataW.Trod enc Tryd.prog w base sp held 23 v d p) : ∃ d : Dy, v = dyV d ∧ DyIn d := by
  obtain ⟨cs, rfl, hsz⟩ := okWide_struct Tryd.underlying23 hv
  obtain ⟨l⟩ := cs
  match l, hsz.trans cells_day with
  | [c0, c1, c2, c3, c4], _ =>
    obtain ⟨fuel, hf⟩ := h
    obtain ⟨d, e, hi⟩ := day_of (c0 := c0) (c1 := c1) (c2 := c2) (c3 := c3) (c4 := c4) hf
    exact ⟨d, by rw [e], hi⟩
set_option maxRecDepth 100000 in
/-- A rule by value. -/
theorem open_rule {b0 : Nat} {r : Reach} {v : Value} {d : DataW H} {p : List MemPlace} (hv : Value.okWide Tryd.prog w r b0 25 v) (h : DataW.Trod enc Tryd.prog w base sp held 25 v d p) : ∃ r : Rl, v = rlV r ∧ RlIn r := by
  obtain ⟨cs, rfl, hsz⟩ := okWide_struct Tryd.underlying25 hv
  obtain ⟨l⟩ := cs
  match l, hsz.trans cells_rule with
  | [c0, c1, c2, c3, c4, c5, c6, c7, c8, c9, c10, c11, c12, c13], _ =>
    obtain ⟨fuel, hf⟩ := h
    obtain ⟨xs, n, _, hx, _, hlen, hfs⟩ := DataW.trod_struct Tryd.underlying25 hf
    match xs, hlen with
    | [y0, y1, y2, y3, y4, y5], _ =>
      have k0 : DataW.trod enc Tryd.prog w base sp held n 9 [c0] = some y0 := by have := hfs 0 _ rfl; simpa [Value.cells, cells_str] using this
      have k1 : DataW.trod enc Tryd.prog w base sp held n 9 [c1] = some y1 := by have := hfs 1 _ rfl; simpa [Value.cells, cells_str] using this
      have k2 : DataW.trod enc Tryd.prog w base sp held n 3 [c2] = some y2 := by have := hfs 2 _ rfl; simpa [Value.cells, cells_int] using this
      have k3 : DataW.trod enc Tryd.prog w base sp held n 3 [c3] = some y3 := by have := hfs 3 _ rfl; simpa [Value.cells, cells_int] using this
      have k4 : DataW.trod enc Tryd.prog w base sp held n 23 [c4, c5, c6, c7, c8] = some y4 := by have := hfs 4 _ rfl; simpa [Value.cells, cells_day] using this
      have k5 : DataW.trod enc Tryd.prog w base sp held n 23 [c9, c10, c11, c12, c13] = some y5 := by have := hfs 5 _ rfl; simpa [Value.cells, cells_day] using this
      obtain ⟨s0, e0, _, _⟩ := DataW.trod_string Tryd.underlying9 k0
      obtain ⟨s1, e1, _, _⟩ := DataW.trod_string Tryd.underlying9 k1
      obtain ⟨a2, rfl, i2⟩ := int_of k2
      obtain ⟨a3, rfl, i3⟩ := int_of k3
      obtain ⟨d4, e4, i4⟩ := day_of k4
      obtain ⟨d5, e5, i5⟩ := day_of k5
      simp only [List.cons.injEq, and_true] at e0 e1 e4 e5
      obtain ⟨rfl, rfl, rfl, rfl, rfl⟩ := e4
      obtain ⟨rfl, rfl, rfl, rfl, rfl⟩ := e5
      subst e0
      subst e1
      exact ⟨⟨s0, s1, a2, a3, d4, d5⟩, rfl, i2, i3, i4, i5⟩
end
end Go.Proofs.YtkfhipkcnocokaaDoor.Fo
