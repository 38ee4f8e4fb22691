/-
  Layer 5: VpHas VpBegin VpFind VpFindDir, one behind the other.
-/
import Derived.Test.YtdbcjiapbehacaaGreatDoorVpA
import Derived.RangeFuncNested
import Derived.RangeFuncBound
import Derived.RangeFuncCalls
import Derived.RangeFuncLeaves
import Derived.Shelf.Abstract
import Derived.Shelf.RegionOpen
import Derived.OwnWalkIn
import Derived.TacticsInMore
import Derived.LoopNIn
import Derived.LoopIn
import Derived.Shelf.SlMaps.Clone
import Derived.Lib.QuietBelow
/-! Layer 5: is a path right: what stands between its slashes, one by one. -/
namespace Go.Proofs.YtdbcjiapbehacaaGreatDoor.Vp
open Go.RowKit Go.Maps Go.Shelf
open Go.Proofs.YtdbcjiapbehacaaGreatDoor.Vf (Hold OwnR Moves ret_int)
attribute [local go_sem] Oper.semAt_some

/-! ### Pieces -/
theorem index_none : ∀ {l : List UInt8}, Lib.indexByte l 47 = -1 → pieces l = [l]
  | [], _ => rfl
  | c :: l, h => by
    unfold Lib.indexByte at h
    by_cases hc : c = 47
    · rw [if_pos (by simp [hc])] at h; omega
    · rw [if_neg (by simpa using hc)] at h
      have h2 : Lib.indexByte l 47 = -1 := by
        by_cases h3 : Lib.indexByte l 47 = -1
        · exact h3
        · rw [if_neg (by simpa using h3)] at h
          have := Lib.indexByte_ge l 47; omega
      unfold pieces
      rw [if_neg hc, index_none h2]
theorem index_some : ∀ {l : List UInt8} {k : Nat}, Lib.indexByte l 47 = (k : Int) → k < l.length ∧ pieces l = l.take k :: pieces (l.drop (k + 1))
  | [], _, h => by simp [Lib.indexByte] at h
  | c :: l, k, h => by
    unfold Lib.indexByte at h
    by_cases hc : c = 47
    · rw [if_pos (by simp [hc])] at h
      obtain rfl : k = 0 := by omega
      refine ⟨by simp, ?_⟩
      rw [pieces, if_pos hc]; rfl
    · rw [if_neg (by simpa using hc)] at h
      by_cases h3 : Lib.indexByte l 47 = -1
      · rw [if_pos (by simpa using h3)] at h; omega
      · rw [if_neg (by simpa using h3)] at h
        obtain ⟨j, rfl⟩ : ∃ j, k = j + 1 := ⟨k - 1, by have := Lib.indexByte_ge l 47; omega⟩
        obtain ⟨h1, h2⟩ := index_some (l := l) (k := j) (by omega)
        refine ⟨by simp; omega, ?_⟩
        rw [pieces, if_neg hc, h2]
        simp
set_option maxRecDepth 100000 in
theorem splitSeq_any (s t : ByteArray) (w : World) : Calls Tryz.prog 71 #[.string s, .string t] w fun e w' => e = .returned (.func (.func 112) #[] #[.pointer (some ⟨w.heap.size + 1, 0, none⟩), .pointer (some ⟨w.heap.size, 0, none⟩), .pointer (some ⟨w.heap.size + 2, 0, none⟩)]) ∧ w' = ((w.alloc (.cells #[.string s] 9)).alloc (.cells #[.string t] 9)).alloc (.cells #[.int .i64 0] 3) := by
  go_enter Tryz.func71, Tryz.ntmps71
  go_wp2
  go_ret
  exact ⟨rfl, rfl⟩

/-- Between two rounds: what is left to be cut lies in its box. -/
structure St (w : World) (B : Nat) (rec : LoopState → Option Code → Loop) (r : ByteArray) (W : World) : Prop where
  res : W.heap[B]? = some (.cells #[.bool false] 4 (0, 0))
  box : W.heap[B + 1]? = some (.cells #[.string r] 9 (0, 0))
  sep : W.heap[B + 2]? = some (.cells #[.string ⟨#[47]⟩] 9 (0, 0))
  num : W.heap[B + 3]? = some (.cells #[.int .i64 0] 3 (0, 0))
  D : W.heap[B + 4]? = some (.deferred (some []))
  L : W.heap[B + 5]? = some (.loop (rec .ready none))
  below : Below B w W
structure Sx (w : World) (B : Nat) (rec : LoopState → Option Code → Loop) (W : World) : Prop where
  res : W.heap[B]? = some (.cells #[.bool false] 4 (0, 0))
  D : W.heap[B + 4]? = some (.deferred (some []))
  L : W.heap[B + 5]? = some (.loop (rec .done (some .ret)))
  below : Below B w W
theorem box_cell {W : World} {g : Nat} {v : Value} {t : TypeId} (h : W.heap[g]? = some (.cells #[v] t (0, 0))) : W.cell? ⟨g, 0, none⟩ = some v ∧ W.frozen? ⟨g, 0, none⟩ = false := by
  constructor
  · simp [World.cell?, h]
  · simp [World.frozen?, h]
theorem box_set {W : World} {g : Nat} {v u : Value} {t : TypeId} (h : W.heap[g]? = some (.cells #[v] t (0, 0))) : (W.setCell ⟨g, 0, none⟩ u).heap[g]? = some (.cells #[u] t (0, 0)) := by
  simp [World.setCell, Array.getElem?_modify, h]
theorem St.cut {w : World} {B : Nat} {rec : LoopState → Option Code → Loop} {r r' : ByteArray} {W : World} (h : St w B rec r W) : St w B rec r' (W.setCell ⟨B + 1, 0, none⟩ (.string r')) where
  res := (Below.heap_setCell W ⟨B + 1, 0, none⟩ _ B (by simp)).trans h.res
  box := box_set h.box
  sep := (Below.heap_setCell W ⟨B + 1, 0, none⟩ _ (B + 2) (by simp)).trans h.sep
  num := (Below.heap_setCell W ⟨B + 1, 0, none⟩ _ (B + 3) (by simp)).trans h.num
  D := (Below.heap_setCell W ⟨B + 1, 0, none⟩ _ (B + 4) (by simp)).trans h.D
  L := (Below.heap_setCell W ⟨B + 1, 0, none⟩ _ (B + 5) (by simp)).trans h.L
  below := h.below.setCell (p := ⟨B + 1, 0, none⟩) (Nat.le_succ _) _

/-- How long is what is left? -/
def leftLen (B : Nat) (W : World) : Nat := match W.cell? ⟨B + 1, 0, none⟩ with | some (.string r) => r.size | _ => 0
theorem leftLen_eq {w : World} {B : Nat} {rec : LoopState → Option Code → Loop} {r : ByteArray} {W : World} (h : St w B rec r W) : leftLen B W = r.size := by
  unfold leftLen; rw [(box_cell h.box).1]

set_option maxRecDepth 100000 in
set_option maxHeartbeats 2000000 in
theorem split_walk (w : World) (B : Nat) (rec : LoopState → Option Code → Loop) (n : Nat) (hn : 2 ≤ n) (s : ByteArray) (hs : s.size ≤ 1048576)
    (hY : ∀ (x r : ByteArray) (W : World), St w B rec r W → YieldAt Fence.wide (n - 1) Tryz.prog (B + 5) #[.string x] W fun e W' => (goodName x.data.toList = true ∧ e = .returned (.bool true) ∧ St w B rec r W') ∨ (goodName x.data.toList = false ∧ e = .returned (.bool false) ∧ Sx w B rec W'))
    (W0 : World) (h0 : St w B rec s W0) :
    CallsIn Fence.wide n Tryz.prog 112 #[.func (.yield (B + 5)) #[] #[], .pointer (some ⟨B + 2, 0, none⟩), .pointer (some ⟨B + 1, 0, none⟩), .pointer (some ⟨B + 3, 0, none⟩)] W0 fun e W' => (∃ v, e = .returned v) ∧ (((pieces s.data.toList).all goodName = true ∧ ∃ r, St w B rec r W') ∨ ((pieces s.data.toList).all goodName = false ∧ Sx w B rec W')) := by
  obtain ⟨hk1, _⟩ := box_cell h0.sep
  refine callsIn_of_wp Tryz.func112 rfl trivial ?_ rfl
  simp only [Tryz.ntmps112, List.size_toArray, List.length_cons, List.length_nil, Nat.reduceAdd, Nat.reduceSub, Array.replicate_succ, Array.replicate_zero, List.push_toArray, List.append_toArray, List.nil_append, List.cons_append]
  gi_wp2
  gi_loopw [7] (fun _ wr => ∃ r : ByteArray, St w B rec r wr ∧ r.size ≤ 1048576 ∧ (pieces r.data.toList).all goodName = (pieces s.data.toList).all goodName) (fun _ wr => leftLen B wr)
  case atStart => exact ⟨s, h0, hs, rfl⟩
  case round =>
    obtain ⟨r, hst, hrs, hall⟩ := hrel
    obtain ⟨hb1, hf1⟩ := box_cell hst.box
    obtain ⟨hb2, _⟩ := box_cell hst.sep
    obtain ⟨hb3, _⟩ := box_cell hst.num
    have HA := Lib.hid hall; clear hall
    have hLL := leftLen_eq hst
    have HLL := Lib.hid hLL; clear hLL
    have hge := Lib.indexByte_ge r.data.toList 47
    obtain ⟨i, hi⟩ : ∃ i, Lib.indexByte r.data.toList 47 = i := ⟨_, rfl⟩
    have hcall : ∀ W : World, Calls Tryz.prog 114 #[.string r, .string ⟨#[47]⟩] W fun e w' => e = .returned (.int .i64 i) ∧ w' = W := fun W => (Tryz.strings_Index_one r 47 W).mono fun e w' ⟨he, hw⟩ => ⟨by rw [he, hi], hw⟩
    have HC := Lib.hid hcall; clear hcall
    by_cases hneg : i = -1
    · rw [hneg] at hi HC
      have hp := index_none hi
      have HP := Lib.hid hp
      have HY := Lib.hid (hY r r wr hst)
      clear hp hi hge
      obtain ⟨fn, tmps, assign, body, hy, hR⟩ := HY.out
      have HR := Lib.hid hR; clear hR
      gi_wp2_with (first
        | (refine ⟨trivial, fun _ => by omega, ?_⟩; gi_at_call 114; refine (callsIn_wide.2 (HC.out _)).mono ?_; rintro e w' ⟨rfl, rfl⟩)
        | fail)
      refine ⟨fun _ => by omega, HR.out.mono ?_⟩
      have hone : ∀ b, goodName r.data.toList = b → (pieces s.data.toList).all goodName = b := fun b hb => by rw [← HA.out, HP.out]; simp [hb]
      have HO := Lib.hid hone; clear hone
      rintro e W' (⟨hg, rfl, h2⟩ | ⟨hg, rfl, h2⟩)
      · have HG := Lib.hid hg; have H2 := Lib.hid h2
        clear hg h2
        gi_wp2
        go_end0
        exact ⟨⟨_, rfl⟩, .inl ⟨HO.out _ HG.out, _, H2.out⟩⟩
      · have HG := Lib.hid hg; have H2 := Lib.hid h2
        clear hg h2
        gi_wp2
        go_end0
        exact ⟨⟨_, rfl⟩, .inr ⟨HO.out _ HG.out, H2.out⟩⟩
    · obtain ⟨k, rfl⟩ : ∃ k : Nat, i = (k : Int) := ⟨i.toNat, by omega⟩
      obtain ⟨hkl, hp⟩ := index_some hi
      rw [← Lib.size_eq] at hkl
      have hp' : pieces r.data.toList = (r.extract 0 k).data.toList :: pieces (r.extract (k + 1) r.size).data.toList := by
        rw [hp, Lib.extract_data, Lib.extract_data]
        congr 2
        rw [List.take_of_length_le]
        rw [List.length_drop, ← Lib.size_eq]; omega
      have hsz2 : (r.extract (k + 1) r.size).size = r.size - (k + 1) := by rw [ByteArray.size_extract]; omega
      have HP := Lib.hid hp'; have HS2 := Lib.hid hsz2
      have HY := Lib.hid (hY (r.extract 0 k) r wr hst)
      clear hp hp' hi hge hneg hsz2
      obtain ⟨fn, tmps, assign, body, hy, hR⟩ := HY.out
      have HR := Lib.hid hR; clear hR
      have hk0 : (k : Int) ≤ (r.size : Int) := by omega
      have hk1 : (k : Int) + 1 ≤ (r.size : Int) := by omega
      gi_wp2_with (first
        | (refine ⟨trivial, fun _ => by omega, ?_⟩; gi_at_call 114; refine (callsIn_wide.2 (HC.out _)).mono ?_; rintro e w' ⟨rfl, rfl⟩)
        | fail)
      refine ⟨fun _ => by omega, HR.out.mono ?_⟩
      rintro e W' (⟨hg, rfl, h2⟩ | ⟨hg, rfl, h2⟩)
      · obtain ⟨hc1, hcf⟩ := box_cell h2.box
        obtain ⟨hc2, _⟩ := box_cell h2.sep
        have HG := Lib.hid hg; have H2 := Lib.hid h2
        clear hg h2 hb1 hf1 hb2 hb3 hst hy
        gi_wp2
        go_roundw
        case rel => exact ⟨_, H2.out.cut, by rw [HS2.out]; omega, by rw [← HA.out, HP.out, List.all_cons, HG.out, Bool.true_and]⟩
        case measure => rw [HLL.out, leftLen_eq (H2.out.cut (r' := r.extract (k + 1) r.size)), HS2.out]; omega
      · have HG := Lib.hid hg; have H2 := Lib.hid h2
        clear hg h2
        gi_wp2
        refine bodyPost_ret (results_none rfl _ _ _) rfl ?_
        exact ⟨⟨_, rfl⟩, .inr ⟨by rw [← HA.out, HP.out, List.all_cons, HG.out]; rfl, H2.out⟩⟩

theorem index_byte_none {l : List UInt8} {c : UInt8} : Lib.indexByte l c = -1 ↔ l.contains c = false := by
  induction l with
  | nil => simp [Lib.indexByte]
  | cons b l ih =>
    have hge := Lib.indexByte_ge l c
    unfold Lib.indexByte
    by_cases h : b = c
    · subst h; simp
    · have h2 : (b == c) = false := by simpa using h
      rw [h2]
      by_cases h3 : Lib.indexByte l c = -1
      · simp [h3]; exact ⟨Ne.symm h, by simpa using ih.1 h3⟩
      · have h4 : ¬ l.contains c = false := fun h => h3 (ih.2 h)
        have h5 : (Lib.indexByte l c == -1) = false := by simpa using h3
        simp only [h5, if_false, Bool.false_eq_true]
        constructor
        · intro h; omega
        · intro h; simp at h; exact absurd (by simpa using h.2) h4
/-- The loop's record. -/
def recOf (fn : FuncId) (tmps : Array Value) (assign body : Code) (D : Nat) (st : LoopState) (pe : Option Code) : Loop := { state := st, pending := pe, fn, tmps, params := #[15], assign, body, defers := D }
/-- What stands behind the loop: the result's box, and the mark's block. -/
structure Behind (w : World) (B : Nat) (W : World) : Prop where
  res : W.heap[B]? = some (.cells #[.bool false] 4 (0, 0))
  D : W.heap[B + 4]? = some (.deferred (some []))
  below : Below B w W
theorem behind_put {w : World} {B : Nat} {W : World} {o : Obj} (hr : W.heap[B]? = some (.cells #[.bool false] 4 (0, 0))) (hD : W.heap[B + 4]? = some (.deferred (some []))) (hb : Below B w W) : Behind w B (W.putObj (B + 5) o) :=
  ⟨(World.putObj_heap_other (by omega)).trans hr, (World.putObj_heap_other (by omega)).trans hD, hb.grown (grownBy_putObj' _ _ _) (by have := (Array.getElem?_eq_some_iff.1 hD).1; omega) (fun k e => by cases e; omega)⟩
theorem wpIn_split (w : World) (B : Nat) (hB : w.heap.size = B) (t : ByteArray) (ht : t.size ≤ 1048576) {g : Operand} {assign body : Code} {Q : Exit → Act → World → Prop} {a : Act}
    (hg : a.eval g = .func (.func 112) #[] #[.pointer (some ⟨B + 2, 0, none⟩), .pointer (some ⟨B + 1, 0, none⟩), .pointer (some ⟨B + 3, 0, none⟩)])
    (hround : ∀ (fn : FuncId) (rec : LoopState → Option Code → Loop), (rec .ready none).state = .ready → (∀ st pe, { rec .ready none with state := st, pending := pe } = rec st pe) → ∀ (x r : ByteArray) (W : World), St w B rec r W → RoundIn Fence.wide 4 Tryz.prog (B + 5) fn (a.tmps.setIfInBounds 15 (.string x)) assign body W fun e W' =>
      (goodName x.data.toList = true ∧ e = .returned (.bool true) ∧ St w B rec r W') ∨ (goodName x.data.toList = false ∧ e = .returned (.bool false) ∧ Sx w B rec W'))
    (hdone : (pieces t.data.toList).all goodName = true → ∀ W, Behind w B W → Q .normal { a with defers := { target := .collected (B + 4), args := #[] } :: a.defers } W)
    (hstop : (pieces t.data.toList).all goodName = false → ∀ W, Behind w B W → Code.ret.wpIn Fence.wide 6 Tryz.prog Q { a with defers := { target := .collected (B + 4), args := #[] } :: a.defers } W) :
    (Code.rangeFunc g #[15] assign body).wpIn Fence.wide 6 Tryz.prog Q a ((((w.alloc (.cells #[.bool false] 4)).alloc (.cells #[.string t] 9)).alloc (.cells #[.string ⟨#[47]⟩] 9)).alloc (.cells #[.int .i64 0] 3)) := by
  obtain ⟨W0, hW0⟩ : ∃ W0, (((w.alloc (.cells #[.bool false] 4)).alloc (.cells #[.string t] 9)).alloc (.cells #[.string ⟨#[47]⟩] 9)).alloc (.cells #[.int .i64 0] 3) = W0 := ⟨_, rfl⟩
  have hs0 : W0.heap.size = B + 4 := by rw [← hW0, ← hB]; simp
  have hg0 : ∀ k : Nat, W0.heap[k]? = ((((w.heap.push (.cells #[.bool false] 4 (0, 0))).push (.cells #[.string t] 9 (0, 0))).push (.cells #[.string ⟨#[47]⟩] 9 (0, 0))).push (.cells #[.int .i64 0] 3 (0, 0)))[k]? := fun k => by rw [← hW0]; rfl
  have hb0 : Below B w W0 := by rw [← hW0, ← hB]; exact ((((Below.refl _ w).alloc (Nat.le_refl _) _).alloc (by simp) _).alloc (by simp; omega) _).alloc (by simp; omega) _
  rw [hW0]
  refine wpIn_rangeFunc ?_
  intro fn hfn
  obtain ⟨W1, hW1⟩ : ∃ W1, (W0.alloc (.deferred (some []))).alloc (.loop (recOf fn a.tmps assign body (B + 4) .ready none)) = W1 := ⟨_, rfl⟩
  have hst : St w B (recOf fn a.tmps assign body (B + 4)) t W1 := by
    have hold : ∀ k, k < B + 4 → W1.heap[k]? = W0.heap[k]? := fun k hk => by rw [← hW1]; exact (Below.heap_alloc _ _ k (by simp; omega)).trans (Below.heap_alloc _ _ k (by omega))
    refine ⟨(hold B (by omega)).trans ?_, (hold _ (by omega)).trans ?_, (hold _ (by omega)).trans ?_, (hold _ (by omega)).trans ?_, ?_, ?_, ?_⟩
    · rw [hg0, Array.getElem?_push, if_neg (by simp; omega), Array.getElem?_push, if_neg (by simp; omega), Array.getElem?_push, if_neg (by simp; omega), Array.getElem?_push, if_pos (by omega)]
    · rw [hg0, Array.getElem?_push, if_neg (by simp; omega), Array.getElem?_push, if_neg (by simp; omega), Array.getElem?_push, if_pos (by simp; omega)]
    · rw [hg0, Array.getElem?_push, if_neg (by simp; omega), Array.getElem?_push, if_pos (by simp; omega)]
    · rw [hg0, Array.getElem?_push, if_pos (by simp; omega)]
    · rw [← hW1]
      have := World.alloc_heap_new W0 (.deferred (some []))
      rw [hs0] at this
      exact (Below.heap_alloc _ _ _ (by simp; omega)).trans this
    · rw [← hW1]
      have := World.alloc_heap_new (W0.alloc (.deferred (some []))) (.loop (recOf fn a.tmps assign body (B + 4) .ready none))
      rwa [World.size_alloc, hs0] at this
    · rw [← hW1]; exact (hb0.alloc (by omega) _).alloc (by simp; omega) _
  refine ⟨B + 5, [{ target := .collected (B + 4), args := #[] }], W1, { target := .fn (.func 112) #[.pointer (some ⟨B + 2, 0, none⟩), .pointer (some ⟨B + 1, 0, none⟩), .pointer (some ⟨B + 3, 0, none⟩)], args := #[.func (.yield (B + 5)) #[] #[]] }, W1, 112,
    #[.func (.yield (B + 5)) #[] #[], .pointer (some ⟨B + 2, 0, none⟩), .pointer (some ⟨B + 1, 0, none⟩), .pointer (some ⟨B + 3, 0, none⟩)], W1, ?_, ?_, fun _ _ => trivial, ?_, fun _ => by omega, ?_⟩
  · have := run_enterLoop_outer (P := Tryz.prog) (w := W0) fn a.tmps #[15] assign body
    rw [hs0] at this
    rw [← hW1]
    exact this
  · simp only [resolve, hg]
    simp [go_sem]
  · have eg : ∀ args w, (callFunc 112 args).run Tryz.prog w = .ok (.enter 112 args) w := enters_of Tryz.func112 (by kernel_rfl) rfl
    simp [invoke, go_sem, eg]
  · refine (split_walk w B (recOf fn a.tmps assign body (B + 4)) 5 (by omega) t ht (fun x r W h => ?_) W1 hst).mono ?_
    · refine ⟨fn, a.tmps.setIfInBounds 15 (.string x), assign, body, ?_, hround fn _ rfl (fun _ _ => rfl) x r W h⟩
      have hy := run_yield (P := Tryz.prog) (args := #[.string x]) h.L rfl
      simpa [recOf] using hy
    · rintro e W2 ⟨⟨v, rfl⟩, (⟨hall, r, h2⟩ | ⟨hall, h2⟩)⟩
      · exact ⟨none, _, run_endLoop h2.L (by simp [recOf]), hdone hall _ (behind_put h2.res h2.D h2.below)⟩
      · exact ⟨some .ret, _, run_endLoop h2.L (by simp [recOf]), hstop hall _ (behind_put h2.res h2.D h2.below)⟩
set_option maxRecDepth 100000 in
set_option maxHeartbeats 2000000 in
theorem hasName_any (p : ByteArray) (w : World) (hp : okS p) : Calls Tryz.prog 43 #[.string p] w fun e w' => e = .returned (.bool (hasName p.data.toList)) ∧ Below w.heap.size w w' := by
  unfold okS at hp
  refine (callsIn_wide (n := 6)).1 ?_
  refine callsIn_of_wp_marks Tryz.func43 rfl trivial ?_ rfl
  simp only [Tryz.ntmps43, List.size_toArray, List.length_cons, List.length_nil, Nat.reduceAdd, Nat.reduceSub, Array.replicate_succ, Array.replicate_zero, List.push_toArray, List.append_toArray, List.nil_append, List.cons_append]
  obtain ⟨t, ht⟩ : ∃ t : ByteArray, (⟨(Lib.trimPrefix p.data.toList [47]).toArray⟩ : ByteArray) = t := ⟨_, rfl⟩
  obtain ⟨b, hb⟩ : ∃ b, Lib.hasPrefix p.data.toList [47] = b := ⟨_, rfl⟩
  have hc : ∀ W : World, Calls Tryz.prog 70 #[.string p, .string ⟨#[47]⟩] W fun e w' => e = .returned (.tuple #[.string t, .bool b]) ∧ w' = W := fun W => by
    rw [← ht, ← hb]
    exact Tryz.strings_CutPrefix p ⟨#[47]⟩ W
  have HC := Lib.hid hc
  clear hc
  cases b with
  | false =>
    have hn : hasName p.data.toList = false := by
      cases hl : p.data.toList with
      | nil => rfl
      | cons c l =>
        rw [hl] at hb
        have : c ≠ 47 := fun e => by subst e; simp [Lib.hasPrefix] at hb
        simp [hasName, this]
    rw [hn]
    clear ht hb hn
    gi_wp2_with (first
      | (refine ⟨trivial, ?_⟩; gi_at_call 70; refine (callsIn_wide.2 (HC.out _)).mono ?_; rintro e w' ⟨rfl, rfl⟩)
      | fail)
    exact ⟨.bool false, by simp [results, Tryz.results43, go_sem], rfl, (Below.refl _ _).alloc (Nat.le_refl _) _⟩
  | true =>
    have hl : p.data.toList = 47 :: t.data.toList := by
      rw [← ht]
      have h1 := hb
      unfold Lib.hasPrefix at h1
      rw [List.isPrefixOf_iff_prefix] at h1
      obtain ⟨r, hr⟩ := h1
      unfold Lib.trimPrefix
      rw [hb, if_pos rfl, ← hr]; rfl
    have hn : hasName p.data.toList = (pieces t.data.toList).all goodName := by rw [hl]; simp [hasName]
    have hts : t.size ≤ 1048576 := by
      have := congrArg List.length hl
      rw [← Lib.size_eq] at this
      simp only [List.length_cons, ← Lib.size_eq] at this; omega
    obtain ⟨b, hbb⟩ : ∃ b, (pieces t.data.toList).all goodName = b := ⟨_, rfl⟩
    rw [hn, hbb]
    have HB := Lib.hid hbb
    clear ht hb hn hl hbb
    gi_wp2_with (first
      | (refine ⟨trivial, ?_⟩; gi_at_call 70; refine (callsIn_wide.2 (HC.out _)).mono ?_; rintro e w' ⟨rfl, rfl⟩)
      | (refine ⟨trivial, ?_⟩; gi_at_call 71; refine (callsIn_wide.2 (splitSeq_any t ⟨#[47]⟩ _)).mono ?_; rintro e w' ⟨rfl, rfl⟩)
      | fail)
    obtain ⟨B, hB⟩ : ∃ B, w.heap.size = B := ⟨_, rfl⟩
    rw [hB]
    refine wpIn_split w B hB t hts rfl ?round ?done ?stop
    case round =>
      intro fn rec hst0 hrec x r W hst
      have hbr := run_beginRound (P := Tryz.prog) hst.L hst0
      have hBl : B + 5 < W.heap.size := (Array.getElem?_eq_some_iff.1 hst.L).1
      obtain ⟨W2, hW2⟩ : ∃ W2, W.putObj (B + 5) (.loop { rec .ready none with state := .busy }) = W2 := ⟨_, rfl⟩
      rw [hW2] at hbr
      have hL2 : W2.heap[B + 5]? = some (.loop { rec .ready none with state := .busy }) := by rw [← hW2]; exact World.putObj_heap_same hBl
      have hk2 : ∀ k, k ≠ B + 5 → W2.heap[k]? = W.heap[k]? := fun k hk => by rw [← hW2]; exact World.putObj_heap_other hk
      have hb2 : Below B w W2 := by rw [← hW2]; exact hst.below.grown (grownBy_putObj' _ _ _) (by omega) (fun k e => by cases e; omega)
      have hgo : Hid (∀ W3 : World, W3 = W2 → ∃ v w', (Instr.endRound (B + 5) none).run Tryz.prog W3 = .ok v w' ∧ (v = .bool true ∧ St w B rec r w')) := by
        rintro W3 rfl
        refine ⟨_, _, run_endRound none hL2, rfl, ?_⟩
        have hL3 := World.putObj_heap_same (w := W3) (o := .loop (rec .ready none)) (Array.getElem?_eq_some_iff.1 hL2).1
        have e1 : ({ { rec .ready none with state := .busy } with state := if (none : Option Code).isNone then .ready else .done, pending := none } : Loop) = rec .ready none := hrec .ready none
        rw [e1]
        have hot : ∀ k, k ≠ B + 5 → (W3.putObj (B + 5) (.loop (rec .ready none))).heap[k]? = W.heap[k]? := fun k hk => (World.putObj_heap_other hk).trans (hk2 k hk)
        exact ⟨(hot _ (by omega)).trans hst.res, (hot _ (by omega)).trans hst.box, (hot _ (by omega)).trans hst.sep, (hot _ (by omega)).trans hst.num, (hot _ (by omega)).trans hst.D, hL3, hb2.grown (grownBy_putObj' _ _ _) (by have := (Array.getElem?_eq_some_iff.1 hL2).1; omega) (fun k e => by cases e; omega)⟩
      have hno : Hid (∀ W3 : World, W3 = W2.setCell ⟨B, 0, none⟩ (.bool false) → ∃ v w', (Instr.endRound (B + 5) (some .ret)).run Tryz.prog W3 = .ok v w' ∧ (v = .bool false ∧ Sx w B rec w')) := by
        rintro W3 hW3
        have hot3 : ∀ k, k ≠ B → W3.heap[k]? = W2.heap[k]? := fun k hk => by rw [hW3]; exact Below.heap_setCell W2 ⟨B, 0, none⟩ _ k hk
        have hL3 := (hot3 (B + 5) (by omega)).trans hL2
        refine ⟨_, _, run_endRound (some .ret) hL3, rfl, ?_⟩
        have hL4 := World.putObj_heap_same (w := W3) (o := .loop (rec .done (some .ret))) (Array.getElem?_eq_some_iff.1 hL3).1
        have e1 : ({ { rec .ready none with state := .busy } with state := if (some Code.ret).isNone then .ready else .done, pending := some .ret } : Loop) = rec .done (some .ret) := hrec .done (some .ret)
        rw [e1]
        have hb3 : Below B w W3 := by rw [hW3]; exact hb2.setCell (p := ⟨B, 0, none⟩) (Nat.le_refl _) _
        refine ⟨(World.putObj_heap_other (by omega)).trans ?_, (World.putObj_heap_other (by omega)).trans ((hot3 _ (by omega)).trans ((hk2 _ (by omega)).trans hst.D)), hL4, hb3.grown (grownBy_putObj' _ _ _) (by have := (Array.getElem?_eq_some_iff.1 hL3).1; omega) (fun k e => by cases e; omega)⟩
        rw [hW3]; exact box_set ((hk2 _ (by omega)).trans hst.res)
      obtain ⟨hc, hf⟩ := box_cell ((hk2 B (by omega)).trans hst.res)
      have hcall : ∀ W : World, Calls Tryz.prog 72 #[.string x, .int .u8 0] W fun e w' => e = .returned (.int .i64 (Lib.indexByte x.data.toList 0)) ∧ w' = W := fun W => Tryz.strings_IndexByte x 0 W
      have hge := Lib.indexByte_ge x.data.toList 0
      have hin := index_byte_none (l := x.data.toList) (c := 0)
      have hgd : goodName x.data.toList = (decide (1 ≤ x.size) && decide (x.size ≤ 64) && !x.data.toList.contains 0) := by rw [Lib.size_eq]; rfl
      obtain ⟨i, hi⟩ : ∃ i, Lib.indexByte x.data.toList 0 = i := ⟨_, rfl⟩
      rw [hi] at hcall hge hin
      have HCL := Lib.hid hcall
      clear hcall hi hW2 hst hst0 hrec hL2 hk2 hb2
      refine roundIn_of_wpIn trivial ?_
      gi_wp2
      refine ⟨_, hbr, ?_⟩
      clear hbr
      by_cases h1 : x.size < 1
      · have hg : goodName x.data.toList = false := by rw [hgd]; simp; omega
        clear hgd hin
        have hi1 : (x.size : Int) < 1 := by omega
        have HG := Lib.hid hg; clear hg
        gi_wp2
        refine ⟨trivial, ?_⟩
        gi_wp2
        obtain ⟨v, w', h1, rfl, h2⟩ := hno.out _ rfl
        exact ⟨_, _, h1, .inr ⟨HG.out, rfl, h2⟩⟩
      · by_cases h2 : 64 < x.size
        · have hg : goodName x.data.toList = false := by rw [hgd]; simp; omega
          have hi1 : ¬ (x.size : Int) < 1 := by omega
          have hi2 : 64 < (x.size : Int) := by omega
          clear hgd hin
          have HG := Lib.hid hg; clear hg
          gi_wp2
          refine ⟨trivial, ?_⟩
          gi_wp2
          obtain ⟨v, w', h1, rfl, h2⟩ := hno.out _ rfl
          exact ⟨_, _, h1, .inr ⟨HG.out, rfl, h2⟩⟩
        · have hi1 : ¬ (x.size : Int) < 1 := by omega
          have hi2 : ¬ 64 < (x.size : Int) := by omega
          by_cases h3 : i = -1
          · have hg : goodName x.data.toList = true := by rw [hgd, hin.1 h3]; simp; omega
            subst h3
            have HG := Lib.hid hg; clear hg
            clear hgd hin
            gi_wp2_with (first
              | (gi_at_call 72; refine (CallsIn.inRound (B + 5) (callsIn_wide.2 (HCL.out _))).mono ?_; rintro e w' ⟨rfl, rfl⟩)
              | (refine ⟨trivial, ?_⟩; gi_at_call 72; refine (CallsIn.inRound (B + 5) (callsIn_wide.2 (HCL.out _))).mono ?_; rintro e w' ⟨rfl, rfl⟩)
              | fail)
            obtain ⟨v, w', h1, rfl, h2⟩ := hgo.out _ rfl
            exact ⟨_, _, h1, .inl ⟨HG.out, rfl, h2⟩⟩
          · have hg : goodName x.data.toList = false := by
              cases hcc : x.data.toList.contains 0 with
              | false => exact absurd (hin.2 hcc) h3
              | true => rw [hgd, hcc]; simp
            have hi3 : 0 ≤ i := by omega
            have HG := Lib.hid hg; clear hg
            clear hgd hin
            gi_wp2_with (first
              | (gi_at_call 72; refine (CallsIn.inRound (B + 5) (callsIn_wide.2 (HCL.out _))).mono ?_; rintro e w' ⟨rfl, rfl⟩)
              | (refine ⟨trivial, ?_⟩; gi_at_call 72; refine (CallsIn.inRound (B + 5) (callsIn_wide.2 (HCL.out _))).mono ?_; rintro e w' ⟨rfl, rfl⟩)
              | fail)
            obtain ⟨v, w', h1, rfl, h2⟩ := hno.out _ rfl
            exact ⟨_, _, h1, .inr ⟨HG.out, rfl, h2⟩⟩
    case done =>
      intro hall W hbh
      obtain rfl : b = true := HB.out.symm.trans hall
      obtain ⟨hc, hf⟩ := box_cell hbh.res
      simp only [Exit.inBlock, Exit.then]
      gi_wp2
      have hD : (W.setCell ⟨B, 0, none⟩ (.bool true)).heap[B + 4]? = some (.deferred (some [])) := (Below.heap_setCell W ⟨B, 0, none⟩ _ (B + 4) (by simp)).trans hbh.D
      refine ⟨by simp, .inl ⟨B + 4, _, rfl, run_takeDeferred hD, ?_⟩⟩
      have hc2 : ((W.setCell ⟨B, 0, none⟩ (.bool true)).putObj (B + 4) (.deferred none)).cell? ⟨B, 0, none⟩ = some (.bool true) := (World.cell?_of_block (a := ⟨B, 0, none⟩) (World.putObj_heap_other (show B ≠ B + 4 by omega))).trans (box_cell (box_set hbh.res)).1
      refine ⟨.bool true, by simp [results, Tryz.results43, go_sem, hc2], rfl, ?_⟩
      rw [hB]
      exact (hbh.below.setCell (p := ⟨B, 0, none⟩) (Nat.le_refl _) _).grown (grownBy_putObj' _ _ _) (by have := (Array.getElem?_eq_some_iff.1 hD).1; omega) (fun k e => by cases e; omega)
    case stop =>
      intro hall W hbh
      obtain rfl : b = false := HB.out.symm.trans hall
      gi_wp2
      refine ⟨by simp, .inl ⟨B + 4, _, rfl, run_takeDeferred hbh.D, ?_⟩⟩
      have hc2 : (W.putObj (B + 4) (.deferred none)).cell? ⟨B, 0, none⟩ = some (.bool false) := (World.cell?_of_block (a := ⟨B, 0, none⟩) (World.putObj_heap_other (show B ≠ B + 4 by omega))).trans (box_cell hbh.res).1
      refine ⟨.bool false, by simp [results, Tryz.results43, go_sem, hc2], rfl, ?_⟩
      rw [hB]
      exact hbh.below.grown (grownBy_putObj' _ _ _) (by have := (Array.getElem?_eq_some_iff.1 hbh.D).1; omega) (fun k e => by cases e; omega)
end Go.Proofs.YtdbcjiapbehacaaGreatDoor.Vp

/-! Layer 5: how an operation of the program's begins. -/
namespace Go.Proofs.YtdbcjiapbehacaaGreatDoor.Vp
open Go.RowKit Go.Maps
open Go.Proofs.YtdbcjiapbehacaaGreatDoor.Vf (Hold OwnR Moves ret_int Hold.cell Hold.keep Hold.lt Hold.set gb_set)

theorem rootB_iff (p : ByteArray) : (p.toList == [47]) = decide (p.data.toList = [47]) := by
  rw [Lib.toList_data]
  by_cases h : p.data.toList = [47]
  · rw [h]; rfl
  · simp [h]
set_option maxRecDepth 100000 in
theorem isPath_any (p : ByteArray) (w : World) (hp : okS p) : Calls Tryz.prog 76 #[.string p] w fun e w' => e = .returned (.bool (isPath p.data.toList)) ∧ Below w.heap.size w w' := by
  have hr := rootB_iff p
  unfold isPath
  cases hd : decide (p.data.toList = [47])
  case true =>
    rw [hd] at hr
    go_enter Tryz.func76, Tryz.ntmps76
    go_wp2_with fail
    go_ret
    exact ⟨rfl, Below.refl _ _⟩
  case false =>
    rw [hd] at hr
    obtain ⟨b, hb⟩ : ∃ b, hasName p.data.toList = b := ⟨_, rfl⟩
    have hc : ∀ W : World, Calls Tryz.prog 43 #[.string p] W fun e w' => e = .returned (.bool b) ∧ Below W.heap.size W w' := fun W => (hasName_any p W hp).mono fun e w' ⟨he, hw⟩ => ⟨by rw [he, hb], hw⟩
    rw [hb]
    have HC := Lib.hid hc
    clear hd hb hc
    go_enter Tryz.func76, Tryz.ntmps76
    go_wp2_with (go_at_call 43; refine (HC.out _).mono ?_; rintro e w' ⟨rfl, hbl⟩)
    go_ret
    exact ⟨by cases b <;> rfl, hbl⟩
set_option maxRecDepth 100000 in
theorem furnish_any (p : Nat) (s : Pf) (l : Loc) (w : World) (h : At w p s l) : Calls Tryz.prog 29 #[.pointer (some ⟨p, 0, none⟩)] w fun e w' => (∃ r, e = .returned r) ∧ w = w' := by
  have h1 : w.cell? ⟨p, 1, none⟩ = some (.map (some l.bw)) := by rw [h.cell]; rfl
  have hq : ∀ w : World, (binOp .eql 55 (.map (some l.bw)) (.map none)).run Tryz.prog w = .ok (.bool false) w := fun w => run_eql_map_nil_sl (P := Tryz.prog) w _ _ _ (some l.bw) Tryz.underlying55
  go_enter Tryz.func29, Tryz.ntmps29
  go_wp2_with fail
  go_end0
  exact ⟨⟨_, rfl⟩, rfl⟩
/-- The file system's own cells have turned alone: left, down. -/
theorem At.turn {w w' : World} {p : Nat} {s : Pf} {l : Loc} (h : At w p s l) (left : Int) (down : Bool) (hg : w.grownBy w' (some p)) (ht : Hold w' p 58 (topCells { s with left := left, down := down } l)) : At w' p { s with left := left, down := down } l := by
  have hpt : w.heap[p]? = some (.cells (topCells s l).toArray 58 (0, 0)) := h.top
  have hk : ∀ g, g < w.heap.size → g ≠ p → w'.heap[g]? = w.heap[g]? := fun g hl hne => hg.block g hl (by simpa using hne)
  refine ⟨ht, h.waits.same (hk _ h.waits.lt (cells_ne hpt h.waits.kind).symm), h.names.same (hk _ h.names.lt (cells_ne hpt h.names.kind).symm), h.dur.same (hk _ h.dur.lt (cells_ne hpt h.dur.kind).symm), h.apart, fun i hi => ?_, fun x hx => ?_, h.own⟩
  · have hf := h.files i hi
    have hc : w.heap[l.loc i]? = _ := hf.2.2
    exact ⟨hf.1, hf.2.1, hf.2.2.keep (hk _ hf.2.2.lt (Go.Proofs.YtdbcjiapbehacaaGreatDoor.Vf.kind_ne hc hpt (by decide)))⟩
  · refine Go.Proofs.YtdbcjiapbehacaaGreatDoor.Vf.OwnR.blk (h.rows x hx) fun g hgb => ?_
    obtain ⟨cur, hc⟩ := Go.Proofs.YtdbcjiapbehacaaGreatDoor.Vf.OwnR.kind (h.rows x hx) hgb
    exact hk g ((h.rows x hx).lt g hgb).2 (Go.Proofs.YtdbcjiapbehacaaGreatDoor.Vf.kind_ne hc hpt (by decide))
theorem foot_tick {p : Nat} {s : Pf} {l : Loc} {left : Int} {down : Bool} {g : Nat} : Foot p { s with left := left, down := down } l g ↔ Foot p s l g := Iff.rfl

/-- What an operation's beginning asks of the paths. -/
def rightOf (root : Bool) (p : ByteArray) : Bool := if root then isPath p.data.toList else hasName p.data.toList
def rightF (root : Bool) : FuncId := if root then 76 else 43
def tickDown (s : Pf) : Bool := if 0 < s.left then s.down || decide (s.left - 1 = 0) else s.down
def tickLeft (s : Pf) : Int := if 0 < s.left then s.left - 1 else s.left
theorem tick_eq (s : Pf) : tickS s = { s with left := tickLeft s, down := tickDown s } := by
  unfold tickS tickLeft tickDown
  split <;> rfl
theorem gb_below {w a b : World} {row : Option Nat} (h : w.grownBy a row) (k : Below a.heap.size a b) : w.grownBy b row :=
  ⟨k.os.trans h.os, k.tape.trans h.tape, k.output.trans h.output, Nat.le_trans h.size k.size, fun i hi hne => (k.block i (Nat.lt_of_lt_of_le hi h.size)).trans (h.block i hi hne)⟩

theorem beg_52 {s : Pf} {b : Bool} (h : (tickS s).down = true) : beginRes s b = 52 := by unfold beginRes; rw [if_pos h]
theorem beg_2 {s : Pf} {b : Bool} (h : (tickS s).down = false) (hb : b = false) : beginRes s b = 2 := by unfold beginRes; rw [if_neg (by rw [h]; decide), hb]; rfl
theorem beg_0 {s : Pf} {b : Bool} (h : (tickS s).down = false) (hb : b = true) : beginRes s b = 0 := by unfold beginRes; rw [if_neg (by rw [h]; decide), hb]; rfl

set_option maxRecDepth 100000 in
set_option maxHeartbeats 4000000 in
theorem begin_any (p : Nat) (s : Pf) (l : Loc) (root : Bool) (g n c : Nat) (ps : List ByteArray) (w : World) (h : At w p s l) (hl : -9223372036854775808 ≤ s.left ∧ s.left ≤ 9223372036854775807)
    (hn : ps.length = n) (hn9 : n ≤ 9) (hg : g < w.heap.size) (hgp : g ≠ p) (hc : ∀ (k : Nat) (x : ByteArray), ps[k]? = some x → w.cell? ⟨g, k, none⟩ = some (.string x)) (ho : ∀ x ∈ ps, okS x) :
    Calls Tryz.prog 42 #[.pointer (some ⟨p, 0, none⟩), .func (.func (rightF root)) #[] #[], .slice (some ⟨g, 0, none⟩) n c] w fun e w' => e = .returned (.int .i64 (beginRes s (ps.all (rightOf root)))) ∧ At w' p (tickS s) l ∧ w.grownBy w' (some p) := by
  have hc5 : w.cell? ⟨p, 5, none⟩ = some (.int .i64 s.left) := by rw [h.cell]; rfl
  have hc6 : w.cell? ⟨p, 6, none⟩ = some (.bool s.down) := by rw [h.cell]; rfl
  have hf5 := h.top.frozen 5
  have hf6 := h.top.frozen 6
  have hpl := h.top.lt
  subst hn
  have hcp := hc
  have HH := Lib.hid h; have HCP := Lib.hid hcp
  have hk5 : ∀ (d : Int) (b : Bool), At ((w.setCell ⟨p, 5, none⟩ (.int .i64 d)).setCell ⟨p, 6, none⟩ (.bool b)) p { s with left := d, down := b } l := fun d b => h.turn d b (gb_set (gb_set (World.grownBy.refl _ _) _ _) _ _) ((h.top.set 5 _).set 6 _)
  have HK5 := Lib.hid hk5
  have hr : ∀ x, okS x → ∀ W : World, Calls Tryz.prog (rightF root) #[.string x] W fun e w' => e = .returned (.bool (rightOf root x)) ∧ Below W.heap.size W w' := fun x hx W => by
    cases root
    · exact hasName_any x W hx
    · exact isPath_any x W hx
  have HR := Lib.hid hr
  have hte := tick_eq s
  have HTE := Lib.hid hte
  clear h hc hcp hk5 hr hte
  cases hD : tickDown s with
  | true =>
    have HDN : Hid ((tickS s).down = true) := by rw [HTE.out]; exact hD
    by_cases hpos : 0 < s.left
    · have hdn := hD
      unfold tickDown at hdn
      rw [if_pos hpos] at hdn
      obtain ⟨C, hC⟩ : ∃ C, s.left - 1 = C := ⟨_, rfl⟩
      have htl : tickLeft s = C := by unfold tickLeft; rw [if_pos hpos, hC]
      have hw1 : IntKind.i64.wrap (s.left - 1) = C := by rw [IntKind.wrap_i64]; omega
      have HEQ : Hid (tickS s = { s with left := C, down := true }) := by have := HTE.out; rw [hD, htl] at this; exact this
      have HCE := Lib.hid hC
      rw [hC] at hdn
      clear hC htl hD
      cases hd : s.down with
      | true =>
        rw [hd] at hc6
        clear hdn hd
        go_enter Tryz.func42, Tryz.ntmps42
        go_wp2_with fail
        go_ret
        exact ⟨ret_int (beg_52 HDN.out).symm, by rw [HEQ.out]; exact HK5.out _ _, gb_set (gb_set (World.grownBy.refl _ _) _ _) _ _⟩
      | false =>
        rw [hd] at hc6 hdn
        have hC0 : (C == 0) = true := by simpa using hdn
        clear hdn hd
        go_enter Tryz.func42, Tryz.ntmps42
        go_wp2_with fail
        go_ret
        exact ⟨ret_int (beg_52 HDN.out).symm, by rw [HEQ.out]; exact HK5.out _ _, gb_set (gb_set (World.grownBy.refl _ _) _ _) _ _⟩
    · have hdn := hD
      unfold tickDown at hdn
      rw [if_neg hpos] at hdn
      have htl : tickLeft s = s.left := by unfold tickLeft; rw [if_neg hpos]
      have HEQ : Hid (tickS s = s) := by have := HTE.out; rw [hD, htl, ← hdn] at this; exact this
      rw [hdn] at hc6
      clear htl hD hdn
      go_enter Tryz.func42, Tryz.ntmps42
      go_wp2_with fail
      go_ret
      exact ⟨ret_int (beg_52 HDN.out).symm, by rw [HEQ.out]; exact HH.out, World.grownBy.refl _ _⟩
  | false =>
    have HDN : Hid ((tickS s).down = false) := by rw [HTE.out]; exact hD
    by_cases hpos : 0 < s.left
    · have hdn := hD
      unfold tickDown at hdn
      rw [if_pos hpos] at hdn
      obtain ⟨C, hC⟩ : ∃ C, s.left - 1 = C := ⟨_, rfl⟩
      have htl : tickLeft s = C := by unfold tickLeft; rw [if_pos hpos, hC]
      have hw1 : IntKind.i64.wrap (s.left - 1) = C := by rw [IntKind.wrap_i64]; omega
      have HEQ : Hid (tickS s = { s with left := C, down := false }) := by have := HTE.out; rw [hD, htl] at this; exact this
      have HCE := Lib.hid hC
      rw [hC] at hdn
      simp only [Bool.or_eq_false_iff] at hdn
      obtain ⟨hd, hdn⟩ := hdn
      rw [hd] at hc6
      have hC0 : (C == 0) = false := by simpa using hdn
      clear hC htl hD hdn hd
      cases root
      all_goals
        dsimp only [rightF] at HR ⊢
        simp only [Bool.false_eq_true, if_false, if_true] at HR ⊢
        go_enter Tryz.func42, Tryz.ntmps42
        go_wp2_with fail
        obtain ⟨W, hW⟩ : ∃ W, (w.setCell ⟨p, 5, none⟩ (.int .i64 C)).setCell ⟨p, 6, none⟩ (.bool false) = W := ⟨_, rfl⟩
        have HAW : Hid (At W p (tickS s) l) := by rw [HEQ.out, ← hW]; exact HK5.out _ _
        have hgW0 : w.grownBy W (some p) := by rw [← hW]; exact gb_set (gb_set (World.grownBy.refl _ _) _ _) _ _
        have HGW := Lib.hid hgW0
        have hgW : g < W.heap.size := Nat.lt_of_lt_of_le hg hgW0.size
        have HCW : Hid (∀ (k : Nat) (x : ByteArray), ps[k]? = some x → W.cell? ⟨g, k, none⟩ = some (.string x)) := fun k x hx => (World.cell?_of_block (a := ⟨g, k, none⟩) (hgW0.block g hg (by simpa using hgp))).trans (HCP.out k x hx)
        rw [hW]
        clear hW hgW0 hc5 hc6 hf5 hf6 hw1 hC0
      · go_loopw [43] (fun i wr => ∃ k : Nat, k ≤ ps.length ∧ i = .int .i64 k ∧ Below W.heap.size W wr ∧ (ps.take k).all (rightOf false) = true) (fun i _ => ps.length - (intOf i).toNat)
        case atStart => exact ⟨0, by omega, rfl, Below.refl _ _, by simp⟩
        case round =>
          obtain ⟨k, hk, rfl, hb, hall⟩ := hrel
          have HALL := Lib.hid hall; clear hall
          by_cases hlt : k < ps.length
          · obtain ⟨x, hx⟩ : ∃ x, ps[k]? = some x := ⟨_, List.getElem?_eq_getElem hlt⟩
            have hcx := (hb.cell (p := ⟨g, k, none⟩) hgW).trans (HCW.out k x hx)
            have hox := ho x (List.mem_of_getElem? hx)
            have hi0 : (0 : Int) ≤ (k : Int) := by omega
            have hi1 : (k : Int) < (ps.length : Int) := by omega
            have hnx : ps.take (k + 1) = ps.take k ++ [x] := Go.Proofs.YtdbcjiapbehacaaGreatDoor.Vf.take_snoc hx
            have hxm := List.mem_of_getElem? hx
            have HNX := Lib.hid hnx; have HB := Lib.hid hb
            clear hnx hb hx
            have hcall := HR.out x hox
            cases hbx : rightOf false x with
            | false =>
              have hres : ps.all (rightOf false) = false := by
                cases ha : ps.all (rightOf false) with
                | false => rfl
                | true => rw [List.all_eq_true] at ha; rw [ha x hxm] at hbx; cases hbx
              rw [hbx] at hcall
              have HC := Lib.hid hcall; have HRS := Lib.hid hres
              clear hcall hres hbx
              go_wp2_with (go_at_call 43; refine (HC.out _).mono ?_; rintro e w' ⟨rfl, hb2⟩)
              go_ret
              exact ⟨ret_int (beg_2 HDN.out HRS.out).symm, HAW.out.below (HB.out.trans (hb2.mono HB.out.size)), gb_below HGW.out (HB.out.trans (hb2.mono HB.out.size))⟩
            | true =>
              rw [hbx] at hcall
              have HC := Lib.hid hcall; have HX := Lib.hid hbx
              clear hcall hbx
              go_wp2_with (go_at_call 43; refine (HC.out _).mono ?_; rintro e w' ⟨rfl, hb2⟩)
              go_roundw
              case rel => exact ⟨k + 1, by omega, by go_num, HB.out.trans (hb2.mono HB.out.size), by rw [HNX.out]; simp [HALL.out, HX.out]⟩
              case measure => simp [intOf]; omega
          · obtain rfl : k = ps.length := by omega
            have hres : ps.all (rightOf false) = true := by have := HALL.out; rwa [List.take_of_length_le (Nat.le_refl _)] at this
            have HRS := Lib.hid hres
            have HF := Lib.hid (furnish_any p (tickS s) l wr (HAW.out.below hb))
            have HB := Lib.hid hb
            clear hres hb
            go_wp2_with (go_at_call 29; refine HF.out.mono ?_; rintro e w' ⟨⟨r, rfl⟩, rfl⟩)
            go_ret
            exact ⟨ret_int (beg_0 HDN.out HRS.out).symm, HAW.out.below HB.out, gb_below HGW.out HB.out⟩
      · go_loopw [43] (fun i wr => ∃ k : Nat, k ≤ ps.length ∧ i = .int .i64 k ∧ Below W.heap.size W wr ∧ (ps.take k).all (rightOf true) = true) (fun i _ => ps.length - (intOf i).toNat)
        case atStart => exact ⟨0, by omega, rfl, Below.refl _ _, by simp⟩
        case round =>
          obtain ⟨k, hk, rfl, hb, hall⟩ := hrel
          have HALL := Lib.hid hall; clear hall
          by_cases hlt : k < ps.length
          · obtain ⟨x, hx⟩ : ∃ x, ps[k]? = some x := ⟨_, List.getElem?_eq_getElem hlt⟩
            have hcx := (hb.cell (p := ⟨g, k, none⟩) hgW).trans (HCW.out k x hx)
            have hox := ho x (List.mem_of_getElem? hx)
            have hi0 : (0 : Int) ≤ (k : Int) := by omega
            have hi1 : (k : Int) < (ps.length : Int) := by omega
            have hnx : ps.take (k + 1) = ps.take k ++ [x] := Go.Proofs.YtdbcjiapbehacaaGreatDoor.Vf.take_snoc hx
            have hxm := List.mem_of_getElem? hx
            have HNX := Lib.hid hnx; have HB := Lib.hid hb
            clear hnx hb hx
            have hcall := HR.out x hox
            cases hbx : rightOf true x with
            | false =>
              have hres : ps.all (rightOf true) = false := by
                cases ha : ps.all (rightOf true) with
                | false => rfl
                | true => rw [List.all_eq_true] at ha; rw [ha x hxm] at hbx; cases hbx
              rw [hbx] at hcall
              have HC := Lib.hid hcall; have HRS := Lib.hid hres
              clear hcall hres hbx
              go_wp2_with (go_at_call 76; refine (HC.out _).mono ?_; rintro e w' ⟨rfl, hb2⟩)
              go_ret
              exact ⟨ret_int (beg_2 HDN.out HRS.out).symm, HAW.out.below (HB.out.trans (hb2.mono HB.out.size)), gb_below HGW.out (HB.out.trans (hb2.mono HB.out.size))⟩
            | true =>
              rw [hbx] at hcall
              have HC := Lib.hid hcall; have HX := Lib.hid hbx
              clear hcall hbx
              go_wp2_with (go_at_call 76; refine (HC.out _).mono ?_; rintro e w' ⟨rfl, hb2⟩)
              go_roundw
              case rel => exact ⟨k + 1, by omega, by go_num, HB.out.trans (hb2.mono HB.out.size), by rw [HNX.out]; simp [HALL.out, HX.out]⟩
              case measure => simp [intOf]; omega
          · obtain rfl : k = ps.length := by omega
            have hres : ps.all (rightOf true) = true := by have := HALL.out; rwa [List.take_of_length_le (Nat.le_refl _)] at this
            have HRS := Lib.hid hres
            have HF := Lib.hid (furnish_any p (tickS s) l wr (HAW.out.below hb))
            have HB := Lib.hid hb
            clear hres hb
            go_wp2_with (go_at_call 29; refine HF.out.mono ?_; rintro e w' ⟨⟨r, rfl⟩, rfl⟩)
            go_ret
            exact ⟨ret_int (beg_0 HDN.out HRS.out).symm, HAW.out.below HB.out, gb_below HGW.out HB.out⟩
    · have hdn := hD
      unfold tickDown at hdn
      rw [if_neg hpos] at hdn
      have htl : tickLeft s = s.left := by unfold tickLeft; rw [if_neg hpos]
      have HEQ : Hid (tickS s = s) := by have := HTE.out; rw [hD, htl, ← hdn] at this; exact this
      rw [hdn] at hc6
      clear htl hD hdn
      cases root
      all_goals
        dsimp only [rightF] at HR ⊢
        simp only [Bool.false_eq_true, if_false, if_true] at HR ⊢
        obtain ⟨W, hW⟩ : ∃ W, w = W := ⟨_, rfl⟩
        have HAW : Hid (At W p (tickS s) l) := by rw [HEQ.out, ← hW]; exact HH.out
        have HGW : Hid (w.grownBy W (some p)) := by rw [← hW]; exact World.grownBy.refl _ _
        have hgW : g < W.heap.size := by rw [← hW]; exact hg
        have HCW : Hid (∀ (k : Nat) (x : ByteArray), ps[k]? = some x → W.cell? ⟨g, k, none⟩ = some (.string x)) := by rw [← hW]; exact HCP.out
        subst hW
        go_enter Tryz.func42, Tryz.ntmps42
        go_wp2_with fail
        clear hc5 hc6 hf5 hf6
      · go_loopw [43] (fun i wr => ∃ k : Nat, k ≤ ps.length ∧ i = .int .i64 k ∧ Below w.heap.size w wr ∧ (ps.take k).all (rightOf false) = true) (fun i _ => ps.length - (intOf i).toNat)
        case atStart => exact ⟨0, by omega, rfl, Below.refl _ _, by simp⟩
        case round =>
          obtain ⟨k, hk, rfl, hb, hall⟩ := hrel
          have HALL := Lib.hid hall; clear hall
          by_cases hlt : k < ps.length
          · obtain ⟨x, hx⟩ : ∃ x, ps[k]? = some x := ⟨_, List.getElem?_eq_getElem hlt⟩
            have hcx := (hb.cell (p := ⟨g, k, none⟩) hgW).trans (HCW.out k x hx)
            have hox := ho x (List.mem_of_getElem? hx)
            have hi0 : (0 : Int) ≤ (k : Int) := by omega
            have hi1 : (k : Int) < (ps.length : Int) := by omega
            have hnx : ps.take (k + 1) = ps.take k ++ [x] := Go.Proofs.YtdbcjiapbehacaaGreatDoor.Vf.take_snoc hx
            have hxm := List.mem_of_getElem? hx
            have HNX := Lib.hid hnx; have HB := Lib.hid hb
            clear hnx hb hx
            have hcall := HR.out x hox
            cases hbx : rightOf false x with
            | false =>
              have hres : ps.all (rightOf false) = false := by
                cases ha : ps.all (rightOf false) with
                | false => rfl
                | true => rw [List.all_eq_true] at ha; rw [ha x hxm] at hbx; cases hbx
              rw [hbx] at hcall
              have HC := Lib.hid hcall; have HRS := Lib.hid hres
              clear hcall hres hbx
              go_wp2_with (go_at_call 43; refine (HC.out _).mono ?_; rintro e w' ⟨rfl, hb2⟩)
              go_ret
              exact ⟨ret_int (beg_2 HDN.out HRS.out).symm, HAW.out.below (HB.out.trans (hb2.mono HB.out.size)), gb_below HGW.out (HB.out.trans (hb2.mono HB.out.size))⟩
            | true =>
              rw [hbx] at hcall
              have HC := Lib.hid hcall; have HX := Lib.hid hbx
              clear hcall hbx
              go_wp2_with (go_at_call 43; refine (HC.out _).mono ?_; rintro e w' ⟨rfl, hb2⟩)
              go_roundw
              case rel => exact ⟨k + 1, by omega, by go_num, HB.out.trans (hb2.mono HB.out.size), by rw [HNX.out]; simp [HALL.out, HX.out]⟩
              case measure => simp [intOf]; omega
          · obtain rfl : k = ps.length := by omega
            have hres : ps.all (rightOf false) = true := by have := HALL.out; rwa [List.take_of_length_le (Nat.le_refl _)] at this
            have HRS := Lib.hid hres
            have HF := Lib.hid (furnish_any p (tickS s) l wr (HAW.out.below hb))
            have HB := Lib.hid hb
            clear hres hb
            go_wp2_with (go_at_call 29; refine HF.out.mono ?_; rintro e w' ⟨⟨r, rfl⟩, rfl⟩)
            go_ret
            exact ⟨ret_int (beg_0 HDN.out HRS.out).symm, HAW.out.below HB.out, gb_below HGW.out HB.out⟩
      · go_loopw [43] (fun i wr => ∃ k : Nat, k ≤ ps.length ∧ i = .int .i64 k ∧ Below w.heap.size w wr ∧ (ps.take k).all (rightOf true) = true) (fun i _ => ps.length - (intOf i).toNat)
        case atStart => exact ⟨0, by omega, rfl, Below.refl _ _, by simp⟩
        case round =>
          obtain ⟨k, hk, rfl, hb, hall⟩ := hrel
          have HALL := Lib.hid hall; clear hall
          by_cases hlt : k < ps.length
          · obtain ⟨x, hx⟩ : ∃ x, ps[k]? = some x := ⟨_, List.getElem?_eq_getElem hlt⟩
            have hcx := (hb.cell (p := ⟨g, k, none⟩) hgW).trans (HCW.out k x hx)
            have hox := ho x (List.mem_of_getElem? hx)
            have hi0 : (0 : Int) ≤ (k : Int) := by omega
            have hi1 : (k : Int) < (ps.length : Int) := by omega
            have hnx : ps.take (k + 1) = ps.take k ++ [x] := Go.Proofs.YtdbcjiapbehacaaGreatDoor.Vf.take_snoc hx
            have hxm := List.mem_of_getElem? hx
            have HNX := Lib.hid hnx; have HB := Lib.hid hb
            clear hnx hb hx
            have hcall := HR.out x hox
            cases hbx : rightOf true x with
            | false =>
              have hres : ps.all (rightOf true) = false := by
                cases ha : ps.all (rightOf true) with
                | false => rfl
                | true => rw [List.all_eq_true] at ha; rw [ha x hxm] at hbx; cases hbx
              rw [hbx] at hcall
              have HC := Lib.hid hcall; have HRS := Lib.hid hres
              clear hcall hres hbx
              go_wp2_with (go_at_call 76; refine (HC.out _).mono ?_; rintro e w' ⟨rfl, hb2⟩)
              go_ret
              exact ⟨ret_int (beg_2 HDN.out HRS.out).symm, HAW.out.below (HB.out.trans (hb2.mono HB.out.size)), gb_below HGW.out (HB.out.trans (hb2.mono HB.out.size))⟩
            | true =>
              rw [hbx] at hcall
              have HC := Lib.hid hcall; have HX := Lib.hid hbx
              clear hcall hbx
              go_wp2_with (go_at_call 76; refine (HC.out _).mono ?_; rintro e w' ⟨rfl, hb2⟩)
              go_roundw
              case rel => exact ⟨k + 1, by omega, by go_num, HB.out.trans (hb2.mono HB.out.size), by rw [HNX.out]; simp [HALL.out, HX.out]⟩
              case measure => simp [intOf]; omega
          · obtain rfl : k = ps.length := by omega
            have hres : ps.all (rightOf true) = true := by have := HALL.out; rwa [List.take_of_length_le (Nat.le_refl _)] at this
            have HRS := Lib.hid hres
            have HF := Lib.hid (furnish_any p (tickS s) l wr (HAW.out.below hb))
            have HB := Lib.hid hb
            clear hres hb
            go_wp2_with (go_at_call 29; refine HF.out.mono ?_; rintro e w' ⟨⟨r, rfl⟩, rfl⟩)
            go_ret
            exact ⟨ret_int (beg_0 HDN.out HRS.out).symm, HAW.out.below HB.out, gb_below HGW.out HB.out⟩
end Go.Proofs.YtdbcjiapbehacaaGreatDoor.Vp

/-! Layer 5: an operation with a file that is there; with a directory that is there. -/
namespace Go.Proofs.YtdbcjiapbehacaaGreatDoor.Vp
open Go.RowKit Go.Maps
open Go.Proofs.YtdbcjiapbehacaaGreatDoor.Vf (Hold OwnR Moves ret_int wp_region_mix wpMix_free wpMix_turn wpMix_end Hold.cell Hold.keep Hold.lt)

theorem begin_has (p : Nat) (s : Pf) (l : Loc) (path : ByteArray) (w : World) (h : At w p s l) (hl : -9223372036854775808 ≤ s.left ∧ s.left ≤ 9223372036854775807) (ho : okS path) :
    Calls Tryz.prog 42 #[.pointer (some ⟨p, 0, none⟩), .func (.func 43) #[] #[], .slice (some ⟨w.heap.size, 0, none⟩) 1 1] (w.alloc (.cells #[.string path] 9)) fun e w' => e = .returned (.int .i64 (beginRes s (hasName path.data.toList))) ∧ At w' p (tickS s) l ∧ w.grownBy w' (some p) := by
  have hb : Below w.heap.size w (w.alloc (.cells #[.string path] 9)) := (Below.refl _ _).alloc (Nat.le_refl _) _
  refine (begin_any p s l false w.heap.size 1 1 [path] (w.alloc (.cells #[.string path] 9)) (h.below hb) hl rfl (by decide) (by simp) (Nat.ne_of_gt h.top.lt) (fun k x hk => ?_) (fun x hx => by rw [List.mem_singleton.1 hx]; exact ho)).mono ?_
  · cases k with
    | zero => simp at hk; subst hk; simp
    | succ k => simp at hk
  · rintro e w' ⟨he, hA, hg⟩
    refine ⟨by rw [he]; simp [rightOf], hA, (World.grownBy_alloc w _ _).trans hg⟩
theorem begin_path (p : Nat) (s : Pf) (l : Loc) (path : ByteArray) (w : World) (h : At w p s l) (hl : -9223372036854775808 ≤ s.left ∧ s.left ≤ 9223372036854775807) (ho : okS path) :
    Calls Tryz.prog 42 #[.pointer (some ⟨p, 0, none⟩), .func (.func 76) #[] #[], .slice (some ⟨w.heap.size, 0, none⟩) 1 1] (w.alloc (.cells #[.string path] 9)) fun e w' => e = .returned (.int .i64 (beginRes s (isPath path.data.toList))) ∧ At w' p (tickS s) l ∧ w.grownBy w' (some p) := by
  have hb : Below w.heap.size w (w.alloc (.cells #[.string path] 9)) := (Below.refl _ _).alloc (Nat.le_refl _) _
  refine (begin_any p s l true w.heap.size 1 1 [path] (w.alloc (.cells #[.string path] 9)) (h.below hb) hl rfl (by decide) (by simp) (Nat.ne_of_gt h.top.lt) (fun k x hk => ?_) (fun x hx => by rw [List.mem_singleton.1 hx]; exact ho)).mono ?_
  · cases k with
    | zero => simp at hk; subst hk; simp
    | succ k => simp at hk
  · rintro e w' ⟨he, hA, hg⟩
    refine ⟨by rw [he]; simp [rightOf], hA, (World.grownBy_alloc w _ _).trans hg⟩
theorem begin_two (p : Nat) (s : Pf) (l : Loc) (a b : ByteArray) (w : World) (h : At w p s l) (hl : -9223372036854775808 ≤ s.left ∧ s.left ≤ 9223372036854775807) (ha : okS a) (hb2 : okS b) :
    Calls Tryz.prog 42 #[.pointer (some ⟨p, 0, none⟩), .func (.func 43) #[] #[], .slice (some ⟨w.heap.size, 0, none⟩) 2 2] (w.alloc (.cells #[.string a, .string b] 9)) fun e w' => e = .returned (.int .i64 (beginRes s (hasName a.data.toList && hasName b.data.toList))) ∧ At w' p (tickS s) l ∧ w.grownBy w' (some p) := by
  have hb : Below w.heap.size w (w.alloc (.cells #[.string a, .string b] 9)) := (Below.refl _ _).alloc (Nat.le_refl _) _
  refine (begin_any p s l false w.heap.size 2 2 [a, b] (w.alloc (.cells #[.string a, .string b] 9)) (h.below hb) hl rfl (by decide) (by simp) (Nat.ne_of_gt h.top.lt) (fun k x hk => ?_) (fun x hx => by rcases List.mem_cons.1 hx with rfl | hx; exact ha; rw [List.mem_singleton.1 hx]; exact hb2)).mono ?_
  · cases k with
    | zero => simp at hk; subst hk; simp
    | succ k => cases k with
      | zero => simp at hk; subst hk; simp
      | succ k => simp at hk
  · rintro e w' ⟨he, hA, hg⟩
    refine ⟨by rw [he]; simp [rightOf], hA, (World.grownBy_alloc w _ _).trans hg⟩

theorem tick_names (s : Pf) : (tickS s).names = s.names := by rw [tick_eq]
theorem tick_waits (s : Pf) : (tickS s).waits = s.waits := by rw [tick_eq]
theorem tick_dur (s : Pf) : (tickS s).dur = s.dur := by rw [tick_eq]
theorem tick_files (s : Pf) : (tickS s).files = s.files := by rw [tick_eq]
theorem tick_made (s : Pf) : (tickS s).made = s.made := by rw [tick_eq]
theorem tick_room (s : Pf) : (tickS s).room = s.room := by rw [tick_eq]
theorem tick_dir (s : Pf) (path : ByteArray) : isDirS (tickS s) path = isDirS s path := by unfold isDirS; rw [tick_waits]
theorem tick_file (s : Pf) (path : ByteArray) : fileOf (tickS s) path = fileOf s path := by unfold fileOf; rw [tick_names]
theorem tick_fileV (s : Pf) (l : Loc) (x : Plc) : fileV (tickS s) l x = fileV s l x := by unfold fileV; rw [tick_names]
theorem begin_good {s : Pf} {path : ByteArray} (h : beginRes s (hasName path.data.toList) = 0) : hasName path.data.toList = true := by
  unfold beginRes at h
  split at h
  · omega
  · split at h
    · assumption
    · omega
theorem fileV_eq (s : Pf) (l : Loc) (path : ByteArray) : fileV s l (plcOf path) = ptrOf l (fileOf s path) := by
  unfold fileV fileOf
  cases look s.names (plcOf path) <;> rfl
theorem plc_ok {path : ByteArray} (ho : okS path) (hs : Slashed path) : okP (plcOf path) := by
  have h1 := hs.cut.2
  have h2 := hs.1
  unfold okS at ho
  refine ⟨?_, ?_⟩
  · show okS (path.extract 0 (max (cutOf path) 1)); unfold okS; rw [ByteArray.size_extract]; omega
  · show okS (path.extract (cutOf path + 1) path.size); unfold okS; rw [ByteArray.size_extract]; omega

set_option maxRecDepth 100000 in
set_option maxHeartbeats 4000000 in
theorem find_any (p : Nat) (s : Pf) (l : Loc) (path : ByteArray) (w : World) (h : At w p s l) (hl : -9223372036854775808 ≤ s.left ∧ s.left ≤ 9223372036854775807) (ho : okS path) :
    Calls Tryz.prog 48 #[.pointer (some ⟨p, 0, none⟩), .string path] w fun e w' => e = .returned (.tuple #[ptrOf l (findRes s path).1, .int .i64 (findRes s path).2]) ∧ At w' p (tickS s) l ∧ w.grownBy w' (some p) := by
  have HBG := Lib.hid (begin_has p s l path w h hl ho)
  obtain ⟨r, hr⟩ : ∃ r, beginRes s (hasName path.data.toList) = r := ⟨_, rfl⟩
  rw [hr] at HBG
  unfold findRes
  rw [hr]
  by_cases hr0 : r = 0
  · subst hr0
    rw [if_neg (by decide)]
    have hsl := good_slashed (begin_good hr)
    clear hr
    cases hd : isDirS s path with
    | true =>
      rw [if_pos rfl]
      go_enter Tryz.func48, Tryz.ntmps48
      go_wp2_with (go_at_call 42; refine HBG.out.mono ?_; rintro e w1 ⟨rfl, hA, hg⟩; have HD := Lib.hid (isDir_any p (tickS s) l path w1 hA ho); rw [tick_dir, hd] at HD; have HA := Lib.hid hA; have HG := Lib.hid hg; clear hA hg hd)
      refine (HD.out).mono ?_
      rintro e w' ⟨rfl, rfl⟩
      go_wp2_with fail
      go_ret2
      exact ⟨rfl, HA.out, HG.out⟩
    | false =>
      rw [if_neg (by decide)]
      obtain ⟨f, hf⟩ : ∃ f, fileOf s path = f := ⟨_, rfl⟩
      rw [hf]
      go_enter Tryz.func48, Tryz.ntmps48
      go_wp2_with (go_at_call 42; refine HBG.out.mono ?_; rintro e w1 ⟨rfl, hA, hg⟩; have HD := Lib.hid (isDir_any p (tickS s) l path w1 hA ho); rw [tick_dir, hd] at HD; have HA := Lib.hid hA; have HG := Lib.hid hg; clear hA hg hd)
      refine (HD.out).mono ?_
      rintro e w' ⟨rfl, rfl⟩
      obtain ⟨x, hx⟩ : ∃ x, plcOf path = x := ⟨_, rfl⟩
      have hxo : okP x := by rw [← hx]; exact plc_ok ho hsl
      have hvx : fileV (tickS s) l x = ptrOf l f := by rw [tick_fileV, ← hx, fileV_eq, hf]
      have hcall : ∀ W : World, Calls Tryz.prog 44 #[.string path] W fun e w' => e = .returned (.agg #[.string x.d, .string x.n]) ∧ Below W.heap.size W w' := fun W => by rw [← hx]; exact placeOf_any path W ho hsl
      have hw2 : w1.cell? ⟨p, 2, none⟩ = some (.map (some l.bn)) := by rw [HA.out.cell]; rfl
      have hlf := HA.out.look_file hxo
      rw [hvx] at hlf
      have HPL := Lib.hid hcall; have HV := Lib.hid hvx
      clear hf hx hcall hvx
      go_wp2_with fail
      refine wp_region_mix (fun z => z.cell? ⟨p, 2, none⟩ = some (.map (some l.bn)) ∧ (Instr.lookup 56 (.map (some l.bn)) (.agg #[.string x.d, .string x.n]) false).run Tryz.prog z = .ok (ptrOf l f) z)
        [true, true, true, true, true, false, true] _ (by kernel_rfl) rfl (by kernel_rfl) ⟨hw2, by rw [← HV.out]; exact (HA.out.below (w' := w1.drew) (Below.refl _ _).drew).look_file hxo⟩ ?_
      dsimp only [List.dropLast, List.zip, List.zipWith, List.getLast]
      repeat (apply wpMix_free
              · intro z hz
                try dsimp only at hz
                go_simp
                all_goals with_reducible rfl
              simp only [Act.put, List.setIfInBounds_toArray, List.set_cons_zero, List.set_cons_succ])
      refine wpMix_turn (fun K hK => ?_)
      have HK := Lib.hid hK; clear hK
      go_simp
      refine (HPL.out _).mono ?_
      rintro e w2 ⟨rfl, hb2⟩
      have hb3 : Below w1.heap.size w1 w2 := (Below.refl _ _).drew.trans hb2
      have hA2 := HA.out.below hb3
      have hw2' : w2.cell? ⟨p, 2, none⟩ = some (.map (some l.bn)) := by rw [hA2.cell]; rfl
      have HA2 := Lib.hid hA2; have HG2 := Lib.hid (gb_below HG.out hb3)
      refine HK.out _ _ ⟨hw2', by rw [← HV.out]; exact hA2.look_file hxo⟩ ?_
      clear HK hA2 hb2 hb3 hw2 hlf
      try simp only [Act.put, List.setIfInBounds_toArray, List.set_cons_zero, List.set_cons_succ]
      repeat (apply wpMix_free
              · intro z hz
                try dsimp only at hz
                go_simp
                all_goals with_reducible rfl
              simp only [Act.put, List.setIfInBounds_toArray, List.set_cons_zero, List.set_cons_succ])
      refine wpMix_end ?_
      clear hw2'
      cases f with
      | none =>
        unfold ptrOf
        dsimp only
        go_simp
        go_wp2_with fail
        go_ret2
        exact ⟨rfl, HA2.out, HG2.out⟩
      | some i =>
        unfold ptrOf pv
        dsimp only
        go_simp
        go_wp2_with fail
        go_ret2
        exact ⟨rfl, HA2.out, HG2.out⟩
  · rw [if_pos hr0]
    have hr1 : (r != 0) = true := by simpa using hr0
    have hr2 : (r == 0) = false := by simpa using hr0
    clear hr
    go_enter Tryz.func48, Tryz.ntmps48
    go_wp2_with (go_at_call 42; refine HBG.out.mono ?_; rintro e w1 ⟨rfl, hA, hg⟩; have HA := Lib.hid hA; have HG := Lib.hid hg; clear hA hg)
    go_ret2
    exact ⟨rfl, HA.out, HG.out⟩
end Go.Proofs.YtdbcjiapbehacaaGreatDoor.Vp

/-! Layer 5: an operation with a directory that is there. -/
namespace Go.Proofs.YtdbcjiapbehacaaGreatDoor.Vp
open Go.RowKit Go.Maps
open Go.Proofs.YtdbcjiapbehacaaGreatDoor.Vf (Hold OwnR Moves ret_int Hold.cell Hold.keep Hold.lt)

theorem begin_path_good {s : Pf} {path : ByteArray} (h : beginRes s (isPath path.data.toList) = 0) : isPath path.data.toList = true := by
  unfold beginRes at h
  split at h
  · omega
  · split at h
    · assumption
    · omega
theorem rootB_of {p : ByteArray} (h : p.data.toList = [47]) : p = rootB := by
  apply ByteArray.ext; apply Array.ext'; exact h
/-- In whichever world of the region's. -/
theorem At.regrown {w : World} {p : Nat} {s : Pf} {l : Loc} (h : At w p s l) (d : Nat) (os : Array Obj) : At (Sort.grow (redrawn w d) os) p s l := h.below (below_regrown w d os)
theorem below_class {w w' : World} (h : ∃ p : Regrown, w' = Sort.grow (redrawn w p.d) p.os) : Below w.heap.size w w' := by
  obtain ⟨q, rfl⟩ := h
  exact below_regrown w _ _
theorem findDir_52 {s : Pf} {path : ByteArray} (h : beginRes s (isPath path.data.toList) ≠ 0) : findDirRes s path = beginRes s (isPath path.data.toList) := by unfold findDirRes; rw [if_pos h]
theorem findDir_0 {s : Pf} {path : ByteArray} (h : beginRes s (isPath path.data.toList) = 0) : findDirRes s path = if path ≠ rootB ∧ (fileOf s path).isSome then 53 else if isDirS s path then 0 else 50 := by unfold findDirRes; rw [if_neg (by rw [h]; decide)]

set_option maxRecDepth 100000 in
set_option maxHeartbeats 4000000 in
theorem findDir_any (p : Nat) (s : Pf) (l : Loc) (path : ByteArray) (w : World) (h : At w p s l) (hl : -9223372036854775808 ≤ s.left ∧ s.left ≤ 9223372036854775807) (ho : okS path) :
    Calls Tryz.prog 49 #[.pointer (some ⟨p, 0, none⟩), .string path] w fun e w' => e = .returned (.int .i64 (findDirRes s path)) ∧ At w' p (tickS s) l ∧ w.grownBy w' (some p) := by
  have HBG := Lib.hid (begin_path p s l path w h hl ho)
  obtain ⟨r, hr⟩ : ∃ r, beginRes s (isPath path.data.toList) = r := ⟨_, rfl⟩
  rw [hr] at HBG
  obtain ⟨b, hb⟩ : ∃ b, isDirS s path = b := ⟨_, rfl⟩
  have hD : ∀ W : World, At W p (tickS s) l → Calls Tryz.prog 45 #[.pointer (some ⟨p, 0, none⟩), .string path] W fun e w' => e = .returned (.bool b) ∧ W = w' := fun W hW => by
    have := isDir_any p (tickS s) l path W hW ho
    rwa [tick_dir, hb] at this
  have HD := Lib.hid hD
  by_cases hr0 : r = 0
  · subst hr0
    have hpth := begin_path_good hr
    rw [findDir_0 hr, hb]
    obtain ⟨res, hres⟩ : ∃ res : Int, (if path ≠ rootB ∧ (fileOf s path).isSome = true then (53 : Int) else if b = true then 0 else 50) = res := ⟨_, rfl⟩
    rw [hres]
    by_cases hroot : path.data.toList = [47]
    · have hq : (path.toList == [47]) = true := by rw [rootB_iff]; simpa using hroot
      have hq2 : (path.toList != [47]) = false := by rw [bne, hq]; rfl
      rw [if_neg (fun h => h.1 (rootB_of hroot))] at hres
      have HRS := Lib.hid hres
      clear hr hb hD hpth hroot hres h
      cases b
      all_goals
        go_enter Tryz.func49, Tryz.ntmps49
        go_wp2_with (go_at_call 42; refine HBG.out.mono ?_; rintro e w1 ⟨rfl, hA, hg⟩; have HA := Lib.hid hA; have HG := Lib.hid hg; clear hA hg)
        refine wp_region_quiet_below (by kernel_rfl) (by kernel_rfl) ?_
        repeat (first | go_big_quiet_step (fail))
        refine wpQuiet_nil ?_
        intro w2 hV
        have hB := below_class hV
        have HA2 := Lib.hid (HA.out.below hB); have HG2 := Lib.hid (gb_below HG.out hB)
        clear hV hB
        go_wp2_with (go_at_call 45; refine (HD.out _ HA2.out).mono ?_; rintro e w' ⟨rfl, rfl⟩)
        go_ret
        exact ⟨ret_int HRS.out, HA2.out, HG2.out⟩
    · have hq : (path.toList == [47]) = false := by rw [rootB_iff]; simpa using hroot
      have hq2 : (path.toList != [47]) = true := by rw [bne, hq]; rfl
      have hne : path ≠ rootB := fun e => hroot (by rw [e]; rfl)
      have hsl : Slashed path := by
        unfold isPath at hpth
        simp only [Bool.or_eq_true, decide_eq_true_eq] at hpth
        exact good_slashed (hpth.resolve_left hroot)
      obtain ⟨f, hf⟩ : ∃ f, fileOf s path = f := ⟨_, rfl⟩
      rw [hf] at hres
      obtain ⟨x, hx⟩ : ∃ x, plcOf path = x := ⟨_, rfl⟩
      have hxo : okP x := by rw [← hx]; exact plc_ok ho hsl
      have hvx : fileV (tickS s) l x = ptrOf l f := by rw [tick_fileV, ← hx, fileV_eq, hf]
      have hcall : ∀ W : World, Calls Tryz.prog 44 #[.string path] W fun e w' => e = .returned (.agg #[.string x.d, .string x.n]) ∧ Below W.heap.size W w' := fun W => by rw [← hx]; exact placeOf_any path W ho hsl
      have HPL := Lib.hid hcall; have HV := Lib.hid hvx
      cases f with
      | none =>
        rw [if_neg (by simp)] at hres
        have HRS := Lib.hid hres
        clear hr hb hD hpth hroot hres h hf hx hcall hvx hne
        cases b
        all_goals
          go_enter Tryz.func49, Tryz.ntmps49
          go_wp2_with (go_at_call 42; refine HBG.out.mono ?_; rintro e w1 ⟨rfl, hA, hg⟩; have HA := Lib.hid hA; have HG := Lib.hid hg; clear hA hg)
          have hc2 : ∀ d os, (Sort.grow (redrawn w1 d) os).cell? ⟨p, 2, none⟩ = some (.map (some l.bn)) := fun d os => by rw [(HA.out.regrown d os).cell]; rfl
          have hlf : ∀ d os, (Instr.lookup 56 (.map (some l.bn)) (.agg #[.string x.d, .string x.n]) false).run Tryz.prog (Sort.grow (redrawn w1 d) os) = .ok (.pointer none) (Sort.grow (redrawn w1 d) os) := fun d os => by
            have := (HA.out.regrown d os).look_file hxo
            rwa [HV.out] at this
          refine wp_region_quiet_below (by kernel_rfl) (by kernel_rfl) ?_
          repeat (first | go_big_quiet_step ((go_at_call 44; with_reducible exact Calls.regrown_of (HPL.out _))))
          clear hc2 hlf
          refine wpQuiet_nil ?_
          intro w2 hV
          have hB := below_class hV
          have HA2 := Lib.hid (HA.out.below hB); have HG2 := Lib.hid (gb_below HG.out hB)
          clear hV hB
          go_wp2_with (go_at_call 45; refine (HD.out _ HA2.out).mono ?_; rintro e w' ⟨rfl, rfl⟩)
          go_ret
          exact ⟨ret_int HRS.out, HA2.out, HG2.out⟩
      | some i =>
        rw [if_pos ⟨hne, rfl⟩] at hres
        have HRS := Lib.hid hres
        clear hr hb hD hpth hroot hres h hf hx hcall hvx hne
        go_enter Tryz.func49, Tryz.ntmps49
        go_wp2_with (go_at_call 42; refine HBG.out.mono ?_; rintro e w1 ⟨rfl, hA, hg⟩; have HA := Lib.hid hA; have HG := Lib.hid hg; clear hA hg)
        have hc2 : ∀ d os, (Sort.grow (redrawn w1 d) os).cell? ⟨p, 2, none⟩ = some (.map (some l.bn)) := fun d os => by rw [(HA.out.regrown d os).cell]; rfl
        have hlf : ∀ d os, (Instr.lookup 56 (.map (some l.bn)) (.agg #[.string x.d, .string x.n]) false).run Tryz.prog (Sort.grow (redrawn w1 d) os) = .ok (.pointer (some ⟨l.loc i, 0, none⟩)) (Sort.grow (redrawn w1 d) os) := fun d os => by
          have := (HA.out.regrown d os).look_file hxo
          rwa [HV.out] at this
        refine wp_region_quiet_below (by kernel_rfl) (by kernel_rfl) ?_
        repeat (first | go_big_quiet_step ((go_at_call 44; with_reducible exact Calls.regrown_of (HPL.out _))))
        clear hc2 hlf
        refine wpQuiet_nil ?_
        intro w2 hV
        have hB := below_class hV
        have HA2 := Lib.hid (HA.out.below hB); have HG2 := Lib.hid (gb_below HG.out hB)
        clear hV hB
        go_wp2_with fail
        go_ret
        exact ⟨ret_int HRS.out, HA2.out, HG2.out⟩
  · rw [findDir_52 (by rw [hr]; exact hr0), hr]
    have hr1 : (r != 0) = true := by simpa using hr0
    have hr2 : (r == 0) = false := by simpa using hr0
    clear hr hb hD
    go_enter Tryz.func49, Tryz.ntmps49
    go_wp2_with (go_at_call 42; refine HBG.out.mono ?_; rintro e w1 ⟨rfl, hA, hg⟩; have HA := Lib.hid hA; have HG := Lib.hid hg; clear hA hg)
    go_ret
    exact ⟨rfl, HA.out, HG.out⟩
end Go.Proofs.YtdbcjiapbehacaaGreatDoor.Vp
