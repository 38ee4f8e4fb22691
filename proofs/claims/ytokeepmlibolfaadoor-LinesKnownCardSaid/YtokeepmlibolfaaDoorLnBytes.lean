/-
  Layer 11 (lines): bytes that come in, as a text; rows read element by element.
-/
import Derived.Test.YtokeepmlibolfaaDoorLnRow
import Derived.Test.YtokeepmlibolfaaDoorLnRefRp
namespace Go.Proofs.YtokeepmlibolfaaDoor.Ln
open Go.ChangeShapes Go.WideShapes Go.ChangeAt Go.RowKit

theorem u8_cells : Tryd.prog.cellsOf 5 = 1 := by kernel_rfl
theorem byte_of {n : Int} (h : (Lit.int .u8 n).wf = true) : ∃ b : UInt8, (b.toNat : Int) = n := by
  simp [Lit.wf, IntKind.min, IntKind.max, IntKind.bits, IntKind.signed] at h
  refine ⟨UInt8.ofNat n.toNat, ?_⟩
  rw [UInt8.toNat_ofNat']
  omega
theorem bytes_of : ∀ (zs : List Int), (∀ z ∈ zs, (Lit.int .u8 z).wf = true) → ∃ l : List UInt8, l.map (fun b => (b.toNat : Int)) = zs
  | [], _ => ⟨[], rfl⟩
  | z :: zs, h => by
    obtain ⟨b, hb⟩ := byte_of (h z (by simp))
    obtain ⟨l, hl⟩ := bytes_of zs fun y hy => h y (by simp [hy])
    exact ⟨b :: l, by rw [List.map_cons, hb, hl]⟩
/-- Bytes that lie from an address on, as a text. -/
theorem conv_any (w : World) (a : Addr) (len cap : Nat) (l : List UInt8) (hlen : l.length = len) (hcell : ∀ i b, l[i]? = some b → w.cell? (a.add i) = some (.int .u8 (b.toNat : Int))) : (convert 22 9 (.slice (some a) len cap)).run Tryd.prog w = .ok (.string (bs l)) w := by
  have hl : (loadCells a len).run Tryd.prog w = .ok ((l.map fun b => (b.toNat : Int)).map (Value.int .u8)).toArray w := by
    have := run_loadCells_list (P := Tryd.prog) w a ((l.map fun b => (b.toNat : Int)).map (Value.int .u8)) (fun j v hj => by
      rw [List.getElem?_map, List.getElem?_map] at hj
      cases hb : l[j]? with
      | none => rw [hb] at hj; cases hj
      | some b => rw [hb] at hj; cases hj; exact hcell j b hb)
    simpa [hlen] using this
  rw [run_convert_bytes_string w 22 9 5 _ len cap Tryd.underlying22 Tryd.underlying5 Tryd.underlying9, run_bytesToString w _ len cap _ hl, foldl_push_bytes]
  rw [← nums_bs l]
  simp [strOfNums, ByteArray.empty, ByteArray.emptyWithCapacity]
  rfl
section
variable {H : Type} {enc : TypeId × Value → H} {w : World} {base b0 : Nat} {held : Bool} {r : Reach} {v : Value} {d : DataW H} {p : List MemPlace}
/-- A row of bytes: it reads as a text, here and later. -/
theorem open_text (hv : Value.okWide Tryd.prog w r b0 22 v) (h : DataW.Trod enc Tryd.prog w base (fun _ => true) held 22 v d p) :
    ∃ (A : Option Addr) (n c : Nat) (l : List UInt8), v = .slice A n c ∧ l.length = n ∧ n ≤ 9223372036854775807 ∧ ∀ W', Below w.heap.size w W' → (convert 22 9 (.slice A n c)).run Tryd.prog W' = .ok (.string (bs l)) W' := by
  obtain ⟨a0, len, cap, rfl⟩ := okWide_slice Tryd.underlying22 hv
  obtain ⟨fuel, hf⟩ := h
  rcases open_ints Tryd.underlying22 Tryd.underlying5 u8_cells hf with ⟨hcs, _⟩ | ⟨a, len', cap', zs, hcs, _, hl, hm, hz, _, hcell, hwz⟩
  · simp [Value.cells] at hcs
    obtain ⟨rfl, rfl, rfl⟩ := hcs
    refine ⟨none, 0, 0, [], rfl, rfl, by omega, fun W' _ => ?_⟩
    exact run_convert_bytes_nil W' 22 5 Tryd.underlying22 Tryd.underlying5 0 0 9 Tryd.underlying9
  · simp [Value.cells] at hcs
    obtain ⟨rfl, rfl, rfl⟩ := hcs
    simp only [if_true] at hz
    have hml : cap ≤ 9223372036854775807 := by unfold maxLen at hm; omega
    obtain ⟨l, hlz⟩ := bytes_of (zs.take len) fun z hz' => hwz z (List.mem_of_mem_take hz')
    have hll : (zs.take len).length = len := by rw [List.length_take]; omega
    have hln : l.length = len := by rw [← hll, ← hlz, List.length_map]
    refine ⟨some a, len, cap, l, rfl, hln, by omega, fun W' hb => conv_any W' a len cap l hln fun i b hi => ?_⟩
    have hil : i < len := by have := (List.getElem?_eq_some_iff.1 hi).1; omega
    have hc := hcell i (by omega)
    have hg : zs.getD i 0 = (b.toNat : Int) := by
      have h1 : (zs.take len)[i]? = some (b.toNat : Int) := by rw [← hlz, List.getElem?_map, hi]; rfl
      rw [List.getElem?_take, if_pos hil] at h1
      simp [List.getD, h1]
    rw [hg] at hc
    exact (hb.cell (block_lt_of_cell hc)).trans hc
end
theorem bl_drewN {B : Nat} {a w : World} (h : Below B a w) (n : Nat) : Below B a (w.drewN n) := ⟨h.os, h.tape, h.output, h.size, h.block⟩
/-- A row whose elements lie. -/
def RowAt (W : World) (p : Option Addr) (sz : Nat) (xs : List (List Value)) : Prop := ∀ i cs, xs[i]? = some cs → ∃ g, p = some ⟨g, 0, none⟩ ∧ g < W.heap.size ∧ ∀ j u, cs[j]? = some u → W.cell? ⟨g, i * sz + j, none⟩ = some u
theorem lt_of_get {α : Type} {l : List α} {i : Nat} {x : α} (h : l[i]? = some x) : i < l.length := (List.getElem?_eq_some_iff.1 h).1
theorem flat_get {s : Nat} : ∀ {xs : List (List Value)}, (∀ x ∈ xs, x.length = s) → ∀ {i k : Nat} {cs : List Value} {u : Value}, xs[i]? = some cs → cs[k]? = some u → xs.flatten[i * s + k]? = some u
  | [], _, _, _, _, _, h, _ => by simp at h
  | x :: xs, hs, 0, k, cs, u, h, hk => by
    simp at h; subst h
    rw [List.flatten_cons, Nat.zero_mul, Nat.zero_add, List.getElem?_append_left (lt_of_get hk)]
    exact hk
  | x :: xs, hs, i + 1, k, cs, u, h, hk => by
    have hx : x.length = s := hs x (by simp)
    rw [List.flatten_cons, List.getElem?_append_right (by rw [hx, Nat.add_mul]; omega), hx, show (i + 1) * s + k - s = i * s + k by rw [Nat.add_mul]; omega]
    exact flat_get (fun y hy => hs y (by simp [hy])) (by simpa using h) hk
theorem row_at {W : World} {base sz : Nat} {e : TypeId} {v : Value} {xs : List (List Value)} (h : W.ownsRow base e sz v xs.length xs.flatten) (hs : ∀ x ∈ xs, x.length = sz) : ∃ p c, v = .slice p xs.length c ∧ RowAt W p sz xs := by
  rcases Nat.eq_zero_or_pos xs.length with h0 | h0
  · rw [h0] at h
    obtain ⟨p, c, rfl⟩ := row_none h
    refine ⟨p, c, by rw [h0], fun i cs hi => ?_⟩
    have := lt_of_get hi
    omega
  · obtain ⟨g, cap, rfl, _, hg, hc⟩ := row_some h h0
    exact ⟨_, cap, rfl, fun i cs hi => ⟨g, rfl, hg, fun j u hj => hc _ _ (flat_get hs hi hj)⟩⟩
theorem RowAt.keep {W W' : World} {p : Option Addr} {sz : Nat} {xs : List (List Value)} (h : RowAt W p sz xs) (hb : Below W.heap.size W W') : RowAt W' p sz xs := fun i cs hi => by
  obtain ⟨g, h1, h2, h3⟩ := h i cs hi
  exact ⟨g, h1, Nat.lt_of_lt_of_le h2 hb.size, fun j u hj => (hb.cell (p := ⟨g, i * sz + j, none⟩) h2).trans (h3 j u hj)⟩
theorem flat_map {α : Type} (f : α → List Value) : ∀ l : List α, l.flatMap f = (l.map f).flatten
  | [] => rfl
  | a :: l => by rw [List.flatMap_cons, List.map_cons, List.flatten_cons, flat_map f l]
theorem lines_at_row {W : World} {base : Nat} {v : Value} {s : Fs} (h : W.ownsRow base 33 4 v s.found.length (rowL s)) : ∃ p c, v = .slice p s.found.length c ∧ RowAt W p 4 (s.found.map lineC) := by
  have e : rowL s = (s.found.map lineC).flatten := flat_map lineC s.found
  rw [e] at h
  have := row_at (xs := s.found.map lineC) (by rw [List.length_map]; exact h) (fun x hx => by obtain ⟨y, _, rfl⟩ := List.mem_map.1 hx; rfl)
  rw [List.length_map] at this
  exact this
theorem diags_at_row {W : World} {base : Nat} {v : Value} {s : Fs} (h : W.ownsRow base 39 2 v s.wrong.length (rowD s)) : ∃ p c, v = .slice p s.wrong.length c ∧ RowAt W p 2 (s.wrong.map diagC) := by
  have e : rowD s = (s.wrong.map diagC).flatten := flat_map diagC s.wrong
  rw [e] at h
  have := row_at (xs := s.wrong.map diagC) (by rw [List.length_map]; exact h) (fun x hx => by obtain ⟨y, _, rfl⟩ := List.mem_map.1 hx; rfl)
  rw [List.length_map] at this
  exact this
theorem own_at_row {W : World} {base sz : Nat} {t : TypeId} {v : Value} {xs : List (List Value)} (h : OwnR W base t sz v xs) : ∃ p c, v = .slice p xs.length c ∧ RowAt W p sz xs := row_at h.1 h.2
/-- What is wrong is one of two. -/
theorem two_errs (pre : List (Nat × List UInt8)) : ∀ s : Fs, (∀ d ∈ s.wrong, d.2 = 3 ∨ d.2 = 110) → ∀ d ∈ (pre.foldl pstep s).wrong, d.2 = 3 ∨ d.2 = 110 := by
  induction pre with
  | nil => exact fun s h => h
  | cons x pre ih =>
    intro s h
    refine ih (pstep s x) fun d hd => ?_
    unfold pstep at hd
    repeat' split at hd
    all_goals first
      | exact h d hd
      | (rcases List.mem_append.1 hd with hd | hd
         · exact h d hd
         · rw [List.mem_singleton.1 hd]; simp)
theorem parse_errs (text : List UInt8) : ∀ d ∈ (parseL text).wrong, d.2 = 3 ∨ d.2 = 110 := two_errs _ _ (fun d hd => by cases hd)
end Go.Proofs.YtokeepmlibolfaaDoor.Ln
