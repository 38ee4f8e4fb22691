/-
  Layer 11 (lines): Parse of bytes that a text was made into; rows of one.
-/
import Derived.Test.YtokeepmlibolfaaDoorLnParse
import Derived.Lib.SlBytesConst
namespace Go.Proofs.YtokeepmlibolfaaDoor.Ln
open Go.RowKit
set_option maxRecDepth 100000

/-- Bytes made of a text: the row, and the world behind. -/
def cV (W : World) (t : List UInt8) : Value := .slice (some ⟨W.heap.size, 0, none⟩) t.length (grownCap W t.length 0 5)
def cR (W : World) (t : List UInt8) : Array Value := bytesRow (bs t) (grownCap W t.length 0 5)
def cW (W : World) (t : List UInt8) : World := W.drew.alloc (.cells (cR W t) 5 ((cR W t).size, (cR W t).size + 1))
theorem conv_run (t : List UInt8) (W : World) : (convert 9 22 (.string (bs t))).run Tryd.prog W = .ok (cV W t) (cW W t) := by
  have := run_bytes_of_string (P := Tryd.prog) W 9 22 5 (bs t) Tryd.underlying9 Tryd.underlying22 Tryd.underlying5
  rw [bs_size] at this
  exact this
theorem cW_size (t : List UInt8) (W : World) : (cW W t).heap.size = W.heap.size + 1 := by show (W.heap.push _).size = _; simp only [Array.size_push]
theorem cW_below (t : List UInt8) (W : World) : Below W.heap.size W (cW W t) := ((Below.refl _ _).drew).alloc (Nat.le_refl _) _
theorem cW_new (t : List UInt8) (W : World) : (cW W t).heap[W.heap.size]? = some (.cells (cR W t) 5 ((cR W t).size, (cR W t).size + 1)) := heap_alloc_new W.drew _
theorem conv_back (t : List UInt8) (W : World) : ∀ W', Below (cW W t).heap.size (cW W t) W' → (convert 22 9 (cV W t)).run Tryd.prog W' = .ok (.string (bs t)) W' := fun W' hb => by
  have hg := (hb.block W.heap.size (by rw [cW_size]; omega)).trans (cW_new t W)
  have hlen : (t.map fun b => (b.toNat : Int)).length = t.length := by simp
  have := run_convert_bytes_arg (P := Tryd.prog) (w := W') 22 5 Tryd.underlying22 Tryd.underlying5 W.heap.size 0 t.length (grownCap W t.length 0 5) (t.map fun b => (b.toNat : Int)) hlen (fun i hi => by
    rw [Nat.zero_add, List.getD_eq_getElem?_getD, List.getElem?_map, List.getElem?_eq_getElem hi]
    simp only [World.cell?, hg, Option.map_some, Option.getD_some, cR, bytesRow]
    rw [Array.getElem?_append_left (by simp; exact hi)]
    simp [hi]) 9 Tryd.underlying9
  rw [nums_bs] at this
  exact this
/-- Parse of bytes that a text was made into. -/
theorem parse_lit (text : List UInt8) (m : Int) (V : World) (hm : V.cell? ⟨0, 0, none⟩ = some (.int .i64 m)) (h0 : 0 < V.heap.size) (hl : text.length ≤ 65536) :
    Calls Tryd.prog 9 #[cV V text] (cW V text) fun e W' => ∃ v1 v2, e = .returned (.tuple #[v1, v2]) ∧ W'.ownsRow (V.heap.size + 7) 33 4 v1 (parseL text).found.length (rowL (parseL text)) ∧ W'.ownsRow (V.heap.size + 7) 39 2 v2 (parseL text).wrong.length (rowD (parseL text)) ∧ Below (V.heap.size + 1) (cW V text) W' := by
  have h := parse_any (some ⟨V.heap.size, 0, none⟩) (grownCap V text.length 0 5) text m (cW V text) (((cW_below text V).cell (p := ⟨0, 0, none⟩) h0).trans hm) (by rw [cW_size]; omega) (conv_back text V) hl
  rw [cW_size] at h
  exact h
/-- Bytes that the text of the program has. -/
def kV (W : World) (t : List UInt8) : Value := .slice (some ⟨W.heap.size, 0, none⟩) t.length t.length
def kW (W : World) (t : List UInt8) : World := W.alloc (.cells (cellsU t).toArray 5 ((cellsU t).toArray.size, (cellsU t).toArray.size + 1))
theorem con_run (t : List UInt8) (W : World) : (convert 22 22 (kV W t)).run Tryd.prog (W.alloc (.cells (cellsU t).toArray 5)) = .ok (kV W t) (kW W t) :=
  Lib.run_convert_bytes_const (P := Tryd.prog) W 22 5 (cellsU t).toArray t.length t.length Tryd.underlying22 Tryd.underlying5
theorem kW_size (t : List UInt8) (W : World) : (kW W t).heap.size = W.heap.size + 1 := by show (W.heap.push _).size = _; simp only [Array.size_push]
theorem kW_below (t : List UInt8) (W : World) : Below W.heap.size W (kW W t) := (Below.refl _ _).alloc (Nat.le_refl _) _
theorem con_back (t : List UInt8) (W : World) : ∀ W', Below (kW W t).heap.size (kW W t) W' → (convert 22 9 (kV W t)).run Tryd.prog W' = .ok (.string (bs t)) W' := fun W' hb => by
  have hg : W'.heap[W.heap.size]? = some (.cells (cellsU t).toArray 5 ((cellsU t).toArray.size, (cellsU t).toArray.size + 1)) := (hb.block W.heap.size (by rw [kW_size]; omega)).trans (heap_alloc_new W _)
  have hlen : (t.map fun b => (b.toNat : Int)).length = t.length := by simp
  have := run_convert_bytes_arg (P := Tryd.prog) (w := W') 22 5 Tryd.underlying22 Tryd.underlying5 W.heap.size 0 t.length t.length (t.map fun b => (b.toNat : Int)) hlen (fun i hi => by
    rw [Nat.zero_add, List.getD_eq_getElem?_getD, List.getElem?_map, List.getElem?_eq_getElem hi]
    simp only [World.cell?, hg, Option.map_some, Option.getD_some]
    simp [cellsU, hi]) 9 Tryd.underlying9
  rw [nums_bs] at this
  exact this
theorem parse_con (text : List UInt8) (m : Int) (V : World) (hm : V.cell? ⟨0, 0, none⟩ = some (.int .i64 m)) (h0 : 0 < V.heap.size) (hl : text.length ≤ 65536) :
    Calls Tryd.prog 9 #[kV V text] (kW V text) fun e W' => ∃ v1 v2, e = .returned (.tuple #[v1, v2]) ∧ W'.ownsRow (V.heap.size + 7) 33 4 v1 (parseL text).found.length (rowL (parseL text)) ∧ W'.ownsRow (V.heap.size + 7) 39 2 v2 (parseL text).wrong.length (rowD (parseL text)) ∧ Below (V.heap.size + 1) (kW V text) W' := by
  have h := parse_any (some ⟨V.heap.size, 0, none⟩) text.length text m (kW V text) (((kW_below text V).cell (p := ⟨0, 0, none⟩) h0).trans hm) (by rw [kW_size]; omega) (con_back text V) hl
  rw [kW_size] at h
  exact h
/-- A row of none, a row of some. -/
theorem row_none {W : World} {base size : Nat} {e : TypeId} {v : Value} {xs : List Value} (h : W.ownsRow base e size v 0 xs) : ∃ p c, v = .slice p 0 c := by
  rcases h.2 with ⟨rfl, _⟩ | ⟨g, cap, cur, rfl, _⟩
  · exact ⟨_, _, rfl⟩
  · exact ⟨_, _, rfl⟩
theorem row_some {W : World} {base size n : Nat} {e : TypeId} {v : Value} {xs : List Value} (h : W.ownsRow base e size v n xs) (hn : 0 < n) : ∃ g cap, v = .slice (some ⟨g, 0, none⟩) n cap ∧ base ≤ g ∧ g < W.heap.size ∧ ∀ i u, xs[i]? = some u → W.cell? ⟨g, i, none⟩ = some u := by
  rcases h.2 with ⟨_, h0⟩ | ⟨g, cap, cur, rfl, hb, hg, _, _, _, ht⟩
  · omega
  · refine ⟨g, cap, rfl, hb, (Array.getElem?_eq_some_iff.1 hg).1, fun i u hu => ?_⟩
    rw [← ht] at hu
    have hi : i < n * size := by
      have := (List.getElem?_eq_some_iff.1 hu).1
      simp at this
      omega
    rw [List.getElem?_take, if_pos hi, Array.getElem?_toList] at hu
    simp only [World.cell?, hg]
    exact hu
end Go.Proofs.YtokeepmlibolfaaDoor.Ln
