/-
  What the rows of layer 7 ask, besides: how long the names of a rule may be.
-/
import Derived.Test.YtkfhipkcnocokaaDoorFoRow2
namespace Go.Proofs.YtkfhipkcnocokaaDoor.Fo
open Go.ChangeShapes Go.WideShapes Go.ChangeAt Go.RowKit Go.Joins Go.Deep
section
variable {H : Type} {enc : TypeId × Value → H} {w : World} {base : Nat} {sp : Nat → Bool} {held : Bool}
set_option maxRecDepth 100000 in
theorem sized_rule {r : Rl} {d : DataW H} {p : List MemPlace} (h : DataW.Trod enc Tryd.prog w base sp held 25 (rlV r) d p) : r.std.size ≤ maxLen ∧ r.dst.size ≤ maxLen := by
  obtain ⟨std, dst, off, dstOff, ⟨k1, m1, e1, d1, t1⟩, ⟨k2, m2, e2, d2, t2⟩⟩ := r
  obtain ⟨fuel, hf⟩ := h
  have hf' : DataW.trod enc Tryd.prog w base sp held fuel 25 [.string std, .string dst, .int .i64 off, .int .i64 dstOff, .int .u8 k1, .int .i64 m1, .int .i64 e1, .int .i64 d1, .int .i64 t1, .int .u8 k2, .int .i64 m2, .int .i64 e2, .int .i64 d2, .int .i64 t2] = some (d, p) := hf
  obtain ⟨xs, n, _, hx, _, hlen, hfs⟩ := DataW.trod_struct Tryd.underlying25 hf'
  match xs, hlen with
  | [y0, y1, y2, y3, y4, y5], _ =>
    have k0 : DataW.trod enc Tryd.prog w base sp held n 9 [.string std] = some y0 := by have := hfs 0 _ rfl; simpa [Value.cells, cells_str] using this
    have k1 : DataW.trod enc Tryd.prog w base sp held n 9 [.string dst] = some y1 := by have := hfs 1 _ rfl; simpa [Value.cells, cells_str] using this
    obtain ⟨s0, e0, _, l0⟩ := DataW.trod_string Tryd.underlying9 k0
    obtain ⟨s1, e1, _, l1⟩ := DataW.trod_string Tryd.underlying9 k1
    simp only [List.cons.injEq, Value.string.injEq, and_true] at e0 e1
    subst e0
    subst e1
    exact ⟨l0, l1⟩
theorem max_len {n : Nat} (h : n ≤ maxLen) : n ≤ 9223372036854775807 := Nat.le_trans h (by decide)
end
end Go.Proofs.YtkfhipkcnocokaaDoor.Fo
