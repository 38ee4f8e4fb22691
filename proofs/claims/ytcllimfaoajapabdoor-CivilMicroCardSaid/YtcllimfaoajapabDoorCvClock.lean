/-
  A clock by value: opened, and shut.
-/
import Derived.Test.YtcllimfaoajapabDoorCvRow
import Derived.Test.YtcllimfaoajapabDoorCvMicro
import Derived.ChangeArms
import Derived.Deep.Strs
namespace Go.Proofs.YtcllimfaoajapabDoor.Cv
open Go.ChangeShapes Go.WideShapes Go.ChangeAt Go.RowKit Go.Joins Go.Deep

theorem cells_clock : Tryd.prog.cellsOf 41 = 7 := by kernel_rfl
theorem cells_int : Tryd.prog.cellsOf 3 = 1 := by kernel_rfl
theorem array7 {α : Type} {cs : Array α} (h : cs.size = 7) : ∃ c0 c1 c2 c3 c4 c5 c6, cs = #[c0, c1, c2, c3, c4, c5, c6] := by
  obtain ⟨l⟩ := cs
  match l, h with
  | [c0, c1, c2, c3, c4, c5, c6], _ => exact ⟨c0, c1, c2, c3, c4, c5, c6, rfl⟩
theorem list5 {α : Type} {l : List α} (h : l.length = 5) : ∃ a b c d e, l = [a, b, c, d, e] := by
  match l, h with
  | [a, b, c, d, e], _ => exact ⟨a, b, c, d, e, rfl⟩

section
variable {H : Type} {enc : TypeId × Value → H} {w : World} {base : Nat} {sp : Nat → Bool} {held : Bool}
theorem int_of {n : Nat} {c : Value} {y : DataW H × List MemPlace} (h : DataW.trod enc Tryd.prog w base sp held n 3 [c] = some y) : ∃ a : Int, c = .int .i64 a ∧ y = (.lit (.int .i64 a), []) ∧ (Lit.int .i64 a).wf = true := by
  obtain ⟨a, e, rfl, wa⟩ := DataW.trod_int Tryd.underlying3 h
  simp at e
  exact ⟨a, e, rfl, wa⟩
/-- A clock by value, opened. -/
theorem open_clock {b0 : Nat} {r : Reach} {v : Value} {d : DataW H} {p : List MemPlace} (hv : Value.okWide Tryd.prog w r b0 41 v) (h : DataW.Trod enc Tryd.prog w base sp held 41 v d p) :
    ∃ y m d' h i s u : Int, v = cv y m d' h i s u ∧ d = .agg [.agg [.lit (.int .i64 y), .lit (.int .i64 m), .lit (.int .i64 d')], .lit (.int .i64 h), .lit (.int .i64 i), .lit (.int .i64 s), .lit (.int .i64 u)] ∧ p = [] ∧
      (Lit.int .i64 y).wf = true ∧ (Lit.int .i64 m).wf = true ∧ (Lit.int .i64 d').wf = true ∧ (Lit.int .i64 h).wf = true ∧ (Lit.int .i64 i).wf = true ∧ (Lit.int .i64 s).wf = true ∧ (Lit.int .i64 u).wf = true := by
  obtain ⟨cs, rfl, hsz⟩ := okWide_struct Tryd.underlying41 hv
  obtain ⟨c0, c1, c2, c3, c4, c5, c6, rfl⟩ := array7 (hsz.trans cells_clock)
  obtain ⟨fuel, hf⟩ := h
  obtain ⟨xs, n, _, hx, _, hlen, hfs⟩ := DataW.trod_struct Tryd.underlying41 hf
  obtain ⟨y0, y1, y2, y3, y4, rfl⟩ := list5 hlen
  have k0 : DataW.trod enc Tryd.prog w base sp held n 23 [c0, c1, c2] = some y0 := by have := hfs 0 _ rfl; simpa [Value.cells, cells_date] using this
  have k1 : DataW.trod enc Tryd.prog w base sp held n 3 [c3] = some y1 := by have := hfs 1 _ rfl; simpa [Value.cells, cells_int] using this
  have k2 : DataW.trod enc Tryd.prog w base sp held n 3 [c4] = some y2 := by have := hfs 2 _ rfl; simpa [Value.cells, cells_int] using this
  have k3 : DataW.trod enc Tryd.prog w base sp held n 3 [c5] = some y3 := by have := hfs 3 _ rfl; simpa [Value.cells, cells_int] using this
  have k4 : DataW.trod enc Tryd.prog w base sp held n 3 [c6] = some y4 := by have := hfs 4 _ rfl; simpa [Value.cells, cells_int] using this
  obtain ⟨z0, z1, z2, n', hz, _, j0, j1, j2⟩ := trod_struct3 Tryd.underlying23 k0
  have i0 : DataW.trod enc Tryd.prog w base sp held n' 3 [c0] = some z0 := by simpa [cells_int] using j0
  have i1 : DataW.trod enc Tryd.prog w base sp held n' 3 [c1] = some z1 := by simpa [cells_int] using j1
  have i2 : DataW.trod enc Tryd.prog w base sp held n' 3 [c2] = some z2 := by simpa [cells_int] using j2
  obtain ⟨a0, rfl, rfl, w0⟩ := int_of i0
  obtain ⟨a1, rfl, rfl, w1⟩ := int_of i1
  obtain ⟨a2, rfl, rfl, w2⟩ := int_of i2
  obtain ⟨a3, rfl, rfl, w3⟩ := int_of k1
  obtain ⟨a4, rfl, rfl, w4⟩ := int_of k2
  obtain ⟨a5, rfl, rfl, w5⟩ := int_of k3
  obtain ⟨a6, rfl, rfl, w6⟩ := int_of k4
  subst hz
  simp only [Prod.mk.injEq] at hx
  exact ⟨a0, a1, a2, a3, a4, a5, a6, rfl, hx.1, by simpa using hx.2, w0, w1, w2, w3, w4, w5, w6⟩
theorem int_mk {a : Int} (n : Nat) (wa : (Lit.int .i64 a).wf = true) : DataW.trod enc Tryd.prog w base sp held (n + 1) 3 [.int .i64 a] = some (.lit (.int .i64 a), []) := by
  simp [DataW.trod, Tryd.underlying3, wa]
/-- .. and shut. -/
theorem shut_clock {y m d h i s u : Int} (w0 : (Lit.int .i64 y).wf = true) (w1 : (Lit.int .i64 m).wf = true) (w2 : (Lit.int .i64 d).wf = true) (w3 : (Lit.int .i64 h).wf = true) (w4 : (Lit.int .i64 i).wf = true) (w5 : (Lit.int .i64 s).wf = true) (w6 : (Lit.int .i64 u).wf = true) :
    DataW.Trod enc Tryd.prog w base sp held 41 (cv y m d h i s u) (.agg [.agg [.lit (.int .i64 y), .lit (.int .i64 m), .lit (.int .i64 d)], .lit (.int .i64 h), .lit (.int .i64 i), .lit (.int .i64 s), .lit (.int .i64 u)]) [] := by
  have hd := trod_struct3_mk (enc := enc) (w := w) (base := base) (spare := sp) (held := held) (n := 1) (cs := [.int .i64 y, .int .i64 m, .int .i64 d]) (y0 := (.lit (.int .i64 y), [])) (y1 := (.lit (.int .i64 m), [])) (y2 := (.lit (.int .i64 d), [])) Tryd.underlying23 (by simp [cells_date])
    (by simpa [cells_int] using int_mk 0 w0) (by simpa [cells_int] using int_mk 0 w1) (by simpa [cells_int] using int_mk 0 w2)
  simp only [List.append_nil] at hd
  have hc := trod_struct_mk (enc := enc) (w := w) (base := base) (spare := sp) (held := held) (n := 2) (cs := [.int .i64 y, .int .i64 m, .int .i64 d, .int .i64 h, .int .i64 i, .int .i64 s, .int .i64 u])
    (xs := [(.agg [.lit (.int .i64 y), .lit (.int .i64 m), .lit (.int .i64 d)], []), (.lit (.int .i64 h), []), (.lit (.int .i64 i), []), (.lit (.int .i64 s), []), (.lit (.int .i64 u), [])]) Tryd.underlying41 (by simp [cells_clock])
    (by simp [cells_date, cells_int, int_mk, w3, w4, w5, w6, hd])
  exact ⟨3, by simpa [Value.cells] using hc⟩
end
end Go.Proofs.YtcllimfaoajapabDoor.Cv
