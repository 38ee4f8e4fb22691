/-
  Layer 11 (lines): the chapter's examples hold.
-/
import Derived.Test.YtokeepmlibolfaaDoorLnLit
namespace Go.Proofs.YtokeepmlibolfaaDoor.Ln
open Go.RowKit
set_option maxRecDepth 100000

def tA : List UInt8 := [91, 65, 93, 10, 107, 61, 118, 92, 10, 35, 32, 110, 111, 10, 119, 10]
def tB : List UInt8 := [107, 61, 49]
theorem parse_tA : parseL tA = ⟨[(2, [65], [107], [118, 32, 119])], [], [65]⟩ := by kernel_rfl
theorem parse_tB : parseL tB = ⟨[], [(1, 110)], []⟩ := by kernel_rfl
set_option maxHeartbeats 4000000 in
theorem works_any (m : Int) (w : World) (hm : w.cell? ⟨0, 0, none⟩ = some (.int .i64 m)) (h0 : 0 < w.heap.size) : Calls Tryd.prog 8 #[] w fun e w' => e = .returned (.bool true) ∧ Below w.heap.size w w' := by
  have H1 : Hid (∀ V, V.cell? ⟨0, 0, none⟩ = some (.int .i64 m) → 0 < V.heap.size → Calls Tryd.prog 9 #[kV V tA] (kW V tA) fun e W' => ∃ g cap p c, e = .returned (.tuple #[.slice (some ⟨g, 0, none⟩) 1 cap, .slice p 0 c]) ∧ V.heap.size ≤ g ∧ g < W'.heap.size ∧ (∀ i u, (rowL (parseL tA))[i]? = some u → W'.cell? ⟨g, i, none⟩ = some u) ∧ Below V.heap.size V W') := Lib.hid fun V h1 h2 => by
    refine (parse_con tA m V h1 h2 (by decide)).mono ?_
    rintro e W' ⟨v1, v2, rfl, o1, o2, hb⟩
    have hn1 : (parseL tA).found.length = 1 := by rw [parse_tA]; rfl
    have hn2 : (parseL tA).wrong.length = 0 := by rw [parse_tA]; rfl
    rw [hn1] at o1
    rw [hn2] at o2
    obtain ⟨g, cap, rfl, q1, q2, q3⟩ := row_some o1 (by omega)
    obtain ⟨p, c, rfl⟩ := row_none o2
    exact ⟨g, cap, p, c, rfl, by omega, q2, q3, (kW_below tA V).trans (hb.mono (by omega))⟩
  have H2 : Hid (∀ V, V.cell? ⟨0, 0, none⟩ = some (.int .i64 m) → 0 < V.heap.size → Calls Tryd.prog 9 #[kV V tB] (kW V tB) fun e W' => ∃ g cap p c, e = .returned (.tuple #[.slice p 0 c, .slice (some ⟨g, 0, none⟩) 1 cap]) ∧ V.heap.size ≤ g ∧ g < W'.heap.size ∧ (∀ i u, (rowD (parseL tB))[i]? = some u → W'.cell? ⟨g, i, none⟩ = some u) ∧ Below V.heap.size V W') := Lib.hid fun V h1 h2 => by
    refine (parse_con tB m V h1 h2 (by decide)).mono ?_
    rintro e W' ⟨v1, v2, rfl, o1, o2, hb⟩
    have hn1 : (parseL tB).found.length = 0 := by rw [parse_tB]; rfl
    have hn2 : (parseL tB).wrong.length = 1 := by rw [parse_tB]; rfl
    rw [hn1] at o1
    rw [hn2] at o2
    obtain ⟨g, cap, rfl, q1, q2, q3⟩ := row_some o2 (by omega)
    obtain ⟨p, c, rfl⟩ := row_none o1
    exact ⟨g, cap, p, c, rfl, by omega, q2, q3, (kW_below tB V).trans (hb.mono (by omega))⟩
  have hcv1 : ∀ W : World, (convert 22 22 (.slice (some ⟨W.heap.size, 0, none⟩) 16 16)).run Tryd.prog (W.alloc (.cells #[.int .u8 91, .int .u8 65, .int .u8 93, .int .u8 10, .int .u8 107, .int .u8 61, .int .u8 118, .int .u8 92, .int .u8 10, .int .u8 35, .int .u8 32, .int .u8 110, .int .u8 111, .int .u8 10, .int .u8 119, .int .u8 10] 5)) = .ok (kV W tA) (kW W tA) := con_run tA
  have hcv2 : ∀ W : World, (convert 22 22 (.slice (some ⟨W.heap.size, 0, none⟩) 3 3)).run Tryd.prog (W.alloc (.cells #[.int .u8 107, .int .u8 61, .int .u8 49] 5)) = .ok (kV W tB) (kW W tB) := con_run tB
  have hM := Lib.hid hm
  have h0' := Lib.hid h0
  clear hm h0
  go_enter Tryd.func8, Tryd.ntmps8
  go_wp2_with (first
    | (go_at_call 9; refine (H1.out _ hM.out h0'.out).mono ?_; clear H1; rintro e V1 ⟨g1, cap1, p1, c1, rfl, hg1, hz1, hx1, hb1⟩; have HB1 := Lib.hid hb1; have HX1 := Lib.hid hx1; have HG1 : Hid (w.heap.size ≤ g1 ∧ g1 < V1.heap.size) := Lib.hid ⟨hg1, hz1⟩; have hM1 : Hid (V1.cell? ⟨0, 0, none⟩ = some (.int .i64 m)) := Lib.hid ((hb1.cell (p := ⟨0, 0, none⟩) h0'.out).trans hM.out); have h01 : Hid (0 < V1.heap.size) := Lib.hid (by have := h0'.out; have := hb1.size; omega); clear hb1 hx1 hg1 hz1)
    | (go_at_call 9; refine (H2.out _ hM1.out h01.out).mono ?_; clear H2; rintro e V2 ⟨g2, cap2, p2, c2, rfl, hg2, hz2, hx2, hb2⟩; have HB2 := Lib.hid (HB1.out.trans (hb2.mono HB1.out.size)); have k : ∀ i u, (rowL (parseL tA))[i]? = some u → V2.cell? ⟨g1, i, none⟩ = some u := fun i u h => (hb2.cell (p := ⟨g1, i, none⟩) HG1.out.2).trans (HX1.out i u h); rw [parse_tA] at k; rw [parse_tB] at hx2; have a0 : V2.cell? ⟨g1, 0, none⟩ = some (.int .i64 2) := k 0 _ rfl; have a1 : V2.cell? ⟨g1, 1, none⟩ = some (.string ⟨#[65]⟩) := k 1 _ rfl; have a2 : V2.cell? ⟨g1, 2, none⟩ = some (.string ⟨#[107]⟩) := k 2 _ rfl; have a3 : V2.cell? ⟨g1, 3, none⟩ = some (.string ⟨#[118, 32, 119]⟩) := k 3 _ rfl; have d0 : V2.cell? ⟨g2, 0, none⟩ = some (.int .i64 1) := hx2 0 _ rfl; have d1 : V2.cell? ⟨g2, 1, none⟩ = some (.int .i64 110) := hx2 1 _ rfl; clear hb2 hx2 hg2 hz2 k)
    | fail)
  go_ret
  exact ⟨rfl, HB2.out⟩
end Go.Proofs.YtokeepmlibolfaaDoor.Ln
