/-
  Layer 7 (footer): a rule as the document's.
-/
import Derived.Test.YtkfhipkcnocokaaDoorFoWhole
namespace Go.Proofs.YtkfhipkcnocokaaDoor.Fo
open Go.RowKit
set_option maxRecDepth 100000

set_option maxHeartbeats 1600000 in
theorem lplain_any (r : Rl) (w : World) : Calls Tryd.prog 10 #[rlV r] w fun e w' => e = .returned (rlV r) ∧ Below w.heap.size w w' := by
  have hb : Below w.heap.size w w := Below.refl _ _
  obtain ⟨std, dst, off, dstOff, ⟨k1, m1, e1, d1, t1⟩, ⟨k2, m2, e2, d2, t2⟩⟩ := r
  go_enter Tryd.func10, Tryd.ntmps10
  go_wp2
  refine bodyPost_ret (v := rlV ⟨std, dst, off, dstOff, ⟨k1, m1, e1, d1, t1⟩, ⟨k2, m2, e2, d2, t2⟩⟩) (by simp [results, Tryd.results10, go_sem]) rfl ⟨rfl, ?_⟩
  have h1 := hb.alloc hb.size (.cells #[.string std, .string dst, .int .i64 off, .int .i64 dstOff, .int .u8 k1, .int .i64 m1, .int .i64 e1, .int .i64 d1, .int .i64 t1, .int .u8 k2, .int .i64 m2, .int .i64 e2, .int .i64 d2, .int .i64 t2] 25)
  exact h1.alloc h1.size _
end Go.Proofs.YtkfhipkcnocokaaDoor.Fo
