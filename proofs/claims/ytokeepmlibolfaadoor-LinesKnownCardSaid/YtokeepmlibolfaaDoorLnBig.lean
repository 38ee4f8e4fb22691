/-
  Layer 11 (lines): Parse of more bytes than a file may have.
-/
import Derived.Test.YtokeepmlibolfaaDoorLnBytes
namespace Go.Proofs.YtokeepmlibolfaaDoor.Ln
open Go.RowKit
set_option maxRecDepth 100000

set_option maxHeartbeats 2000000 in
theorem parse_huge (p : Option Addr) (n c : Nat) (w : World) (hn : 65536 < n) : Calls Tryd.prog 9 #[.slice p n c] w fun e W' => ∃ k2, e = .returned (.tuple #[.slice none 0 0, .slice (some ⟨w.heap.size, 0, none⟩) 1 k2]) ∧ W'.cell? ⟨w.heap.size, 0, none⟩ = some (.int .i64 0) ∧ W'.cell? ⟨w.heap.size, 1, none⟩ = some (.int .i64 3) ∧ Below w.heap.size w W' := by
  have hn2 : (65536 : Int) < (n : Int) := by omega
  clear hn
  go_enter Tryd.func9, Tryd.ntmps9
  go_wp2_with fail
  go_ret2
  exact ⟨1, rfl, by simp, by simp, (Below.refl _ _).alloc (Nat.le_refl _) _⟩
end Go.Proofs.YtokeepmlibolfaaDoor.Ln
