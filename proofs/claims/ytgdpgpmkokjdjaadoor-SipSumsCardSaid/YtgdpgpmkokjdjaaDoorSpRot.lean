/-
  Numbers turned to the left: what math/bits.RotateLeft64 and clepsydraref04.turn answer.
-/
import Derived.Test.YtgdpgpmkokjdjaaDoorChecked
import Derived.Test.YtgdpgpmkokjdjaaDoorSpPlain
import Derived.Deep.QuietTactic
import Derived.BigQuiet
import Derived.Lib.Hide
namespace Go.Proofs.YtgdpgpmkokjdjaaDoor.Sp
open Go.RowKit

theorem ret_int {k : IntKind} {a b : Int} (h : a = b) : Ending.returned (.int k a) = .returned (.int k b) := by rw [h]

set_option maxHeartbeats 400000 in
theorem left13 (x r : Int) (w : World) (h : rot13 x = r) : Calls Tryd.prog 26 #[.int .u64 x, .int .i64 13] w fun e w' => e = .returned (.int .u64 r) ∧ w = w' := by
  subst h
  have hm : bits .and .u64 13 63 = 13 := by decide
  go_enter Tryd.func26, Tryd.ntmps26
  go_wp2
  go_ret
  exact ⟨rfl, rfl⟩
set_option maxHeartbeats 400000 in
theorem turn13 (x r : Int) (w : World) (h : rot13 x = r) : Calls Tryd.prog 25 #[.int .u64 x, .int .i64 13] w fun e w' => e = .returned (.int .u64 r) ∧ ∃ n, w' = w.drewN n := by
  subst h
  go_enter Tryd.func25, Tryd.ntmps25
  go_wp2
  go_quiet (fail)
  go_wp2
  go_ret
  exact ⟨rfl, _, rfl⟩

set_option maxHeartbeats 400000 in
theorem left16 (x r : Int) (w : World) (h : rot16 x = r) : Calls Tryd.prog 26 #[.int .u64 x, .int .i64 16] w fun e w' => e = .returned (.int .u64 r) ∧ w = w' := by
  subst h
  have hm : bits .and .u64 16 63 = 16 := by decide
  go_enter Tryd.func26, Tryd.ntmps26
  go_wp2
  go_ret
  exact ⟨rfl, rfl⟩
set_option maxHeartbeats 400000 in
theorem turn16 (x r : Int) (w : World) (h : rot16 x = r) : Calls Tryd.prog 25 #[.int .u64 x, .int .i64 16] w fun e w' => e = .returned (.int .u64 r) ∧ ∃ n, w' = w.drewN n := by
  subst h
  go_enter Tryd.func25, Tryd.ntmps25
  go_wp2
  go_quiet (fail)
  go_wp2
  go_ret
  exact ⟨rfl, _, rfl⟩

set_option maxHeartbeats 400000 in
theorem left17 (x r : Int) (w : World) (h : rot17 x = r) : Calls Tryd.prog 26 #[.int .u64 x, .int .i64 17] w fun e w' => e = .returned (.int .u64 r) ∧ w = w' := by
  subst h
  have hm : bits .and .u64 17 63 = 17 := by decide
  go_enter Tryd.func26, Tryd.ntmps26
  go_wp2
  go_ret
  exact ⟨rfl, rfl⟩
set_option maxHeartbeats 400000 in
theorem turn17 (x r : Int) (w : World) (h : rot17 x = r) : Calls Tryd.prog 25 #[.int .u64 x, .int .i64 17] w fun e w' => e = .returned (.int .u64 r) ∧ ∃ n, w' = w.drewN n := by
  subst h
  go_enter Tryd.func25, Tryd.ntmps25
  go_wp2
  go_quiet (fail)
  go_wp2
  go_ret
  exact ⟨rfl, _, rfl⟩

set_option maxHeartbeats 400000 in
theorem left21 (x r : Int) (w : World) (h : rot21 x = r) : Calls Tryd.prog 26 #[.int .u64 x, .int .i64 21] w fun e w' => e = .returned (.int .u64 r) ∧ w = w' := by
  subst h
  have hm : bits .and .u64 21 63 = 21 := by decide
  go_enter Tryd.func26, Tryd.ntmps26
  go_wp2
  go_ret
  exact ⟨rfl, rfl⟩
set_option maxHeartbeats 400000 in
theorem turn21 (x r : Int) (w : World) (h : rot21 x = r) : Calls Tryd.prog 25 #[.int .u64 x, .int .i64 21] w fun e w' => e = .returned (.int .u64 r) ∧ ∃ n, w' = w.drewN n := by
  subst h
  go_enter Tryd.func25, Tryd.ntmps25
  go_wp2
  go_quiet (fail)
  go_wp2
  go_ret
  exact ⟨rfl, _, rfl⟩

set_option maxHeartbeats 400000 in
theorem left32 (x r : Int) (w : World) (h : rot32 x = r) : Calls Tryd.prog 26 #[.int .u64 x, .int .i64 32] w fun e w' => e = .returned (.int .u64 r) ∧ w = w' := by
  subst h
  have hm : bits .and .u64 32 63 = 32 := by decide
  go_enter Tryd.func26, Tryd.ntmps26
  go_wp2
  go_ret
  exact ⟨rfl, rfl⟩
set_option maxHeartbeats 400000 in
theorem turn32 (x r : Int) (w : World) (h : rot32 x = r) : Calls Tryd.prog 25 #[.int .u64 x, .int .i64 32] w fun e w' => e = .returned (.int .u64 r) ∧ ∃ n, w' = w.drewN n := by
  subst h
  go_enter Tryd.func25, Tryd.ntmps25
  go_wp2
  go_quiet (fail)
  go_wp2
  go_ret
  exact ⟨rfl, _, rfl⟩
end Go.Proofs.YtgdpgpmkokjdjaaDoor.Sp
