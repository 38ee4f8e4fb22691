/-
  The law SipSums: any bytes have, with any key, the hash that the document says.
-/
import Derived.Test.YtgdpgpmkokjdjaaDoorSpWorks
import Derived.Lib.QuietBelow
namespace Go.Proofs.YtgdpgpmkokjdjaaDoor.Sp
open Go.RowKit

theorem below_class {W w' : World} (h : ∃ p : Regrown, w' = Sort.grow (redrawn W p.d) p.os) : Below W.heap.size W w' := by
  obtain ⟨p, rfl⟩ := h; exact below_regrown W p.d p.os

set_option maxHeartbeats 4000000 in
set_option maxRecDepth 100000 in
theorem sipSums_any (B n c : Nat) (A : Option Addr) (k bs : List Int) (w : World) (hk : k.length = 16) (hkb : Bytes k) (hr : Row w B A n bs) (hb : Bytes bs) (hB : B ≤ w.heap.size) (hc : n ≤ c) (hm : n ≤ 9223372036854775807) :
    Calls Tryd.prog 3 #[kval k, .slice A n c] w fun e w' => e = .returned (.bool true) ∧ Below w.heap.size w w' := by
  by_cases hn : n ≤ 3000
  · obtain ⟨v, hv⟩ : ∃ v, hash k bs = v := ⟨_, rfl⟩
    have HV := Lib.hid hv; have HK := Lib.hid hk
    clear hv hk
    unfold kval
    go_enter Tryd.func3, Tryd.ntmps3
    go_wp2_with fail
    refine wp_world (fun W => Hold W w.heap.size 23 (k.map by8) ∧ Row W B A n bs ∧ Below w.heap.size w W) ⟨Hold.new _ _ _, hr.alloc hB _, (Below.refl _ _).alloc (Nat.le_refl _) _⟩ ?_
    rintro W ⟨hk1, hr1, hb1⟩
    have hBW : B ≤ W.heap.size := Nat.le_trans hB hb1.size
    have HK1 := Lib.hid hk1; have HR1 := Lib.hid hr1; have HB1 := Lib.hid hb1
    clear hk1 hr1 hb1
    have c1 : ∀ (d : Nat) (os : Array Obj), Calls Tryd.prog 9 #[.agg (k.map by8).toArray, .slice A n c] (Sort.grow (redrawn W d) os) fun e w' => e = .returned (.int .u64 v) ∧ Below (Sort.grow (redrawn W d) os).heap.size (Sort.grow (redrawn W d) os) w' := fun d os =>
      sum_any B n c A k bs v _ HK.out hkb (HR1.out.below' (below_regrown W d os) hBW) hb (Nat.le_trans hBW (below_regrown W d os).size) hc (by omega) HV.out
    have c2 : ∀ (d : Nat) (os : Array Obj), Calls Tryd.prog 10 #[.agg (k.map by8).toArray, .slice A n c] (Sort.grow (redrawn W d) os) fun e w' => e = .returned (.int .u64 v) ∧ Below (Sort.grow (redrawn W d) os).heap.size (Sort.grow (redrawn W d) os) w' := fun d os =>
      rsum_any B n c A k bs v _ HK.out hkb (HR1.out.below' (below_regrown W d os) hBW) hb (Nat.le_trans hBW (below_regrown W d os).size) hc (by omega) HV.out
    have C1 := Lib.hid c1; have C2 := Lib.hid c2
    clear c1 c2
    refine wp_region_quiet_below (by kernel_rfl) (by kernel_rfl) ?_
    repeat (first
      | (refine quiet_load_arr 23 23 5 16 (.tmp 2) w.heap.size (k.map by8) rfl rfl rfl Tryd.underlying23 (key_info HK.out) (fun _ h => HK1.out.below (below_class h) HK1.out.lt) ?_)
      | (refine quiet_load_arr 22 23 5 16 (.tmp 2) w.heap.size (k.map by8) rfl rfl rfl Tryd.underlying22 (arr_info HK.out) (fun _ h => HK1.out.below (below_class h) HK1.out.lt) ?_)
      | go_big_quiet_step (first | (go_at_call 9; with_reducible exact Calls.regrown_of (C1.out _ _)) | (go_at_call 10; with_reducible exact Calls.regrown_of (C2.out _ _)) | (go_at_call 8; with_reducible exact Calls.regrown_of (works_any _)))
      | quiet_step (first | (go_at_call 9; with_reducible exact Calls.regrown_of (C1.out _ _)) | (go_at_call 10; with_reducible exact Calls.regrown_of (C2.out _ _)) | (go_at_call 8; with_reducible exact Calls.regrown_of (works_any _))))
    refine wpQuiet_nil ?_
    intro w7 hV
    have hB7 := below_class hV
    have HB7 := Lib.hid (HB1.out.trans (hB7.mono HB1.out.size))
    clear hV hB7
    go_wp2_with fail
    go_ret
    exact ⟨rfl, HB7.out⟩
  · have hgt : 3000 < n := by omega
    unfold kval
    go_enter Tryd.func3, Tryd.ntmps3
    go_wp2_with fail
    refine (works_any _).mono ?_
    rintro e w5 ⟨rfl, hb5⟩
    have HB5 := Lib.hid (((Below.refl _ _).alloc (Nat.le_refl _) _).trans (hb5.mono (by simp)))
    clear hb5
    go_wp2_with fail
    go_ret
    exact ⟨rfl, HB5.out⟩
end Go.Proofs.YtgdpgpmkokjdjaaDoor.Sp
