/-
  Layer 7 (footer): which offset holds, as the document counts it (ways by gen_fo7q.py).
-/
import Derived.Test.YtkfhipkcnocokaaDoorFoSummer
import Derived.Test.YtkfhipkcnocokaaDoorFoBig
import Derived.Test.YtkfhipkcnocokaaDoorFoDoc2
import Derived.Test.YtkfhipkcnocokaaDoorFoDoc4
namespace Go.Proofs.YtkfhipkcnocokaaDoor.Fo
open Go.RowKit
set_option maxRecDepth 100000

set_option maxHeartbeats 800000 in
theorem dat_no (r : Rl) (s : Int) (hr : rightR r = false) (z1 : r.std.size ≤ 9223372036854775807) (z2 : r.dst.size ≤ 9223372036854775807) (w : World) : Calls Tryd.prog 18 #[rlV r, .int .i64 s] w fun e w' => e = .returned (.tuple #[.int .i64 0, .bool false]) ∧ Below w.heap.size w w' := by
  have H0 : Hid (∀ V, Wk w V r → Calls Tryd.prog 12 #[rlV r] V fun e w' => e = .returned (.bool false) ∧ Wk w w' r) := Lib.hid fun V hV => by have := bright_any r z1 z2 V; rw [hr] at this; exact this.mono fun _ _ ⟨he, hb⟩ => ⟨he, hV.step hb⟩
  have K0 := Lib.hid (Wk.start w r 29)
  clear hr z1 z2
  obtain ⟨std, dst, off, dstOff, ⟨k1, m1, e1, d1, t1⟩, ⟨k2, m2, e2, d2, t2⟩⟩ := r
  simp only at *
  go_enter Tryd.func18, Tryd.ntmps18
  go_wp2_with (first
    | (go_at_call 12; refine (H0.out _ K0.out).mono ?_; clear H0; rintro e V0 ⟨rfl, hk⟩; have K1 := Lib.hid hk; clear hk)
    | fail)
  go_ret2
  exact ⟨rfl, K1.out.b⟩
set_option maxHeartbeats 800000 in
theorem dat_std (r : Rl) (s : Int) (hr : rightR r = true) (hs : r.dst.toList.isEmpty = true) (z1 : r.std.size ≤ 9223372036854775807) (z2 : r.dst.size ≤ 9223372036854775807) (w : World) : Calls Tryd.prog 18 #[rlV r, .int .i64 s] w fun e w' => e = .returned (.tuple #[.int .i64 r.off, .bool false]) ∧ Below w.heap.size w w' := by
  have H0 : Hid (∀ V, Wk w V r → Calls Tryd.prog 12 #[rlV r] V fun e w' => e = .returned (.bool true) ∧ Wk w w' r) := Lib.hid fun V hV => by have := bright_any r z1 z2 V; rw [hr] at this; exact this.mono fun _ _ ⟨he, hb⟩ => ⟨he, hV.step hb⟩
  have K0 := Lib.hid (Wk.start w r 29)
  clear hr z1 z2
  obtain ⟨std, dst, off, dstOff, ⟨k1, m1, e1, d1, t1⟩, ⟨k2, m2, e2, d2, t2⟩⟩ := r
  simp only at *
  go_enter Tryd.func18, Tryd.ntmps18
  go_wp2_with (first
    | (go_at_call 12; refine (H0.out _ K0.out).mono ?_; clear H0; rintro e V0 ⟨rfl, hk⟩; have K1 := Lib.hid hk; clear hk; have a1 := K1.out.r.c1; have a2 := K1.out.r.c2)
    | fail)
  go_ret2
  exact ⟨rfl, K1.out.b⟩
set_option maxHeartbeats 8000000 in
theorem dat_dst (r : Rl) (s t y m d : Int) (c : Bool) (hr : rightR r = true) (hs : r.dst.toList.isEmpty = false) (z1 : r.std.size ≤ 9223372036854775807) (z2 : r.dst.size ≤ 9223372036854775807) (b1 : dayB r.start = true) (b2 : dayB r.end_ = true) (o1 : offB r.off = true) (o2 : offB r.dstOff = true) (hcl : max (-10000000000) (min 100000000000 s) = t) (hR : Cv.Right y m d) (hn : Cv.num y m d = (t + r.off) / 86400) (hc : (sumS (begF r) (endF r) t y 4).2 = c) (v : Int) (hv : v = if c then r.dstOff else r.off) (w : World) :
    Calls Tryd.prog 18 #[rlV r, .int .i64 s] w fun e w' => e = .returned (.tuple #[.int .i64 v, .bool c]) ∧ Below w.heap.size w w' := by
  have O1 : -89999 ≤ r.off ∧ r.off ≤ 89999 := by unfold offB inB at o1; simpa [Bool.and_eq_true, decide_eq_true_eq] using o1
  have O2 : -89999 ≤ r.dstOff ∧ r.dstOff ≤ 89999 := by unfold offB inB at o2; simpa [Bool.and_eq_true, decide_eq_true_eq] using o2
  have tl : -10000000000 ≤ t := by omega
  have tu : t ≤ 100000000000 := by omega
  have Y := year_bd hR hn (by omega) (by omega)
  obtain ⟨Y0, Y1⟩ := Y
  have LO : ∀ k : Nat, k < 4 → (-100000000000 ≤ switchV r.start (y - 2 + k) ∧ switchV r.start (y - 2 + k) ≤ 400000000000) ∧ (-100000000000 ≤ switchV r.end_ (y - 2 + k) ∧ switchV r.end_ (y - 2 + k) ≤ 400000000000) := fun k hk => ⟨switchV_bd b1 (by omega), switchV_bd b2 (by omega)⟩
  have HBD := Lib.hid (sumS_bd (begF r) (endF r) t y (fun k hk => by obtain ⟨x1, x2⟩ := LO k hk; unfold begF endF; omega))
  have HLO := Lib.hid LO
  have HT1 : Hid (∀ k : Nat, k < 4 → ∀ V, Calls Tryd.prog 20 #[dyV r.start, .int .i64 (y - 2 + k)] V fun e w' => e = .returned (.int .i64 (switchV r.start (y - 2 + k))) ∧ Below V.heap.size V w') := Lib.hid fun k hk V => dswitch_any r.start (y - 2 + k) b1 (by omega) (by omega) V
  have HT2 : Hid (∀ k : Nat, k < 4 → ∀ V, Calls Tryd.prog 20 #[dyV r.end_, .int .i64 (y - 2 + k)] V fun e w' => e = .returned (.int .i64 (switchV r.end_ (y - 2 + k))) ∧ Below V.heap.size V w') := Lib.hid fun k hk V => dswitch_any r.end_ (y - 2 + k) b2 (by omega) (by omega) V
  have H0 : Hid (∀ V, Wk w V r → Calls Tryd.prog 12 #[rlV r] V fun e w' => e = .returned (.bool true) ∧ Wk w w' r) := Lib.hid fun V hV => by have := bright_any r z1 z2 V; rw [hr] at this; exact this.mono fun _ _ ⟨he, hb⟩ => ⟨he, hV.step hb⟩
  have x1 : wrap64 (t + r.off) = t + r.off := w_id (by omega) (by omega)
  have HF : Hid (∀ V, Calls Tryd.prog 42 #[.int .i64 (t + r.off), .int .i64 86400] V fun e w' => e = .returned (.int .i64 ((t + r.off) / 86400)) ∧ V = w') := Lib.hid fun V => dfloor_any _ (by omega) (by omega) V
  have HY : Hid (∀ V, Calls Tryd.prog 41 #[.int .i64 ((t + r.off) / 86400)] V fun e w' => e = .returned (.int .i64 y) ∧ V = w') := Lib.hid fun V => by
    obtain ⟨l1, l2⟩ := year_in hR
    rw [hn] at l1 l2
    exact dyear_at _ y ⟨Y0, Y1⟩ (by unfold bg; omega) (by unfold bg; rw [Cv.dby_succ]; omega) V
  have K0 := Lib.hid (Wk.start w r 29)
  have HC := Lib.hid hc
  have HV := Lib.hid hv
  have HS := Lib.hid hs
  clear hr hs z1 z2 b1 b2 o1 o2 hR hn LO hc hv
  generalize (t + r.off) / 86400 = dd at *
  have hs := HS.out
  go_enter Tryd.func18, Tryd.ntmps18
  go_wp2_with (first
    | (go_at_call 12; refine (H0.out _ K0.out).mono ?_; clear H0; rintro e V0 ⟨rfl, hk⟩; have K1 := Lib.hid hk; clear hk; have a1 := K1.out.r.c1; have a2 := K1.out.r.c2)
    | (go_at_call 42; refine (HF.out _).mono ?_; clear HF; rintro e V ⟨rfl, rfl⟩)
    | (go_at_call 41; refine (HY.out _).mono ?_; clear HY; rintro e V ⟨rfl, rfl⟩)
    | fail)
  clear a1 a2 hs hcl x1
  go_loopw [8, 9, 10, 11] (fun l s an yr wr => ∃ (k : Nat) (L : Int) (b : Bool), k ≤ 4 ∧ l = .int .i64 L ∧ s = .bool (sumS (begF r) (endF r) t y k).2 ∧ an = .bool b ∧ yr = .int .i64 (y - 2 + k) ∧ ((b = true ∧ (sumS (begF r) (endF r) t y k).1 = L ∧ -9223372036854775808 < L) ∨ (b = false ∧ L = 0 ∧ (sumS (begF r) (endF r) t y k) = (-9223372036854775808, false))) ∧ Wk w wr r) (fun _ _ _ yr _ => (y + 2 - intOf yr).toNat)
  case atStart => exact ⟨0, 0, false, by omega, rfl, rfl, rfl, by go_num, .inr ⟨rfl, rfl, rfl⟩, K1.out⟩
  case round =>
    obtain ⟨k, L, bb, hk, rfl, rfl, rfl, rfl, hx, hK⟩ := hrel
    have HK := Lib.hid hK
    clear hK
    by_cases hk4 : k < 4
    · have hk3 : (k : Int) ≤ 3 := by omega
      have HS1 := Lib.hid (HT1.out k hk4)
      have HS2 := Lib.hid (HT2.out k hk4)
      obtain ⟨⟨l1, l2⟩, ⟨l3, l4⟩⟩ := HLO.out k hk4
      obtain ⟨g1, g2⟩ := HBD.out k hk
      have hA : begF r (y - 2 + k) = switchV r.start (y - 2 + k) - r.off := rfl
      have hB : endF r (y - 2 + k) = switchV r.end_ (y - 2 + k) - r.dstOff := rfl
      obtain ⟨sA, hsA⟩ : ∃ sA, switchV r.start (y - 2 + k) = sA := ⟨_, rfl⟩
      obtain ⟨sB, hsB⟩ : ∃ sB, switchV r.end_ (y - 2 + k) = sB := ⟨_, rfl⟩
      rw [hsA] at HS1 hA l1 l2
      rw [hsB] at HS2 hB l3 l4
      obtain ⟨A, hA2⟩ : ∃ A, sA - r.off = A := ⟨_, rfl⟩
      obtain ⟨B, hB2⟩ : ∃ B, sB - r.dstOff = B := ⟨_, rfl⟩
      rw [hA2] at hA
      rw [hB2] at hB
      have wA : wrap64 (sA - r.off) = A := by rw [hA2]; exact w_id (by omega) (by omega)
      have wB : wrap64 (sB - r.dstOff) = B := by rw [hB2]; exact w_id (by omega) (by omega)
      have wY : wrap64 (y + 1) = y + 1 := w_id (by omega) (by omega)
      have wN : wrap64 (y - 2 + k + 1) = y - 2 + k + 1 := w_id (by omega) (by omega)
      have c1 : y - 2 + (k : Int) ≤ y + 1 := by omega
      have LB : -1000000000000 ≤ A ∧ A ≤ 1000000000000 ∧ -1000000000000 ≤ B ∧ B ≤ 1000000000000 := by omega
      clear hsA hsB l1 l2 l3 l4 hA2 hB2 HLO HBD HT1 HT2 HC HV HS
      rcases hx with ⟨rfl, hL, hL2⟩ | ⟨rfl, rfl, hL⟩
      · obtain ⟨a, ha⟩ : ∃ a, (sumS (begF r) (endF r) t y k).1 = a := ⟨_, rfl⟩
        obtain ⟨b, hb⟩ : ∃ b, (sumS (begF r) (endF r) t y k).2 = b := ⟨_, rfl⟩
        obtain rfl : a = L := by rw [← ha]; exact hL
        rw [ha] at g1 g2
        rw [hb]
        clear hL
        obtain ⟨std, dst, off, dstOff, ⟨k1, m1, e1, d1, t1⟩, ⟨k2, m2, e2, d2, t2⟩⟩ := r
        simp only at *
        by_cases h1 : A ≤ t
        · by_cases h2 : a < A
          ·
            by_cases h3 : B ≤ t
            · by_cases h4 : A ≤ B
              ·
                have s1 : stepA A t (a, b) = (A, true) := stepA_yes h1 h2
                have s2 : stepB B t (A, true) = (B, false) := stepB_yes h3 h4
                have HN := Lib.hid (step_is ha hb hA hB (show stepB B t (stepA A t (a, b)) = (B, false) by rw [s1, s2]))
                clear s1 s2 ha hb hA hB
                go_wp2_with fail
                have x2 : ∀ dq osq, (Sort.grow (redrawn wr dq) osq).cell? ⟨w.heap.size, 2, none⟩ = some (.int .i64 off) := fun dq osq => (HK.out.step (below_regrown wr dq osq)).r.c2
                have x3 : ∀ dq osq, (Sort.grow (redrawn wr dq) osq).cell? ⟨w.heap.size, 3, none⟩ = some (.int .i64 dstOff) := fun dq osq => (HK.out.step (below_regrown wr dq osq)).r.c3
                have x4 : ∀ dq osq, (Sort.grow (redrawn wr dq) osq).cell? ⟨w.heap.size, 4, none⟩ = some (.int .u8 k1) := fun dq osq => (HK.out.step (below_regrown wr dq osq)).r.c4
                have x5 : ∀ dq osq, (Sort.grow (redrawn wr dq) osq).cell? ⟨w.heap.size, 5, none⟩ = some (.int .i64 m1) := fun dq osq => (HK.out.step (below_regrown wr dq osq)).r.c5
                have x6 : ∀ dq osq, (Sort.grow (redrawn wr dq) osq).cell? ⟨w.heap.size, 6, none⟩ = some (.int .i64 e1) := fun dq osq => (HK.out.step (below_regrown wr dq osq)).r.c6
                have x7 : ∀ dq osq, (Sort.grow (redrawn wr dq) osq).cell? ⟨w.heap.size, 7, none⟩ = some (.int .i64 d1) := fun dq osq => (HK.out.step (below_regrown wr dq osq)).r.c7
                have x8 : ∀ dq osq, (Sort.grow (redrawn wr dq) osq).cell? ⟨w.heap.size, 8, none⟩ = some (.int .i64 t1) := fun dq osq => (HK.out.step (below_regrown wr dq osq)).r.c8
                have x9 : ∀ dq osq, (Sort.grow (redrawn wr dq) osq).cell? ⟨w.heap.size, 9, none⟩ = some (.int .u8 k2) := fun dq osq => (HK.out.step (below_regrown wr dq osq)).r.c9
                have x10 : ∀ dq osq, (Sort.grow (redrawn wr dq) osq).cell? ⟨w.heap.size, 10, none⟩ = some (.int .i64 m2) := fun dq osq => (HK.out.step (below_regrown wr dq osq)).r.c10
                have x11 : ∀ dq osq, (Sort.grow (redrawn wr dq) osq).cell? ⟨w.heap.size, 11, none⟩ = some (.int .i64 e2) := fun dq osq => (HK.out.step (below_regrown wr dq osq)).r.c11
                have x12 : ∀ dq osq, (Sort.grow (redrawn wr dq) osq).cell? ⟨w.heap.size, 12, none⟩ = some (.int .i64 d2) := fun dq osq => (HK.out.step (below_regrown wr dq osq)).r.c12
                have x13 : ∀ dq osq, (Sort.grow (redrawn wr dq) osq).cell? ⟨w.heap.size, 13, none⟩ = some (.int .i64 t2) := fun dq osq => (HK.out.step (below_regrown wr dq osq)).r.c13
                refine wp_region_quiet_below (by kernel_rfl) (by kernel_rfl) ?_
                repeat (first | go_big_quiet_step (first | (go_at_call 20; with_reducible exact Calls.regrown_of (HS1.out _)) | (go_at_call 20; with_reducible exact Calls.regrown_of (HS2.out _))) | quiet_step (first | (go_at_call 20; with_reducible exact Calls.regrown_of (HS1.out _)) | (go_at_call 20; with_reducible exact Calls.regrown_of (HS2.out _))))
                refine wpQuiet_nil ?_
                intro V1 hV
                have K1 := Lib.hid (HK.out.step (below_class hV))
                clear hV x2 x3 x4 x5 x6 x7 x8 x9 x10 x11 x12 x13 HS1 HS2
                go_wp2
                go_round
                case rel => exact ⟨k + 1, B, true, by omega, by first | rfl | rw [wA] | rw [wB], by rw [HN.out.2], rfl, by go_num, .inl ⟨rfl, by rw [HN.out.1], by omega⟩, K1.out⟩
                case measure => simp only [intOf]; omega
              ·
                have s1 : stepA A t (a, b) = (A, true) := stepA_yes h1 h2
                have s2 : stepB B t (A, true) = (A, true) := by unfold stepB; rw [if_neg (fun h => h4 h.2)]
                have HN := Lib.hid (step_is ha hb hA hB (show stepB B t (stepA A t (a, b)) = (A, true) by rw [s1, s2]))
                clear s1 s2 ha hb hA hB
                go_wp2_with fail
                have x2 : ∀ dq osq, (Sort.grow (redrawn wr dq) osq).cell? ⟨w.heap.size, 2, none⟩ = some (.int .i64 off) := fun dq osq => (HK.out.step (below_regrown wr dq osq)).r.c2
                have x3 : ∀ dq osq, (Sort.grow (redrawn wr dq) osq).cell? ⟨w.heap.size, 3, none⟩ = some (.int .i64 dstOff) := fun dq osq => (HK.out.step (below_regrown wr dq osq)).r.c3
                have x4 : ∀ dq osq, (Sort.grow (redrawn wr dq) osq).cell? ⟨w.heap.size, 4, none⟩ = some (.int .u8 k1) := fun dq osq => (HK.out.step (below_regrown wr dq osq)).r.c4
                have x5 : ∀ dq osq, (Sort.grow (redrawn wr dq) osq).cell? ⟨w.heap.size, 5, none⟩ = some (.int .i64 m1) := fun dq osq => (HK.out.step (below_regrown wr dq osq)).r.c5
                have x6 : ∀ dq osq, (Sort.grow (redrawn wr dq) osq).cell? ⟨w.heap.size, 6, none⟩ = some (.int .i64 e1) := fun dq osq => (HK.out.step (below_regrown wr dq osq)).r.c6
                have x7 : ∀ dq osq, (Sort.grow (redrawn wr dq) osq).cell? ⟨w.heap.size, 7, none⟩ = some (.int .i64 d1) := fun dq osq => (HK.out.step (below_regrown wr dq osq)).r.c7
                have x8 : ∀ dq osq, (Sort.grow (redrawn wr dq) osq).cell? ⟨w.heap.size, 8, none⟩ = some (.int .i64 t1) := fun dq osq => (HK.out.step (below_regrown wr dq osq)).r.c8
                have x9 : ∀ dq osq, (Sort.grow (redrawn wr dq) osq).cell? ⟨w.heap.size, 9, none⟩ = some (.int .u8 k2) := fun dq osq => (HK.out.step (below_regrown wr dq osq)).r.c9
                have x10 : ∀ dq osq, (Sort.grow (redrawn wr dq) osq).cell? ⟨w.heap.size, 10, none⟩ = some (.int .i64 m2) := fun dq osq => (HK.out.step (below_regrown wr dq osq)).r.c10
                have x11 : ∀ dq osq, (Sort.grow (redrawn wr dq) osq).cell? ⟨w.heap.size, 11, none⟩ = some (.int .i64 e2) := fun dq osq => (HK.out.step (below_regrown wr dq osq)).r.c11
                have x12 : ∀ dq osq, (Sort.grow (redrawn wr dq) osq).cell? ⟨w.heap.size, 12, none⟩ = some (.int .i64 d2) := fun dq osq => (HK.out.step (below_regrown wr dq osq)).r.c12
                have x13 : ∀ dq osq, (Sort.grow (redrawn wr dq) osq).cell? ⟨w.heap.size, 13, none⟩ = some (.int .i64 t2) := fun dq osq => (HK.out.step (below_regrown wr dq osq)).r.c13
                refine wp_region_quiet_below (by kernel_rfl) (by kernel_rfl) ?_
                repeat (first | go_big_quiet_step (first | (go_at_call 20; with_reducible exact Calls.regrown_of (HS1.out _)) | (go_at_call 20; with_reducible exact Calls.regrown_of (HS2.out _))) | quiet_step (first | (go_at_call 20; with_reducible exact Calls.regrown_of (HS1.out _)) | (go_at_call 20; with_reducible exact Calls.regrown_of (HS2.out _))))
                refine wpQuiet_nil ?_
                intro V1 hV
                have K1 := Lib.hid (HK.out.step (below_class hV))
                clear hV x2 x3 x4 x5 x6 x7 x8 x9 x10 x11 x12 x13 HS1 HS2
                go_wp2
                go_round
                case rel => exact ⟨k + 1, A, true, by omega, by first | rfl | rw [wA] | rw [wB], by rw [HN.out.2], rfl, by go_num, .inl ⟨rfl, by rw [HN.out.1], by omega⟩, K1.out⟩
                case measure => simp only [intOf]; omega
            ·
              have s1 : stepA A t (a, b) = (A, true) := stepA_yes h1 h2
              have s2 : stepB B t (A, true) = (A, true) := stepB_no (by omega)
              have HN := Lib.hid (step_is ha hb hA hB (show stepB B t (stepA A t (a, b)) = (A, true) by rw [s1, s2]))
              clear s1 s2 ha hb hA hB
              go_wp2_with fail
              have x2 : ∀ dq osq, (Sort.grow (redrawn wr dq) osq).cell? ⟨w.heap.size, 2, none⟩ = some (.int .i64 off) := fun dq osq => (HK.out.step (below_regrown wr dq osq)).r.c2
              have x3 : ∀ dq osq, (Sort.grow (redrawn wr dq) osq).cell? ⟨w.heap.size, 3, none⟩ = some (.int .i64 dstOff) := fun dq osq => (HK.out.step (below_regrown wr dq osq)).r.c3
              have x4 : ∀ dq osq, (Sort.grow (redrawn wr dq) osq).cell? ⟨w.heap.size, 4, none⟩ = some (.int .u8 k1) := fun dq osq => (HK.out.step (below_regrown wr dq osq)).r.c4
              have x5 : ∀ dq osq, (Sort.grow (redrawn wr dq) osq).cell? ⟨w.heap.size, 5, none⟩ = some (.int .i64 m1) := fun dq osq => (HK.out.step (below_regrown wr dq osq)).r.c5
              have x6 : ∀ dq osq, (Sort.grow (redrawn wr dq) osq).cell? ⟨w.heap.size, 6, none⟩ = some (.int .i64 e1) := fun dq osq => (HK.out.step (below_regrown wr dq osq)).r.c6
              have x7 : ∀ dq osq, (Sort.grow (redrawn wr dq) osq).cell? ⟨w.heap.size, 7, none⟩ = some (.int .i64 d1) := fun dq osq => (HK.out.step (below_regrown wr dq osq)).r.c7
              have x8 : ∀ dq osq, (Sort.grow (redrawn wr dq) osq).cell? ⟨w.heap.size, 8, none⟩ = some (.int .i64 t1) := fun dq osq => (HK.out.step (below_regrown wr dq osq)).r.c8
              have x9 : ∀ dq osq, (Sort.grow (redrawn wr dq) osq).cell? ⟨w.heap.size, 9, none⟩ = some (.int .u8 k2) := fun dq osq => (HK.out.step (below_regrown wr dq osq)).r.c9
              have x10 : ∀ dq osq, (Sort.grow (redrawn wr dq) osq).cell? ⟨w.heap.size, 10, none⟩ = some (.int .i64 m2) := fun dq osq => (HK.out.step (below_regrown wr dq osq)).r.c10
              have x11 : ∀ dq osq, (Sort.grow (redrawn wr dq) osq).cell? ⟨w.heap.size, 11, none⟩ = some (.int .i64 e2) := fun dq osq => (HK.out.step (below_regrown wr dq osq)).r.c11
              have x12 : ∀ dq osq, (Sort.grow (redrawn wr dq) osq).cell? ⟨w.heap.size, 12, none⟩ = some (.int .i64 d2) := fun dq osq => (HK.out.step (below_regrown wr dq osq)).r.c12
              have x13 : ∀ dq osq, (Sort.grow (redrawn wr dq) osq).cell? ⟨w.heap.size, 13, none⟩ = some (.int .i64 t2) := fun dq osq => (HK.out.step (below_regrown wr dq osq)).r.c13
              refine wp_region_quiet_below (by kernel_rfl) (by kernel_rfl) ?_
              repeat (first | go_big_quiet_step (first | (go_at_call 20; with_reducible exact Calls.regrown_of (HS1.out _)) | (go_at_call 20; with_reducible exact Calls.regrown_of (HS2.out _))) | quiet_step (first | (go_at_call 20; with_reducible exact Calls.regrown_of (HS1.out _)) | (go_at_call 20; with_reducible exact Calls.regrown_of (HS2.out _))))
              refine wpQuiet_nil ?_
              intro V1 hV
              have K1 := Lib.hid (HK.out.step (below_class hV))
              clear hV x2 x3 x4 x5 x6 x7 x8 x9 x10 x11 x12 x13 HS1 HS2
              go_wp2
              go_round
              case rel => exact ⟨k + 1, A, true, by omega, by first | rfl | rw [wA] | rw [wB], by rw [HN.out.2], rfl, by go_num, .inl ⟨rfl, by rw [HN.out.1], by omega⟩, K1.out⟩
              case measure => simp only [intOf]; omega
          ·
            by_cases h3 : B ≤ t
            · by_cases h4 : a ≤ B
              ·
                have s1 : stepA A t (a, b) = (a, b) := by unfold stepA; rw [if_neg (fun h => h2 h.2)]
                have s2 : stepB B t (a, b) = (B, false) := stepB_yes h3 h4
                have HN := Lib.hid (step_is ha hb hA hB (show stepB B t (stepA A t (a, b)) = (B, false) by rw [s1, s2]))
                clear s1 s2 ha hb hA hB
                go_wp2_with fail
                have x2 : ∀ dq osq, (Sort.grow (redrawn wr dq) osq).cell? ⟨w.heap.size, 2, none⟩ = some (.int .i64 off) := fun dq osq => (HK.out.step (below_regrown wr dq osq)).r.c2
                have x3 : ∀ dq osq, (Sort.grow (redrawn wr dq) osq).cell? ⟨w.heap.size, 3, none⟩ = some (.int .i64 dstOff) := fun dq osq => (HK.out.step (below_regrown wr dq osq)).r.c3
                have x4 : ∀ dq osq, (Sort.grow (redrawn wr dq) osq).cell? ⟨w.heap.size, 4, none⟩ = some (.int .u8 k1) := fun dq osq => (HK.out.step (below_regrown wr dq osq)).r.c4
                have x5 : ∀ dq osq, (Sort.grow (redrawn wr dq) osq).cell? ⟨w.heap.size, 5, none⟩ = some (.int .i64 m1) := fun dq osq => (HK.out.step (below_regrown wr dq osq)).r.c5
                have x6 : ∀ dq osq, (Sort.grow (redrawn wr dq) osq).cell? ⟨w.heap.size, 6, none⟩ = some (.int .i64 e1) := fun dq osq => (HK.out.step (below_regrown wr dq osq)).r.c6
                have x7 : ∀ dq osq, (Sort.grow (redrawn wr dq) osq).cell? ⟨w.heap.size, 7, none⟩ = some (.int .i64 d1) := fun dq osq => (HK.out.step (below_regrown wr dq osq)).r.c7
                have x8 : ∀ dq osq, (Sort.grow (redrawn wr dq) osq).cell? ⟨w.heap.size, 8, none⟩ = some (.int .i64 t1) := fun dq osq => (HK.out.step (below_regrown wr dq osq)).r.c8
                have x9 : ∀ dq osq, (Sort.grow (redrawn wr dq) osq).cell? ⟨w.heap.size, 9, none⟩ = some (.int .u8 k2) := fun dq osq => (HK.out.step (below_regrown wr dq osq)).r.c9
                have x10 : ∀ dq osq, (Sort.grow (redrawn wr dq) osq).cell? ⟨w.heap.size, 10, none⟩ = some (.int .i64 m2) := fun dq osq => (HK.out.step (below_regrown wr dq osq)).r.c10
                have x11 : ∀ dq osq, (Sort.grow (redrawn wr dq) osq).cell? ⟨w.heap.size, 11, none⟩ = some (.int .i64 e2) := fun dq osq => (HK.out.step (below_regrown wr dq osq)).r.c11
                have x12 : ∀ dq osq, (Sort.grow (redrawn wr dq) osq).cell? ⟨w.heap.size, 12, none⟩ = some (.int .i64 d2) := fun dq osq => (HK.out.step (below_regrown wr dq osq)).r.c12
                have x13 : ∀ dq osq, (Sort.grow (redrawn wr dq) osq).cell? ⟨w.heap.size, 13, none⟩ = some (.int .i64 t2) := fun dq osq => (HK.out.step (below_regrown wr dq osq)).r.c13
                refine wp_region_quiet_below (by kernel_rfl) (by kernel_rfl) ?_
                repeat (first | go_big_quiet_step (first | (go_at_call 20; with_reducible exact Calls.regrown_of (HS1.out _)) | (go_at_call 20; with_reducible exact Calls.regrown_of (HS2.out _))) | quiet_step (first | (go_at_call 20; with_reducible exact Calls.regrown_of (HS1.out _)) | (go_at_call 20; with_reducible exact Calls.regrown_of (HS2.out _))))
                refine wpQuiet_nil ?_
                intro V1 hV
                have K1 := Lib.hid (HK.out.step (below_class hV))
                clear hV x2 x3 x4 x5 x6 x7 x8 x9 x10 x11 x12 x13 HS1 HS2
                go_wp2
                go_round
                case rel => exact ⟨k + 1, B, true, by omega, by first | rfl | rw [wA] | rw [wB], by rw [HN.out.2], rfl, by go_num, .inl ⟨rfl, by rw [HN.out.1], by omega⟩, K1.out⟩
                case measure => simp only [intOf]; omega
              ·
                have s1 : stepA A t (a, b) = (a, b) := by unfold stepA; rw [if_neg (fun h => h2 h.2)]
                have s2 : stepB B t (a, b) = (a, b) := by unfold stepB; rw [if_neg (fun h => h4 h.2)]
                have HN := Lib.hid (step_is ha hb hA hB (show stepB B t (stepA A t (a, b)) = (a, b) by rw [s1, s2]))
                clear s1 s2 ha hb hA hB
                go_wp2_with fail
                have x2 : ∀ dq osq, (Sort.grow (redrawn wr dq) osq).cell? ⟨w.heap.size, 2, none⟩ = some (.int .i64 off) := fun dq osq => (HK.out.step (below_regrown wr dq osq)).r.c2
                have x3 : ∀ dq osq, (Sort.grow (redrawn wr dq) osq).cell? ⟨w.heap.size, 3, none⟩ = some (.int .i64 dstOff) := fun dq osq => (HK.out.step (below_regrown wr dq osq)).r.c3
                have x4 : ∀ dq osq, (Sort.grow (redrawn wr dq) osq).cell? ⟨w.heap.size, 4, none⟩ = some (.int .u8 k1) := fun dq osq => (HK.out.step (below_regrown wr dq osq)).r.c4
                have x5 : ∀ dq osq, (Sort.grow (redrawn wr dq) osq).cell? ⟨w.heap.size, 5, none⟩ = some (.int .i64 m1) := fun dq osq => (HK.out.step (below_regrown wr dq osq)).r.c5
                have x6 : ∀ dq osq, (Sort.grow (redrawn wr dq) osq).cell? ⟨w.heap.size, 6, none⟩ = some (.int .i64 e1) := fun dq osq => (HK.out.step (below_regrown wr dq osq)).r.c6
                have x7 : ∀ dq osq, (Sort.grow (redrawn wr dq) osq).cell? ⟨w.heap.size, 7, none⟩ = some (.int .i64 d1) := fun dq osq => (HK.out.step (below_regrown wr dq osq)).r.c7
                have x8 : ∀ dq osq, (Sort.grow (redrawn wr dq) osq).cell? ⟨w.heap.size, 8, none⟩ = some (.int .i64 t1) := fun dq osq => (HK.out.step (below_regrown wr dq osq)).r.c8
                have x9 : ∀ dq osq, (Sort.grow (redrawn wr dq) osq).cell? ⟨w.heap.size, 9, none⟩ = some (.int .u8 k2) := fun dq osq => (HK.out.step (below_regrown wr dq osq)).r.c9
                have x10 : ∀ dq osq, (Sort.grow (redrawn wr dq) osq).cell? ⟨w.heap.size, 10, none⟩ = some (.int .i64 m2) := fun dq osq => (HK.out.step (below_regrown wr dq osq)).r.c10
                have x11 : ∀ dq osq, (Sort.grow (redrawn wr dq) osq).cell? ⟨w.heap.size, 11, none⟩ = some (.int .i64 e2) := fun dq osq => (HK.out.step (below_regrown wr dq osq)).r.c11
                have x12 : ∀ dq osq, (Sort.grow (redrawn wr dq) osq).cell? ⟨w.heap.size, 12, none⟩ = some (.int .i64 d2) := fun dq osq => (HK.out.step (below_regrown wr dq osq)).r.c12
                have x13 : ∀ dq osq, (Sort.grow (redrawn wr dq) osq).cell? ⟨w.heap.size, 13, none⟩ = some (.int .i64 t2) := fun dq osq => (HK.out.step (below_regrown wr dq osq)).r.c13
                refine wp_region_quiet_below (by kernel_rfl) (by kernel_rfl) ?_
                repeat (first | go_big_quiet_step (first | (go_at_call 20; with_reducible exact Calls.regrown_of (HS1.out _)) | (go_at_call 20; with_reducible exact Calls.regrown_of (HS2.out _))) | quiet_step (first | (go_at_call 20; with_reducible exact Calls.regrown_of (HS1.out _)) | (go_at_call 20; with_reducible exact Calls.regrown_of (HS2.out _))))
                refine wpQuiet_nil ?_
                intro V1 hV
                have K1 := Lib.hid (HK.out.step (below_class hV))
                clear hV x2 x3 x4 x5 x6 x7 x8 x9 x10 x11 x12 x13 HS1 HS2
                go_wp2
                go_round
                case rel => exact ⟨k + 1, a, true, by omega, by first | rfl | rw [wA] | rw [wB], by rw [HN.out.2], rfl, by go_num, .inl ⟨rfl, by rw [HN.out.1], by omega⟩, K1.out⟩
                case measure => simp only [intOf]; omega
            ·
              have s1 : stepA A t (a, b) = (a, b) := by unfold stepA; rw [if_neg (fun h => h2 h.2)]
              have s2 : stepB B t (a, b) = (a, b) := stepB_no (by omega)
              have HN := Lib.hid (step_is ha hb hA hB (show stepB B t (stepA A t (a, b)) = (a, b) by rw [s1, s2]))
              clear s1 s2 ha hb hA hB
              go_wp2_with fail
              have x2 : ∀ dq osq, (Sort.grow (redrawn wr dq) osq).cell? ⟨w.heap.size, 2, none⟩ = some (.int .i64 off) := fun dq osq => (HK.out.step (below_regrown wr dq osq)).r.c2
              have x3 : ∀ dq osq, (Sort.grow (redrawn wr dq) osq).cell? ⟨w.heap.size, 3, none⟩ = some (.int .i64 dstOff) := fun dq osq => (HK.out.step (below_regrown wr dq osq)).r.c3
              have x4 : ∀ dq osq, (Sort.grow (redrawn wr dq) osq).cell? ⟨w.heap.size, 4, none⟩ = some (.int .u8 k1) := fun dq osq => (HK.out.step (below_regrown wr dq osq)).r.c4
              have x5 : ∀ dq osq, (Sort.grow (redrawn wr dq) osq).cell? ⟨w.heap.size, 5, none⟩ = some (.int .i64 m1) := fun dq osq => (HK.out.step (below_regrown wr dq osq)).r.c5
              have x6 : ∀ dq osq, (Sort.grow (redrawn wr dq) osq).cell? ⟨w.heap.size, 6, none⟩ = some (.int .i64 e1) := fun dq osq => (HK.out.step (below_regrown wr dq osq)).r.c6
              have x7 : ∀ dq osq, (Sort.grow (redrawn wr dq) osq).cell? ⟨w.heap.size, 7, none⟩ = some (.int .i64 d1) := fun dq osq => (HK.out.step (below_regrown wr dq osq)).r.c7
              have x8 : ∀ dq osq, (Sort.grow (redrawn wr dq) osq).cell? ⟨w.heap.size, 8, none⟩ = some (.int .i64 t1) := fun dq osq => (HK.out.step (below_regrown wr dq osq)).r.c8
              have x9 : ∀ dq osq, (Sort.grow (redrawn wr dq) osq).cell? ⟨w.heap.size, 9, none⟩ = some (.int .u8 k2) := fun dq osq => (HK.out.step (below_regrown wr dq osq)).r.c9
              have x10 : ∀ dq osq, (Sort.grow (redrawn wr dq) osq).cell? ⟨w.heap.size, 10, none⟩ = some (.int .i64 m2) := fun dq osq => (HK.out.step (below_regrown wr dq osq)).r.c10
              have x11 : ∀ dq osq, (Sort.grow (redrawn wr dq) osq).cell? ⟨w.heap.size, 11, none⟩ = some (.int .i64 e2) := fun dq osq => (HK.out.step (below_regrown wr dq osq)).r.c11
              have x12 : ∀ dq osq, (Sort.grow (redrawn wr dq) osq).cell? ⟨w.heap.size, 12, none⟩ = some (.int .i64 d2) := fun dq osq => (HK.out.step (below_regrown wr dq osq)).r.c12
              have x13 : ∀ dq osq, (Sort.grow (redrawn wr dq) osq).cell? ⟨w.heap.size, 13, none⟩ = some (.int .i64 t2) := fun dq osq => (HK.out.step (below_regrown wr dq osq)).r.c13
              refine wp_region_quiet_below (by kernel_rfl) (by kernel_rfl) ?_
              repeat (first | go_big_quiet_step (first | (go_at_call 20; with_reducible exact Calls.regrown_of (HS1.out _)) | (go_at_call 20; with_reducible exact Calls.regrown_of (HS2.out _))) | quiet_step (first | (go_at_call 20; with_reducible exact Calls.regrown_of (HS1.out _)) | (go_at_call 20; with_reducible exact Calls.regrown_of (HS2.out _))))
              refine wpQuiet_nil ?_
              intro V1 hV
              have K1 := Lib.hid (HK.out.step (below_class hV))
              clear hV x2 x3 x4 x5 x6 x7 x8 x9 x10 x11 x12 x13 HS1 HS2
              go_wp2
              go_round
              case rel => exact ⟨k + 1, a, true, by omega, by first | rfl | rw [wA] | rw [wB], by rw [HN.out.2], rfl, by go_num, .inl ⟨rfl, by rw [HN.out.1], by omega⟩, K1.out⟩
              case measure => simp only [intOf]; omega
        ·
          by_cases h3 : B ≤ t
          · by_cases h4 : a ≤ B
            ·
              have s1 : stepA A t (a, b) = (a, b) := stepA_no (by omega)
              have s2 : stepB B t (a, b) = (B, false) := stepB_yes h3 h4
              have HN := Lib.hid (step_is ha hb hA hB (show stepB B t (stepA A t (a, b)) = (B, false) by rw [s1, s2]))
              clear s1 s2 ha hb hA hB
              go_wp2_with fail
              have x2 : ∀ dq osq, (Sort.grow (redrawn wr dq) osq).cell? ⟨w.heap.size, 2, none⟩ = some (.int .i64 off) := fun dq osq => (HK.out.step (below_regrown wr dq osq)).r.c2
              have x3 : ∀ dq osq, (Sort.grow (redrawn wr dq) osq).cell? ⟨w.heap.size, 3, none⟩ = some (.int .i64 dstOff) := fun dq osq => (HK.out.step (below_regrown wr dq osq)).r.c3
              have x4 : ∀ dq osq, (Sort.grow (redrawn wr dq) osq).cell? ⟨w.heap.size, 4, none⟩ = some (.int .u8 k1) := fun dq osq => (HK.out.step (below_regrown wr dq osq)).r.c4
              have x5 : ∀ dq osq, (Sort.grow (redrawn wr dq) osq).cell? ⟨w.heap.size, 5, none⟩ = some (.int .i64 m1) := fun dq osq => (HK.out.step (below_regrown wr dq osq)).r.c5
              have x6 : ∀ dq osq, (Sort.grow (redrawn wr dq) osq).cell? ⟨w.heap.size, 6, none⟩ = some (.int .i64 e1) := fun dq osq => (HK.out.step (below_regrown wr dq osq)).r.c6
              have x7 : ∀ dq osq, (Sort.grow (redrawn wr dq) osq).cell? ⟨w.heap.size, 7, none⟩ = some (.int .i64 d1) := fun dq osq => (HK.out.step (below_regrown wr dq osq)).r.c7
              have x8 : ∀ dq osq, (Sort.grow (redrawn wr dq) osq).cell? ⟨w.heap.size, 8, none⟩ = some (.int .i64 t1) := fun dq osq => (HK.out.step (below_regrown wr dq osq)).r.c8
              have x9 : ∀ dq osq, (Sort.grow (redrawn wr dq) osq).cell? ⟨w.heap.size, 9, none⟩ = some (.int .u8 k2) := fun dq osq => (HK.out.step (below_regrown wr dq osq)).r.c9
              have x10 : ∀ dq osq, (Sort.grow (redrawn wr dq) osq).cell? ⟨w.heap.size, 10, none⟩ = some (.int .i64 m2) := fun dq osq => (HK.out.step (below_regrown wr dq osq)).r.c10
              have x11 : ∀ dq osq, (Sort.grow (redrawn wr dq) osq).cell? ⟨w.heap.size, 11, none⟩ = some (.int .i64 e2) := fun dq osq => (HK.out.step (below_regrown wr dq osq)).r.c11
              have x12 : ∀ dq osq, (Sort.grow (redrawn wr dq) osq).cell? ⟨w.heap.size, 12, none⟩ = some (.int .i64 d2) := fun dq osq => (HK.out.step (below_regrown wr dq osq)).r.c12
              have x13 : ∀ dq osq, (Sort.grow (redrawn wr dq) osq).cell? ⟨w.heap.size, 13, none⟩ = some (.int .i64 t2) := fun dq osq => (HK.out.step (below_regrown wr dq osq)).r.c13
              refine wp_region_quiet_below (by kernel_rfl) (by kernel_rfl) ?_
              repeat (first | go_big_quiet_step (first | (go_at_call 20; with_reducible exact Calls.regrown_of (HS1.out _)) | (go_at_call 20; with_reducible exact Calls.regrown_of (HS2.out _))) | quiet_step (first | (go_at_call 20; with_reducible exact Calls.regrown_of (HS1.out _)) | (go_at_call 20; with_reducible exact Calls.regrown_of (HS2.out _))))
              refine wpQuiet_nil ?_
              intro V1 hV
              have K1 := Lib.hid (HK.out.step (below_class hV))
              clear hV x2 x3 x4 x5 x6 x7 x8 x9 x10 x11 x12 x13 HS1 HS2
              go_wp2
              go_round
              case rel => exact ⟨k + 1, B, true, by omega, by first | rfl | rw [wA] | rw [wB], by rw [HN.out.2], rfl, by go_num, .inl ⟨rfl, by rw [HN.out.1], by omega⟩, K1.out⟩
              case measure => simp only [intOf]; omega
            ·
              have s1 : stepA A t (a, b) = (a, b) := stepA_no (by omega)
              have s2 : stepB B t (a, b) = (a, b) := by unfold stepB; rw [if_neg (fun h => h4 h.2)]
              have HN := Lib.hid (step_is ha hb hA hB (show stepB B t (stepA A t (a, b)) = (a, b) by rw [s1, s2]))
              clear s1 s2 ha hb hA hB
              go_wp2_with fail
              have x2 : ∀ dq osq, (Sort.grow (redrawn wr dq) osq).cell? ⟨w.heap.size, 2, none⟩ = some (.int .i64 off) := fun dq osq => (HK.out.step (below_regrown wr dq osq)).r.c2
              have x3 : ∀ dq osq, (Sort.grow (redrawn wr dq) osq).cell? ⟨w.heap.size, 3, none⟩ = some (.int .i64 dstOff) := fun dq osq => (HK.out.step (below_regrown wr dq osq)).r.c3
              have x4 : ∀ dq osq, (Sort.grow (redrawn wr dq) osq).cell? ⟨w.heap.size, 4, none⟩ = some (.int .u8 k1) := fun dq osq => (HK.out.step (below_regrown wr dq osq)).r.c4
              have x5 : ∀ dq osq, (Sort.grow (redrawn wr dq) osq).cell? ⟨w.heap.size, 5, none⟩ = some (.int .i64 m1) := fun dq osq => (HK.out.step (below_regrown wr dq osq)).r.c5
              have x6 : ∀ dq osq, (Sort.grow (redrawn wr dq) osq).cell? ⟨w.heap.size, 6, none⟩ = some (.int .i64 e1) := fun dq osq => (HK.out.step (below_regrown wr dq osq)).r.c6
              have x7 : ∀ dq osq, (Sort.grow (redrawn wr dq) osq).cell? ⟨w.heap.size, 7, none⟩ = some (.int .i64 d1) := fun dq osq => (HK.out.step (below_regrown wr dq osq)).r.c7
              have x8 : ∀ dq osq, (Sort.grow (redrawn wr dq) osq).cell? ⟨w.heap.size, 8, none⟩ = some (.int .i64 t1) := fun dq osq => (HK.out.step (below_regrown wr dq osq)).r.c8
              have x9 : ∀ dq osq, (Sort.grow (redrawn wr dq) osq).cell? ⟨w.heap.size, 9, none⟩ = some (.int .u8 k2) := fun dq osq => (HK.out.step (below_regrown wr dq osq)).r.c9
              have x10 : ∀ dq osq, (Sort.grow (redrawn wr dq) osq).cell? ⟨w.heap.size, 10, none⟩ = some (.int .i64 m2) := fun dq osq => (HK.out.step (below_regrown wr dq osq)).r.c10
              have x11 : ∀ dq osq, (Sort.grow (redrawn wr dq) osq).cell? ⟨w.heap.size, 11, none⟩ = some (.int .i64 e2) := fun dq osq => (HK.out.step (below_regrown wr dq osq)).r.c11
              have x12 : ∀ dq osq, (Sort.grow (redrawn wr dq) osq).cell? ⟨w.heap.size, 12, none⟩ = some (.int .i64 d2) := fun dq osq => (HK.out.step (below_regrown wr dq osq)).r.c12
              have x13 : ∀ dq osq, (Sort.grow (redrawn wr dq) osq).cell? ⟨w.heap.size, 13, none⟩ = some (.int .i64 t2) := fun dq osq => (HK.out.step (below_regrown wr dq osq)).r.c13
              refine wp_region_quiet_below (by kernel_rfl) (by kernel_rfl) ?_
              repeat (first | go_big_quiet_step (first | (go_at_call 20; with_reducible exact Calls.regrown_of (HS1.out _)) | (go_at_call 20; with_reducible exact Calls.regrown_of (HS2.out _))) | quiet_step (first | (go_at_call 20; with_reducible exact Calls.regrown_of (HS1.out _)) | (go_at_call 20; with_reducible exact Calls.regrown_of (HS2.out _))))
              refine wpQuiet_nil ?_
              intro V1 hV
              have K1 := Lib.hid (HK.out.step (below_class hV))
              clear hV x2 x3 x4 x5 x6 x7 x8 x9 x10 x11 x12 x13 HS1 HS2
              go_wp2
              go_round
              case rel => exact ⟨k + 1, a, true, by omega, by first | rfl | rw [wA] | rw [wB], by rw [HN.out.2], rfl, by go_num, .inl ⟨rfl, by rw [HN.out.1], by omega⟩, K1.out⟩
              case measure => simp only [intOf]; omega
          ·
            have s1 : stepA A t (a, b) = (a, b) := stepA_no (by omega)
            have s2 : stepB B t (a, b) = (a, b) := stepB_no (by omega)
            have HN := Lib.hid (step_is ha hb hA hB (show stepB B t (stepA A t (a, b)) = (a, b) by rw [s1, s2]))
            clear s1 s2 ha hb hA hB
            go_wp2_with fail
            have x2 : ∀ dq osq, (Sort.grow (redrawn wr dq) osq).cell? ⟨w.heap.size, 2, none⟩ = some (.int .i64 off) := fun dq osq => (HK.out.step (below_regrown wr dq osq)).r.c2
            have x3 : ∀ dq osq, (Sort.grow (redrawn wr dq) osq).cell? ⟨w.heap.size, 3, none⟩ = some (.int .i64 dstOff) := fun dq osq => (HK.out.step (below_regrown wr dq osq)).r.c3
            have x4 : ∀ dq osq, (Sort.grow (redrawn wr dq) osq).cell? ⟨w.heap.size, 4, none⟩ = some (.int .u8 k1) := fun dq osq => (HK.out.step (below_regrown wr dq osq)).r.c4
            have x5 : ∀ dq osq, (Sort.grow (redrawn wr dq) osq).cell? ⟨w.heap.size, 5, none⟩ = some (.int .i64 m1) := fun dq osq => (HK.out.step (below_regrown wr dq osq)).r.c5
            have x6 : ∀ dq osq, (Sort.grow (redrawn wr dq) osq).cell? ⟨w.heap.size, 6, none⟩ = some (.int .i64 e1) := fun dq osq => (HK.out.step (below_regrown wr dq osq)).r.c6
            have x7 : ∀ dq osq, (Sort.grow (redrawn wr dq) osq).cell? ⟨w.heap.size, 7, none⟩ = some (.int .i64 d1) := fun dq osq => (HK.out.step (below_regrown wr dq osq)).r.c7
            have x8 : ∀ dq osq, (Sort.grow (redrawn wr dq) osq).cell? ⟨w.heap.size, 8, none⟩ = some (.int .i64 t1) := fun dq osq => (HK.out.step (below_regrown wr dq osq)).r.c8
            have x9 : ∀ dq osq, (Sort.grow (redrawn wr dq) osq).cell? ⟨w.heap.size, 9, none⟩ = some (.int .u8 k2) := fun dq osq => (HK.out.step (below_regrown wr dq osq)).r.c9
            have x10 : ∀ dq osq, (Sort.grow (redrawn wr dq) osq).cell? ⟨w.heap.size, 10, none⟩ = some (.int .i64 m2) := fun dq osq => (HK.out.step (below_regrown wr dq osq)).r.c10
            have x11 : ∀ dq osq, (Sort.grow (redrawn wr dq) osq).cell? ⟨w.heap.size, 11, none⟩ = some (.int .i64 e2) := fun dq osq => (HK.out.step (below_regrown wr dq osq)).r.c11
            have x12 : ∀ dq osq, (Sort.grow (redrawn wr dq) osq).cell? ⟨w.heap.size, 12, none⟩ = some (.int .i64 d2) := fun dq osq => (HK.out.step (below_regrown wr dq osq)).r.c12
            have x13 : ∀ dq osq, (Sort.grow (redrawn wr dq) osq).cell? ⟨w.heap.size, 13, none⟩ = some (.int .i64 t2) := fun dq osq => (HK.out.step (below_regrown wr dq osq)).r.c13
            refine wp_region_quiet_below (by kernel_rfl) (by kernel_rfl) ?_
            repeat (first | go_big_quiet_step (first | (go_at_call 20; with_reducible exact Calls.regrown_of (HS1.out _)) | (go_at_call 20; with_reducible exact Calls.regrown_of (HS2.out _))) | quiet_step (first | (go_at_call 20; with_reducible exact Calls.regrown_of (HS1.out _)) | (go_at_call 20; with_reducible exact Calls.regrown_of (HS2.out _))))
            refine wpQuiet_nil ?_
            intro V1 hV
            have K1 := Lib.hid (HK.out.step (below_class hV))
            clear hV x2 x3 x4 x5 x6 x7 x8 x9 x10 x11 x12 x13 HS1 HS2
            go_wp2
            go_round
            case rel => exact ⟨k + 1, a, true, by omega, by first | rfl | rw [wA] | rw [wB], by rw [HN.out.2], rfl, by go_num, .inl ⟨rfl, by rw [HN.out.1], by omega⟩, K1.out⟩
            case measure => simp only [intOf]; omega
      · have ha : (sumS (begF r) (endF r) t y k).1 = -9223372036854775808 := by rw [hL]
        have hb : (sumS (begF r) (endF r) t y k).2 = false := by rw [hL]
        rw [hb]
        clear hL g1 g2
        obtain ⟨std, dst, off, dstOff, ⟨k1, m1, e1, d1, t1⟩, ⟨k2, m2, e2, d2, t2⟩⟩ := r
        simp only at *
        by_cases h1 : A ≤ t
        ·
          by_cases h3 : B ≤ t
          · by_cases h4 : A ≤ B
            ·
              have s1 : stepA A t ((-9223372036854775808), false) = (A, true) := stepA_yes h1 (show (-9223372036854775808 : Int) < A by omega)
              have s2 : stepB B t (A, true) = (B, false) := stepB_yes h3 h4
              have HN := Lib.hid (step_is ha hb hA hB (show stepB B t (stepA A t ((-9223372036854775808), false)) = (B, false) by rw [s1, s2]))
              clear s1 s2 ha hb hA hB
              go_wp2_with fail
              have x2 : ∀ dq osq, (Sort.grow (redrawn wr dq) osq).cell? ⟨w.heap.size, 2, none⟩ = some (.int .i64 off) := fun dq osq => (HK.out.step (below_regrown wr dq osq)).r.c2
              have x3 : ∀ dq osq, (Sort.grow (redrawn wr dq) osq).cell? ⟨w.heap.size, 3, none⟩ = some (.int .i64 dstOff) := fun dq osq => (HK.out.step (below_regrown wr dq osq)).r.c3
              have x4 : ∀ dq osq, (Sort.grow (redrawn wr dq) osq).cell? ⟨w.heap.size, 4, none⟩ = some (.int .u8 k1) := fun dq osq => (HK.out.step (below_regrown wr dq osq)).r.c4
              have x5 : ∀ dq osq, (Sort.grow (redrawn wr dq) osq).cell? ⟨w.heap.size, 5, none⟩ = some (.int .i64 m1) := fun dq osq => (HK.out.step (below_regrown wr dq osq)).r.c5
              have x6 : ∀ dq osq, (Sort.grow (redrawn wr dq) osq).cell? ⟨w.heap.size, 6, none⟩ = some (.int .i64 e1) := fun dq osq => (HK.out.step (below_regrown wr dq osq)).r.c6
              have x7 : ∀ dq osq, (Sort.grow (redrawn wr dq) osq).cell? ⟨w.heap.size, 7, none⟩ = some (.int .i64 d1) := fun dq osq => (HK.out.step (below_regrown wr dq osq)).r.c7
              have x8 : ∀ dq osq, (Sort.grow (redrawn wr dq) osq).cell? ⟨w.heap.size, 8, none⟩ = some (.int .i64 t1) := fun dq osq => (HK.out.step (below_regrown wr dq osq)).r.c8
              have x9 : ∀ dq osq, (Sort.grow (redrawn wr dq) osq).cell? ⟨w.heap.size, 9, none⟩ = some (.int .u8 k2) := fun dq osq => (HK.out.step (below_regrown wr dq osq)).r.c9
              have x10 : ∀ dq osq, (Sort.grow (redrawn wr dq) osq).cell? ⟨w.heap.size, 10, none⟩ = some (.int .i64 m2) := fun dq osq => (HK.out.step (below_regrown wr dq osq)).r.c10
              have x11 : ∀ dq osq, (Sort.grow (redrawn wr dq) osq).cell? ⟨w.heap.size, 11, none⟩ = some (.int .i64 e2) := fun dq osq => (HK.out.step (below_regrown wr dq osq)).r.c11
              have x12 : ∀ dq osq, (Sort.grow (redrawn wr dq) osq).cell? ⟨w.heap.size, 12, none⟩ = some (.int .i64 d2) := fun dq osq => (HK.out.step (below_regrown wr dq osq)).r.c12
              have x13 : ∀ dq osq, (Sort.grow (redrawn wr dq) osq).cell? ⟨w.heap.size, 13, none⟩ = some (.int .i64 t2) := fun dq osq => (HK.out.step (below_regrown wr dq osq)).r.c13
              refine wp_region_quiet_below (by kernel_rfl) (by kernel_rfl) ?_
              repeat (first | go_big_quiet_step (first | (go_at_call 20; with_reducible exact Calls.regrown_of (HS1.out _)) | (go_at_call 20; with_reducible exact Calls.regrown_of (HS2.out _))) | quiet_step (first | (go_at_call 20; with_reducible exact Calls.regrown_of (HS1.out _)) | (go_at_call 20; with_reducible exact Calls.regrown_of (HS2.out _))))
              refine wpQuiet_nil ?_
              intro V1 hV
              have K1 := Lib.hid (HK.out.step (below_class hV))
              clear hV x2 x3 x4 x5 x6 x7 x8 x9 x10 x11 x12 x13 HS1 HS2
              go_wp2
              go_round
              case rel => exact ⟨k + 1, B, true, by omega, by first | rfl | rw [wA] | rw [wB], by rw [HN.out.2], rfl, by go_num, .inl ⟨rfl, by rw [HN.out.1], by omega⟩, K1.out⟩
              case measure => simp only [intOf]; omega
            ·
              have s1 : stepA A t ((-9223372036854775808), false) = (A, true) := stepA_yes h1 (show (-9223372036854775808 : Int) < A by omega)
              have s2 : stepB B t (A, true) = (A, true) := by unfold stepB; rw [if_neg (fun h => h4 h.2)]
              have HN := Lib.hid (step_is ha hb hA hB (show stepB B t (stepA A t ((-9223372036854775808), false)) = (A, true) by rw [s1, s2]))
              clear s1 s2 ha hb hA hB
              go_wp2_with fail
              have x2 : ∀ dq osq, (Sort.grow (redrawn wr dq) osq).cell? ⟨w.heap.size, 2, none⟩ = some (.int .i64 off) := fun dq osq => (HK.out.step (below_regrown wr dq osq)).r.c2
              have x3 : ∀ dq osq, (Sort.grow (redrawn wr dq) osq).cell? ⟨w.heap.size, 3, none⟩ = some (.int .i64 dstOff) := fun dq osq => (HK.out.step (below_regrown wr dq osq)).r.c3
              have x4 : ∀ dq osq, (Sort.grow (redrawn wr dq) osq).cell? ⟨w.heap.size, 4, none⟩ = some (.int .u8 k1) := fun dq osq => (HK.out.step (below_regrown wr dq osq)).r.c4
              have x5 : ∀ dq osq, (Sort.grow (redrawn wr dq) osq).cell? ⟨w.heap.size, 5, none⟩ = some (.int .i64 m1) := fun dq osq => (HK.out.step (below_regrown wr dq osq)).r.c5
              have x6 : ∀ dq osq, (Sort.grow (redrawn wr dq) osq).cell? ⟨w.heap.size, 6, none⟩ = some (.int .i64 e1) := fun dq osq => (HK.out.step (below_regrown wr dq osq)).r.c6
              have x7 : ∀ dq osq, (Sort.grow (redrawn wr dq) osq).cell? ⟨w.heap.size, 7, none⟩ = some (.int .i64 d1) := fun dq osq => (HK.out.step (below_regrown wr dq osq)).r.c7
              have x8 : ∀ dq osq, (Sort.grow (redrawn wr dq) osq).cell? ⟨w.heap.size, 8, none⟩ = some (.int .i64 t1) := fun dq osq => (HK.out.step (below_regrown wr dq osq)).r.c8
              have x9 : ∀ dq osq, (Sort.grow (redrawn wr dq) osq).cell? ⟨w.heap.size, 9, none⟩ = some (.int .u8 k2) := fun dq osq => (HK.out.step (below_regrown wr dq osq)).r.c9
              have x10 : ∀ dq osq, (Sort.grow (redrawn wr dq) osq).cell? ⟨w.heap.size, 10, none⟩ = some (.int .i64 m2) := fun dq osq => (HK.out.step (below_regrown wr dq osq)).r.c10
              have x11 : ∀ dq osq, (Sort.grow (redrawn wr dq) osq).cell? ⟨w.heap.size, 11, none⟩ = some (.int .i64 e2) := fun dq osq => (HK.out.step (below_regrown wr dq osq)).r.c11
              have x12 : ∀ dq osq, (Sort.grow (redrawn wr dq) osq).cell? ⟨w.heap.size, 12, none⟩ = some (.int .i64 d2) := fun dq osq => (HK.out.step (below_regrown wr dq osq)).r.c12
              have x13 : ∀ dq osq, (Sort.grow (redrawn wr dq) osq).cell? ⟨w.heap.size, 13, none⟩ = some (.int .i64 t2) := fun dq osq => (HK.out.step (below_regrown wr dq osq)).r.c13
              refine wp_region_quiet_below (by kernel_rfl) (by kernel_rfl) ?_
              repeat (first | go_big_quiet_step (first | (go_at_call 20; with_reducible exact Calls.regrown_of (HS1.out _)) | (go_at_call 20; with_reducible exact Calls.regrown_of (HS2.out _))) | quiet_step (first | (go_at_call 20; with_reducible exact Calls.regrown_of (HS1.out _)) | (go_at_call 20; with_reducible exact Calls.regrown_of (HS2.out _))))
              refine wpQuiet_nil ?_
              intro V1 hV
              have K1 := Lib.hid (HK.out.step (below_class hV))
              clear hV x2 x3 x4 x5 x6 x7 x8 x9 x10 x11 x12 x13 HS1 HS2
              go_wp2
              go_round
              case rel => exact ⟨k + 1, A, true, by omega, by first | rfl | rw [wA] | rw [wB], by rw [HN.out.2], rfl, by go_num, .inl ⟨rfl, by rw [HN.out.1], by omega⟩, K1.out⟩
              case measure => simp only [intOf]; omega
          ·
            have s1 : stepA A t ((-9223372036854775808), false) = (A, true) := stepA_yes h1 (show (-9223372036854775808 : Int) < A by omega)
            have s2 : stepB B t (A, true) = (A, true) := stepB_no (by omega)
            have HN := Lib.hid (step_is ha hb hA hB (show stepB B t (stepA A t ((-9223372036854775808), false)) = (A, true) by rw [s1, s2]))
            clear s1 s2 ha hb hA hB
            go_wp2_with fail
            have x2 : ∀ dq osq, (Sort.grow (redrawn wr dq) osq).cell? ⟨w.heap.size, 2, none⟩ = some (.int .i64 off) := fun dq osq => (HK.out.step (below_regrown wr dq osq)).r.c2
            have x3 : ∀ dq osq, (Sort.grow (redrawn wr dq) osq).cell? ⟨w.heap.size, 3, none⟩ = some (.int .i64 dstOff) := fun dq osq => (HK.out.step (below_regrown wr dq osq)).r.c3
            have x4 : ∀ dq osq, (Sort.grow (redrawn wr dq) osq).cell? ⟨w.heap.size, 4, none⟩ = some (.int .u8 k1) := fun dq osq => (HK.out.step (below_regrown wr dq osq)).r.c4
            have x5 : ∀ dq osq, (Sort.grow (redrawn wr dq) osq).cell? ⟨w.heap.size, 5, none⟩ = some (.int .i64 m1) := fun dq osq => (HK.out.step (below_regrown wr dq osq)).r.c5
            have x6 : ∀ dq osq, (Sort.grow (redrawn wr dq) osq).cell? ⟨w.heap.size, 6, none⟩ = some (.int .i64 e1) := fun dq osq => (HK.out.step (below_regrown wr dq osq)).r.c6
            have x7 : ∀ dq osq, (Sort.grow (redrawn wr dq) osq).cell? ⟨w.heap.size, 7, none⟩ = some (.int .i64 d1) := fun dq osq => (HK.out.step (below_regrown wr dq osq)).r.c7
            have x8 : ∀ dq osq, (Sort.grow (redrawn wr dq) osq).cell? ⟨w.heap.size, 8, none⟩ = some (.int .i64 t1) := fun dq osq => (HK.out.step (below_regrown wr dq osq)).r.c8
            have x9 : ∀ dq osq, (Sort.grow (redrawn wr dq) osq).cell? ⟨w.heap.size, 9, none⟩ = some (.int .u8 k2) := fun dq osq => (HK.out.step (below_regrown wr dq osq)).r.c9
            have x10 : ∀ dq osq, (Sort.grow (redrawn wr dq) osq).cell? ⟨w.heap.size, 10, none⟩ = some (.int .i64 m2) := fun dq osq => (HK.out.step (below_regrown wr dq osq)).r.c10
            have x11 : ∀ dq osq, (Sort.grow (redrawn wr dq) osq).cell? ⟨w.heap.size, 11, none⟩ = some (.int .i64 e2) := fun dq osq => (HK.out.step (below_regrown wr dq osq)).r.c11
            have x12 : ∀ dq osq, (Sort.grow (redrawn wr dq) osq).cell? ⟨w.heap.size, 12, none⟩ = some (.int .i64 d2) := fun dq osq => (HK.out.step (below_regrown wr dq osq)).r.c12
            have x13 : ∀ dq osq, (Sort.grow (redrawn wr dq) osq).cell? ⟨w.heap.size, 13, none⟩ = some (.int .i64 t2) := fun dq osq => (HK.out.step (below_regrown wr dq osq)).r.c13
            refine wp_region_quiet_below (by kernel_rfl) (by kernel_rfl) ?_
            repeat (first | go_big_quiet_step (first | (go_at_call 20; with_reducible exact Calls.regrown_of (HS1.out _)) | (go_at_call 20; with_reducible exact Calls.regrown_of (HS2.out _))) | quiet_step (first | (go_at_call 20; with_reducible exact Calls.regrown_of (HS1.out _)) | (go_at_call 20; with_reducible exact Calls.regrown_of (HS2.out _))))
            refine wpQuiet_nil ?_
            intro V1 hV
            have K1 := Lib.hid (HK.out.step (below_class hV))
            clear hV x2 x3 x4 x5 x6 x7 x8 x9 x10 x11 x12 x13 HS1 HS2
            go_wp2
            go_round
            case rel => exact ⟨k + 1, A, true, by omega, by first | rfl | rw [wA] | rw [wB], by rw [HN.out.2], rfl, by go_num, .inl ⟨rfl, by rw [HN.out.1], by omega⟩, K1.out⟩
            case measure => simp only [intOf]; omega
        ·
          by_cases h3 : B ≤ t
          ·
            have s1 : stepA A t ((-9223372036854775808), false) = ((-9223372036854775808), false) := stepA_no (by omega)
            have s2 : stepB B t ((-9223372036854775808), false) = (B, false) := stepB_yes h3 (show (-9223372036854775808 : Int) ≤ B by omega)
            have HN := Lib.hid (step_is ha hb hA hB (show stepB B t (stepA A t ((-9223372036854775808), false)) = (B, false) by rw [s1, s2]))
            clear s1 s2 ha hb hA hB
            go_wp2_with fail
            have x2 : ∀ dq osq, (Sort.grow (redrawn wr dq) osq).cell? ⟨w.heap.size, 2, none⟩ = some (.int .i64 off) := fun dq osq => (HK.out.step (below_regrown wr dq osq)).r.c2
            have x3 : ∀ dq osq, (Sort.grow (redrawn wr dq) osq).cell? ⟨w.heap.size, 3, none⟩ = some (.int .i64 dstOff) := fun dq osq => (HK.out.step (below_regrown wr dq osq)).r.c3
            have x4 : ∀ dq osq, (Sort.grow (redrawn wr dq) osq).cell? ⟨w.heap.size, 4, none⟩ = some (.int .u8 k1) := fun dq osq => (HK.out.step (below_regrown wr dq osq)).r.c4
            have x5 : ∀ dq osq, (Sort.grow (redrawn wr dq) osq).cell? ⟨w.heap.size, 5, none⟩ = some (.int .i64 m1) := fun dq osq => (HK.out.step (below_regrown wr dq osq)).r.c5
            have x6 : ∀ dq osq, (Sort.grow (redrawn wr dq) osq).cell? ⟨w.heap.size, 6, none⟩ = some (.int .i64 e1) := fun dq osq => (HK.out.step (below_regrown wr dq osq)).r.c6
            have x7 : ∀ dq osq, (Sort.grow (redrawn wr dq) osq).cell? ⟨w.heap.size, 7, none⟩ = some (.int .i64 d1) := fun dq osq => (HK.out.step (below_regrown wr dq osq)).r.c7
            have x8 : ∀ dq osq, (Sort.grow (redrawn wr dq) osq).cell? ⟨w.heap.size, 8, none⟩ = some (.int .i64 t1) := fun dq osq => (HK.out.step (below_regrown wr dq osq)).r.c8
            have x9 : ∀ dq osq, (Sort.grow (redrawn wr dq) osq).cell? ⟨w.heap.size, 9, none⟩ = some (.int .u8 k2) := fun dq osq => (HK.out.step (below_regrown wr dq osq)).r.c9
            have x10 : ∀ dq osq, (Sort.grow (redrawn wr dq) osq).cell? ⟨w.heap.size, 10, none⟩ = some (.int .i64 m2) := fun dq osq => (HK.out.step (below_regrown wr dq osq)).r.c10
            have x11 : ∀ dq osq, (Sort.grow (redrawn wr dq) osq).cell? ⟨w.heap.size, 11, none⟩ = some (.int .i64 e2) := fun dq osq => (HK.out.step (below_regrown wr dq osq)).r.c11
            have x12 : ∀ dq osq, (Sort.grow (redrawn wr dq) osq).cell? ⟨w.heap.size, 12, none⟩ = some (.int .i64 d2) := fun dq osq => (HK.out.step (below_regrown wr dq osq)).r.c12
            have x13 : ∀ dq osq, (Sort.grow (redrawn wr dq) osq).cell? ⟨w.heap.size, 13, none⟩ = some (.int .i64 t2) := fun dq osq => (HK.out.step (below_regrown wr dq osq)).r.c13
            refine wp_region_quiet_below (by kernel_rfl) (by kernel_rfl) ?_
            repeat (first | go_big_quiet_step (first | (go_at_call 20; with_reducible exact Calls.regrown_of (HS1.out _)) | (go_at_call 20; with_reducible exact Calls.regrown_of (HS2.out _))) | quiet_step (first | (go_at_call 20; with_reducible exact Calls.regrown_of (HS1.out _)) | (go_at_call 20; with_reducible exact Calls.regrown_of (HS2.out _))))
            refine wpQuiet_nil ?_
            intro V1 hV
            have K1 := Lib.hid (HK.out.step (below_class hV))
            clear hV x2 x3 x4 x5 x6 x7 x8 x9 x10 x11 x12 x13 HS1 HS2
            go_wp2
            go_round
            case rel => exact ⟨k + 1, B, true, by omega, by first | rfl | rw [wA] | rw [wB], by rw [HN.out.2], rfl, by go_num, .inl ⟨rfl, by rw [HN.out.1], by omega⟩, K1.out⟩
            case measure => simp only [intOf]; omega
          ·
            have s1 : stepA A t ((-9223372036854775808), false) = ((-9223372036854775808), false) := stepA_no (by omega)
            have s2 : stepB B t ((-9223372036854775808), false) = ((-9223372036854775808), false) := stepB_no (by omega)
            have HN := Lib.hid (step_is ha hb hA hB (show stepB B t (stepA A t ((-9223372036854775808), false)) = ((-9223372036854775808), false) by rw [s1, s2]))
            clear s1 s2 ha hb hA hB
            go_wp2_with fail
            have x2 : ∀ dq osq, (Sort.grow (redrawn wr dq) osq).cell? ⟨w.heap.size, 2, none⟩ = some (.int .i64 off) := fun dq osq => (HK.out.step (below_regrown wr dq osq)).r.c2
            have x3 : ∀ dq osq, (Sort.grow (redrawn wr dq) osq).cell? ⟨w.heap.size, 3, none⟩ = some (.int .i64 dstOff) := fun dq osq => (HK.out.step (below_regrown wr dq osq)).r.c3
            have x4 : ∀ dq osq, (Sort.grow (redrawn wr dq) osq).cell? ⟨w.heap.size, 4, none⟩ = some (.int .u8 k1) := fun dq osq => (HK.out.step (below_regrown wr dq osq)).r.c4
            have x5 : ∀ dq osq, (Sort.grow (redrawn wr dq) osq).cell? ⟨w.heap.size, 5, none⟩ = some (.int .i64 m1) := fun dq osq => (HK.out.step (below_regrown wr dq osq)).r.c5
            have x6 : ∀ dq osq, (Sort.grow (redrawn wr dq) osq).cell? ⟨w.heap.size, 6, none⟩ = some (.int .i64 e1) := fun dq osq => (HK.out.step (below_regrown wr dq osq)).r.c6
            have x7 : ∀ dq osq, (Sort.grow (redrawn wr dq) osq).cell? ⟨w.heap.size, 7, none⟩ = some (.int .i64 d1) := fun dq osq => (HK.out.step (below_regrown wr dq osq)).r.c7
            have x8 : ∀ dq osq, (Sort.grow (redrawn wr dq) osq).cell? ⟨w.heap.size, 8, none⟩ = some (.int .i64 t1) := fun dq osq => (HK.out.step (below_regrown wr dq osq)).r.c8
            have x9 : ∀ dq osq, (Sort.grow (redrawn wr dq) osq).cell? ⟨w.heap.size, 9, none⟩ = some (.int .u8 k2) := fun dq osq => (HK.out.step (below_regrown wr dq osq)).r.c9
            have x10 : ∀ dq osq, (Sort.grow (redrawn wr dq) osq).cell? ⟨w.heap.size, 10, none⟩ = some (.int .i64 m2) := fun dq osq => (HK.out.step (below_regrown wr dq osq)).r.c10
            have x11 : ∀ dq osq, (Sort.grow (redrawn wr dq) osq).cell? ⟨w.heap.size, 11, none⟩ = some (.int .i64 e2) := fun dq osq => (HK.out.step (below_regrown wr dq osq)).r.c11
            have x12 : ∀ dq osq, (Sort.grow (redrawn wr dq) osq).cell? ⟨w.heap.size, 12, none⟩ = some (.int .i64 d2) := fun dq osq => (HK.out.step (below_regrown wr dq osq)).r.c12
            have x13 : ∀ dq osq, (Sort.grow (redrawn wr dq) osq).cell? ⟨w.heap.size, 13, none⟩ = some (.int .i64 t2) := fun dq osq => (HK.out.step (below_regrown wr dq osq)).r.c13
            refine wp_region_quiet_below (by kernel_rfl) (by kernel_rfl) ?_
            repeat (first | go_big_quiet_step (first | (go_at_call 20; with_reducible exact Calls.regrown_of (HS1.out _)) | (go_at_call 20; with_reducible exact Calls.regrown_of (HS2.out _))) | quiet_step (first | (go_at_call 20; with_reducible exact Calls.regrown_of (HS1.out _)) | (go_at_call 20; with_reducible exact Calls.regrown_of (HS2.out _))))
            refine wpQuiet_nil ?_
            intro V1 hV
            have K1 := Lib.hid (HK.out.step (below_class hV))
            clear hV x2 x3 x4 x5 x6 x7 x8 x9 x10 x11 x12 x13 HS1 HS2
            go_wp2
            go_round
            case rel => exact ⟨k + 1, 0, false, by omega, by first | rfl | rw [wA] | rw [wB], by rw [HN.out.2], rfl, by go_num, .inr ⟨rfl, rfl, Prod.ext HN.out.1 HN.out.2⟩, K1.out⟩
            case measure => simp only [intOf]; omega
    · obtain rfl : k = 4 := by omega
      have c1 : ¬ (y - 2 + ((4 : Nat) : Int) ≤ y + 1) := by omega
      have wY : wrap64 (y + 1) = y + 1 := w_id (by omega) (by omega)
      rw [HC.out]
      have hv := HV.out
      have a2 := HK.out.r.c2
      have a3 := HK.out.r.c3
      clear HLO HBD HT1 HT2 hx HC HV
      cases c with
      | true =>
        obtain rfl : v = r.dstOff := hv
        go_wp2
        go_ret2
        exact ⟨rfl, HK.out.b⟩
      | false =>
        obtain rfl : v = r.off := hv
        go_wp2
        go_ret2
        exact ⟨rfl, HK.out.b⟩
end Go.Proofs.YtkfhipkcnocokaaDoor.Fo
