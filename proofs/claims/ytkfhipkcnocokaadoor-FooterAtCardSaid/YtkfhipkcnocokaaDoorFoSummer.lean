/-
  Layer 7 (footer): which offset holds (ways by gen_fo7m.py).
-/
import Derived.Test.YtkfhipkcnocokaaDoorFoTurn
import Derived.Test.YtkfhipkcnocokaaDoorFoText
import Derived.Test.YtkfhipkcnocokaaDoorCvFrom
namespace Go.Proofs.YtkfhipkcnocokaaDoor.Fo
open Go.RowKit
set_option maxRecDepth 100000

/-- What summer keeps: the rule, the year, the table. -/
structure Mk (w V : World) (r : Rl) (N : Nat) (y : Int) : Prop where
  r : RlAt V w.heap.size r
  c : V.cell? ⟨N, 0, none⟩ = some (.int .i64 y)
  b : Below w.heap.size w V
  t : Cv.Tab V
theorem Mk.keep {w V V' : World} {r : Rl} {N : Nat} {y : Int} (h : Mk w V r N y) (hb : Below V.heap.size V V') : Mk w V' r N y :=
  ⟨h.r.below hb h.r.lt, cells_at _ hb (cell_lt h.c) h.c, h.b.trans (hb.mono h.b.size), tab_keep h.t hb⟩
theorem sumS_bd (f g : Int → Int) (t y : Int) (lo : ∀ k : Nat, k < 4 → -1000000000000 ≤ f (y - 2 + k) ∧ f (y - 2 + k) ≤ 1000000000000 ∧ -1000000000000 ≤ g (y - 2 + k) ∧ g (y - 2 + k) ≤ 1000000000000) : ∀ k : Nat, k ≤ 4 → -9223372036854775808 ≤ (sumS f g t y k).1 ∧ (sumS f g t y k).1 ≤ 1000000000000
  | 0, _ => by show (-9223372036854775808 : Int) ≤ -9223372036854775808 ∧ (-9223372036854775808 : Int) ≤ 1000000000000; omega
  | k + 1, hk => by
    have ih := sumS_bd f g t y lo k (by omega)
    have l := lo k (by omega)
    show _ ≤ (stepB (g (y - 2 + k)) t (stepA (f (y - 2 + k)) t (sumS f g t y k))).1 ∧ (stepB (g (y - 2 + k)) t (stepA (f (y - 2 + k)) t (sumS f g t y k))).1 ≤ _
    unfold stepB stepA
    repeat' split
    all_goals (try simp only)
    all_goals omega
theorem step_is {f g : Int → Int} {t y : Int} {k : Nat} {a A B a2 : Int} {b b2 : Bool} (h1 : (sumS f g t y k).1 = a) (h2 : (sumS f g t y k).2 = b) (hA : f (y - 2 + k) = A) (hB : g (y - 2 + k) = B) (h : stepB B t (stepA A t (a, b)) = (a2, b2)) : (sumS f g t y (k + 1)).1 = a2 ∧ (sumS f g t y (k + 1)).2 = b2 := by
  show (stepB (g (y - 2 + k)) t (stepA (f (y - 2 + k)) t (sumS f g t y k))).1 = a2 ∧ (stepB (g (y - 2 + k)) t (stepA (f (y - 2 + k)) t (sumS f g t y k))).2 = b2
  have e : sumS f g t y k = (a, b) := by rw [← h1, ← h2]
  rw [e, hA, hB, h]
  exact ⟨rfl, rfl⟩
set_option maxHeartbeats 4000000 in
theorem summer_at (r : Rl) (t y m d : Int) (b1 : dayB r.start = true) (b2 : dayB r.end_ = true) (o1 : offB r.off = true) (o2 : offB r.dstOff = true) (tl : -10000000000 ≤ t) (tu : t ≤ 100000000000) (hR : Cv.Right y m d) (hn : Cv.num y m d = (t + r.off) / 86400) (w : World) (ht : Cv.Tab w) :
    Calls Tryd.prog 40 #[rlV r, .int .i64 t] w fun e w' => e = .returned (.bool (sumS (begF r) (endF r) t y 4).2) ∧ Below w.heap.size w w' := by
  have O1 : -89999 ≤ r.off ∧ r.off ≤ 89999 := by unfold offB inB at o1; simpa [Bool.and_eq_true, decide_eq_true_eq] using o1
  have O2 : -89999 ≤ r.dstOff ∧ r.dstOff ≤ 89999 := by unfold offB inB at o2; simpa [Bool.and_eq_true, decide_eq_true_eq] using o2
  have Y := year_bd hR hn (by omega) (by omega)
  obtain ⟨Y0, Y1⟩ := Y
  have LO : ∀ k : Nat, k < 4 → (-100000000000 ≤ switchV r.start (y - 2 + k) ∧ switchV r.start (y - 2 + k) ≤ 400000000000) ∧ (-100000000000 ≤ switchV r.end_ (y - 2 + k) ∧ switchV r.end_ (y - 2 + k) ≤ 400000000000) := fun k hk => ⟨switchV_bd b1 (by omega), switchV_bd b2 (by omega)⟩
  have HBD := Lib.hid (sumS_bd (begF r) (endF r) t y (fun k hk => by obtain ⟨x1, x2⟩ := LO k hk; unfold begF endF; omega))
  have HLO := Lib.hid LO
  have HT1 : Hid (∀ k : Nat, k < 4 → ∀ V, Cv.Tab V → Calls Tryd.prog 19 #[dyV r.start, .int .i64 (y - 2 + k)] V fun e w' => e = .returned (.tuple #[.int .i64 (switchV r.start (y - 2 + k)), .int .i64 0]) ∧ Below V.heap.size V w') := Lib.hid fun k hk V hV => by
    have := switch_any r.start (y - 2 + k) V hV
    unfold switchE at this
    rwa [b1, if_pos rfl, if_pos (show inB (y - 2 + k) 2 9998 = true by unfold inB; simp; omega)] at this
  have HT2 : Hid (∀ k : Nat, k < 4 → ∀ V, Cv.Tab V → Calls Tryd.prog 19 #[dyV r.end_, .int .i64 (y - 2 + k)] V fun e w' => e = .returned (.tuple #[.int .i64 (switchV r.end_ (y - 2 + k)), .int .i64 0]) ∧ Below V.heap.size V w') := Lib.hid fun k hk V hV => by
    have := switch_any r.end_ (y - 2 + k) V hV
    unfold switchE at this
    rwa [b2, if_pos rfl, if_pos (show inB (y - 2 + k) 2 9998 = true by unfold inB; simp; omega)] at this
  have x1 : wrap64 (t + r.off) = t + r.off := w_id (by omega) (by omega)
  have x2 : wrap64 ((t + r.off) * 1000000) = (t + r.off) * 1000000 := w_id (by omega) (by omega)
  have hq : Cv.num y m d = (t + r.off) * 1000000 / 86400000000 := by rw [hn]; omega
  have A0 := Lib.hid (RlAt.new w r 25)
  have B0 := Lib.hid ((Below.refl w.heap.size w).alloc (Nat.le_refl _) (.cells #[.string r.std, .string r.dst, .int .i64 r.off, .int .i64 r.dstOff, .int .u8 r.start.kind, .int .i64 r.start.month, .int .i64 r.start.week, .int .i64 r.start.day, .int .i64 r.start.time, .int .u8 r.end_.kind, .int .i64 r.end_.month, .int .i64 r.end_.week, .int .i64 r.end_.day, .int .i64 r.end_.time] 25))
  have HF : Hid (∀ V, Cv.Tab V → Calls Tryd.prog 64 #[.int .i64 ((t + r.off) * 1000000)] V fun e w' => e = .returned (.tuple #[Cv.cv y m d ((t + r.off) * 1000000 % 86400000000 / 3600000000) ((t + r.off) * 1000000 % 86400000000 % 3600000000 / 60000000) ((t + r.off) * 1000000 % 86400000000 % 60000000 / 1000000) ((t + r.off) * 1000000 % 86400000000 % 1000000), .int .i64 0]) ∧ Below V.heap.size V w') := Lib.hid fun V hV => Cv.from_at _ y m d _ V hV (by omega) hR hq rfl
  have T0 := Lib.hid (tab_keep ht B0.out)
  clear b1 b2 o1 o2 hR hn ht hq LO
  generalize (t + r.off) * 1000000 % 86400000000 / 3600000000 = u1 at *
  generalize (t + r.off) * 1000000 % 86400000000 % 3600000000 / 60000000 = u2 at *
  generalize (t + r.off) * 1000000 % 86400000000 % 60000000 / 1000000 = u3 at *
  generalize (t + r.off) * 1000000 % 86400000000 % 1000000 = u4 at *
  go_enter Tryd.func40, Tryd.ntmps40
  go_wp2_with (first
    | (go_at_call 64; refine (HF.out _ T0.out).mono ?_; clear HF; rintro e V0 ⟨rfl, hx⟩; have R1 := Lib.hid (A0.out.below hx A0.out.lt); have B1 := Lib.hid (B0.out.trans (hx.mono B0.out.size)); have T1 := Lib.hid (tab_keep T0.out hx); clear hx)
    | fail)
  have K0 : Mk w (V0.alloc (.cells #[.int .i64 y, .int .i64 m, .int .i64 d, .int .i64 u1, .int .i64 u2, .int .i64 u3, .int .i64 u4] 92)) r V0.heap.size y :=
    have hx := (Below.refl V0.heap.size V0).alloc (Nat.le_refl _) (.cells #[.int .i64 y, .int .i64 m, .int .i64 d, .int .i64 u1, .int .i64 u2, .int .i64 u3, .int .i64 u4] 92)
    ⟨R1.out.below hx R1.out.lt, cell_new _ _ _ _ 0 _ rfl rfl, B1.out.trans (hx.mono B1.out.size), tab_keep T1.out hx⟩
  have HK0 := Lib.hid K0
  clear K0 R1 B1 T1 A0 B0 T0
  generalize V0.heap.size = N at *
  go_loopw [7, 8, 9] (fun l s yr wr => ∃ k : Nat, k ≤ 4 ∧ l = .int .i64 (sumS (begF r) (endF r) t y k).1 ∧ s = .bool (sumS (begF r) (endF r) t y k).2 ∧ yr = .int .i64 (y - 2 + k) ∧ Mk w wr r N y) (fun _ _ yr _ => (y + 2 - intOf yr).toNat)
  case atStart => exact ⟨0, by omega, rfl, rfl, by go_num, HK0.out⟩
  case round =>
    obtain ⟨k, hk, rfl, rfl, rfl, hK⟩ := hrel
    have HK := Lib.hid hK
    have kc := hK.c
    clear hK HK0
    by_cases hk4 : k < 4
    · have hk3 : (k : Int) ≤ 3 := by omega
      have HS1 := Lib.hid (HT1.out k hk4)
      have HS2 := Lib.hid (HT2.out k hk4)
      obtain ⟨⟨l1, l2⟩, ⟨l3, l4⟩⟩ := HLO.out k hk4
      obtain ⟨g1, g2⟩ := HBD.out k hk
      have hA : begF r (y - 2 + k) = switchV r.start (y - 2 + k) - r.off := rfl
      have hB : endF r (y - 2 + k) = switchV r.end_ (y - 2 + k) - r.dstOff := rfl
      obtain ⟨a, ha⟩ : ∃ a, (sumS (begF r) (endF r) t y k).1 = a := ⟨_, rfl⟩
      obtain ⟨b, hb⟩ : ∃ b, (sumS (begF r) (endF r) t y k).2 = b := ⟨_, rfl⟩
      rw [ha] at g1 g2
      rw [ha, hb]
      obtain ⟨sA, hsA⟩ : ∃ sA, switchV r.start (y - 2 + k) = sA := ⟨_, rfl⟩
      obtain ⟨sB, hsB⟩ : ∃ sB, switchV r.end_ (y - 2 + k) = sB := ⟨_, rfl⟩
      rw [hsA] at HS1 hA l1 l2
      rw [hsB] at HS2 hB l3 l4
      obtain ⟨A, hA2⟩ : ∃ A, sA - r.off = A := ⟨_, rfl⟩
      obtain ⟨B, hB2⟩ : ∃ B, sB - r.dstOff = B := ⟨_, rfl⟩
      rw [hA2] at hA
      rw [hB2] at hB
      have wA : wrap64 (sA - r.off) = A := by rw [hA2]; exact w_id (by omega) (by omega)
      have wB : wrap64 (sB - r.dstOff) = B := by rw [hB2]; exact w_id (by omega) (by omega)
      have wY : wrap64 (y + 1) = y + 1 := w_id (by omega) (by omega)
      have wN : wrap64 (y - 2 + k + 1) = y - 2 + k + 1 := w_id (by omega) (by omega)
      have c1 : y - 2 + (k : Int) ≤ y + 1 := by omega
      have LB : -1000000000000 ≤ A ∧ A ≤ 1000000000000 ∧ -1000000000000 ≤ B ∧ B ≤ 1000000000000 := by omega
      clear hsA hsB l1 l2 l3 l4 hA2 hB2 HLO HBD HT1 HT2
      have a2 := HK.out.r.c2
      have a3 := HK.out.r.c3
      have a4 := HK.out.r.c4
      have a5 := HK.out.r.c5
      have a6 := HK.out.r.c6
      have a7 := HK.out.r.c7
      have a8 := HK.out.r.c8
      have a9 := HK.out.r.c9
      have a10 := HK.out.r.c10
      have a11 := HK.out.r.c11
      have a12 := HK.out.r.c12
      have a13 := HK.out.r.c13
      obtain ⟨std, dst, off, dstOff, ⟨k1, m1, e1, d1, t1⟩, ⟨k2, m2, e2, d2, t2⟩⟩ := r
      simp only at *
      by_cases h1 : A ≤ t
      · by_cases h2 : a < A
        ·
          by_cases h3 : B ≤ t
          · by_cases h4 : A ≤ B
            ·
              have s1 : stepA A t (a, b) = (A, true) := stepA_yes h1 h2
              have s2 : stepB B t (A, true) = (B, false) := stepB_yes h3 h4
              have HN := Lib.hid (step_is ha hb hA hB (show stepB B t (stepA A t (a, b)) = (B, false) by rw [s1, s2]))
              clear s1 s2 ha hb hA hB
              go_wp2_with (first
                | (go_at_call 19; refine (HS1.out _ HK.out.t).mono ?_; clear HS1 a2 a3 a4 a5 a6 a7 a8 a9 a10 a11 a12 a13 kc; rintro e V1 ⟨rfl, hx⟩; have K1 := Lib.hid (HK.out.keep hx); clear hx; have a2 := K1.out.r.c2; have a3 := K1.out.r.c3; have a4 := K1.out.r.c4; have a5 := K1.out.r.c5; have a6 := K1.out.r.c6; have a7 := K1.out.r.c7; have a8 := K1.out.r.c8; have a9 := K1.out.r.c9; have a10 := K1.out.r.c10; have a11 := K1.out.r.c11; have a12 := K1.out.r.c12; have a13 := K1.out.r.c13; have kc := K1.out.c)
                | (go_at_call 19; refine (HS2.out _ K1.out.t).mono ?_; clear HS2 a2 a3 a4 a5 a6 a7 a8 a9 a10 a11 a12 a13 kc; rintro e V2 ⟨rfl, hx⟩; have K2 := Lib.hid (K1.out.keep hx); clear hx; have a2 := K2.out.r.c2; have a3 := K2.out.r.c3; have a4 := K2.out.r.c4; have a5 := K2.out.r.c5; have a6 := K2.out.r.c6; have a7 := K2.out.r.c7; have a8 := K2.out.r.c8; have a9 := K2.out.r.c9; have a10 := K2.out.r.c10; have a11 := K2.out.r.c11; have a12 := K2.out.r.c12; have a13 := K2.out.r.c13; have kc := K2.out.c)
                | fail)
              go_round
              case rel => exact ⟨k + 1, by omega, by simp only [HN.out.1, wB], by rw [HN.out.2], by go_num, K2.out⟩
              case measure => simp only [intOf]; omega
            ·
              have s1 : stepA A t (a, b) = (A, true) := stepA_yes h1 h2
              have s2 : stepB B t (A, true) = (A, true) := by unfold stepB; rw [if_neg (fun h => h4 h.2)]
              have HN := Lib.hid (step_is ha hb hA hB (show stepB B t (stepA A t (a, b)) = (A, true) by rw [s1, s2]))
              clear s1 s2 ha hb hA hB
              go_wp2_with (first
                | (go_at_call 19; refine (HS1.out _ HK.out.t).mono ?_; clear HS1 a2 a3 a4 a5 a6 a7 a8 a9 a10 a11 a12 a13 kc; rintro e V1 ⟨rfl, hx⟩; have K1 := Lib.hid (HK.out.keep hx); clear hx; have a2 := K1.out.r.c2; have a3 := K1.out.r.c3; have a4 := K1.out.r.c4; have a5 := K1.out.r.c5; have a6 := K1.out.r.c6; have a7 := K1.out.r.c7; have a8 := K1.out.r.c8; have a9 := K1.out.r.c9; have a10 := K1.out.r.c10; have a11 := K1.out.r.c11; have a12 := K1.out.r.c12; have a13 := K1.out.r.c13; have kc := K1.out.c)
                | (go_at_call 19; refine (HS2.out _ K1.out.t).mono ?_; clear HS2 a2 a3 a4 a5 a6 a7 a8 a9 a10 a11 a12 a13 kc; rintro e V2 ⟨rfl, hx⟩; have K2 := Lib.hid (K1.out.keep hx); clear hx; have a2 := K2.out.r.c2; have a3 := K2.out.r.c3; have a4 := K2.out.r.c4; have a5 := K2.out.r.c5; have a6 := K2.out.r.c6; have a7 := K2.out.r.c7; have a8 := K2.out.r.c8; have a9 := K2.out.r.c9; have a10 := K2.out.r.c10; have a11 := K2.out.r.c11; have a12 := K2.out.r.c12; have a13 := K2.out.r.c13; have kc := K2.out.c)
                | fail)
              go_round
              case rel => exact ⟨k + 1, by omega, by simp only [HN.out.1], by rw [HN.out.2], by go_num, K2.out⟩
              case measure => simp only [intOf]; omega
          ·
            have s1 : stepA A t (a, b) = (A, true) := stepA_yes h1 h2
            have s2 : stepB B t (A, true) = (A, true) := stepB_no (by omega)
            have HN := Lib.hid (step_is ha hb hA hB (show stepB B t (stepA A t (a, b)) = (A, true) by rw [s1, s2]))
            clear s1 s2 ha hb hA hB
            go_wp2_with (first
              | (go_at_call 19; refine (HS1.out _ HK.out.t).mono ?_; clear HS1 a2 a3 a4 a5 a6 a7 a8 a9 a10 a11 a12 a13 kc; rintro e V1 ⟨rfl, hx⟩; have K1 := Lib.hid (HK.out.keep hx); clear hx; have a2 := K1.out.r.c2; have a3 := K1.out.r.c3; have a4 := K1.out.r.c4; have a5 := K1.out.r.c5; have a6 := K1.out.r.c6; have a7 := K1.out.r.c7; have a8 := K1.out.r.c8; have a9 := K1.out.r.c9; have a10 := K1.out.r.c10; have a11 := K1.out.r.c11; have a12 := K1.out.r.c12; have a13 := K1.out.r.c13; have kc := K1.out.c)
              | (go_at_call 19; refine (HS2.out _ K1.out.t).mono ?_; clear HS2 a2 a3 a4 a5 a6 a7 a8 a9 a10 a11 a12 a13 kc; rintro e V2 ⟨rfl, hx⟩; have K2 := Lib.hid (K1.out.keep hx); clear hx; have a2 := K2.out.r.c2; have a3 := K2.out.r.c3; have a4 := K2.out.r.c4; have a5 := K2.out.r.c5; have a6 := K2.out.r.c6; have a7 := K2.out.r.c7; have a8 := K2.out.r.c8; have a9 := K2.out.r.c9; have a10 := K2.out.r.c10; have a11 := K2.out.r.c11; have a12 := K2.out.r.c12; have a13 := K2.out.r.c13; have kc := K2.out.c)
              | fail)
            go_round
            case rel => exact ⟨k + 1, by omega, by simp only [HN.out.1], by rw [HN.out.2], by go_num, K2.out⟩
            case measure => simp only [intOf]; omega
        ·
          by_cases h3 : B ≤ t
          · by_cases h4 : a ≤ B
            ·
              have s1 : stepA A t (a, b) = (a, b) := by unfold stepA; rw [if_neg (fun h => h2 h.2)]
              have s2 : stepB B t (a, b) = (B, false) := stepB_yes h3 h4
              have HN := Lib.hid (step_is ha hb hA hB (show stepB B t (stepA A t (a, b)) = (B, false) by rw [s1, s2]))
              clear s1 s2 ha hb hA hB
              go_wp2_with (first
                | (go_at_call 19; refine (HS1.out _ HK.out.t).mono ?_; clear HS1 a2 a3 a4 a5 a6 a7 a8 a9 a10 a11 a12 a13 kc; rintro e V1 ⟨rfl, hx⟩; have K1 := Lib.hid (HK.out.keep hx); clear hx; have a2 := K1.out.r.c2; have a3 := K1.out.r.c3; have a4 := K1.out.r.c4; have a5 := K1.out.r.c5; have a6 := K1.out.r.c6; have a7 := K1.out.r.c7; have a8 := K1.out.r.c8; have a9 := K1.out.r.c9; have a10 := K1.out.r.c10; have a11 := K1.out.r.c11; have a12 := K1.out.r.c12; have a13 := K1.out.r.c13; have kc := K1.out.c)
                | (go_at_call 19; refine (HS2.out _ K1.out.t).mono ?_; clear HS2 a2 a3 a4 a5 a6 a7 a8 a9 a10 a11 a12 a13 kc; rintro e V2 ⟨rfl, hx⟩; have K2 := Lib.hid (K1.out.keep hx); clear hx; have a2 := K2.out.r.c2; have a3 := K2.out.r.c3; have a4 := K2.out.r.c4; have a5 := K2.out.r.c5; have a6 := K2.out.r.c6; have a7 := K2.out.r.c7; have a8 := K2.out.r.c8; have a9 := K2.out.r.c9; have a10 := K2.out.r.c10; have a11 := K2.out.r.c11; have a12 := K2.out.r.c12; have a13 := K2.out.r.c13; have kc := K2.out.c)
                | fail)
              go_round
              case rel => exact ⟨k + 1, by omega, by simp only [HN.out.1, wB], by rw [HN.out.2], by go_num, K2.out⟩
              case measure => simp only [intOf]; omega
            ·
              have s1 : stepA A t (a, b) = (a, b) := by unfold stepA; rw [if_neg (fun h => h2 h.2)]
              have s2 : stepB B t (a, b) = (a, b) := by unfold stepB; rw [if_neg (fun h => h4 h.2)]
              have HN := Lib.hid (step_is ha hb hA hB (show stepB B t (stepA A t (a, b)) = (a, b) by rw [s1, s2]))
              clear s1 s2 ha hb hA hB
              go_wp2_with (first
                | (go_at_call 19; refine (HS1.out _ HK.out.t).mono ?_; clear HS1 a2 a3 a4 a5 a6 a7 a8 a9 a10 a11 a12 a13 kc; rintro e V1 ⟨rfl, hx⟩; have K1 := Lib.hid (HK.out.keep hx); clear hx; have a2 := K1.out.r.c2; have a3 := K1.out.r.c3; have a4 := K1.out.r.c4; have a5 := K1.out.r.c5; have a6 := K1.out.r.c6; have a7 := K1.out.r.c7; have a8 := K1.out.r.c8; have a9 := K1.out.r.c9; have a10 := K1.out.r.c10; have a11 := K1.out.r.c11; have a12 := K1.out.r.c12; have a13 := K1.out.r.c13; have kc := K1.out.c)
                | (go_at_call 19; refine (HS2.out _ K1.out.t).mono ?_; clear HS2 a2 a3 a4 a5 a6 a7 a8 a9 a10 a11 a12 a13 kc; rintro e V2 ⟨rfl, hx⟩; have K2 := Lib.hid (K1.out.keep hx); clear hx; have a2 := K2.out.r.c2; have a3 := K2.out.r.c3; have a4 := K2.out.r.c4; have a5 := K2.out.r.c5; have a6 := K2.out.r.c6; have a7 := K2.out.r.c7; have a8 := K2.out.r.c8; have a9 := K2.out.r.c9; have a10 := K2.out.r.c10; have a11 := K2.out.r.c11; have a12 := K2.out.r.c12; have a13 := K2.out.r.c13; have kc := K2.out.c)
                | fail)
              go_round
              case rel => exact ⟨k + 1, by omega, by simp only [HN.out.1], by rw [HN.out.2], by go_num, K2.out⟩
              case measure => simp only [intOf]; omega
          ·
            have s1 : stepA A t (a, b) = (a, b) := by unfold stepA; rw [if_neg (fun h => h2 h.2)]
            have s2 : stepB B t (a, b) = (a, b) := stepB_no (by omega)
            have HN := Lib.hid (step_is ha hb hA hB (show stepB B t (stepA A t (a, b)) = (a, b) by rw [s1, s2]))
            clear s1 s2 ha hb hA hB
            go_wp2_with (first
              | (go_at_call 19; refine (HS1.out _ HK.out.t).mono ?_; clear HS1 a2 a3 a4 a5 a6 a7 a8 a9 a10 a11 a12 a13 kc; rintro e V1 ⟨rfl, hx⟩; have K1 := Lib.hid (HK.out.keep hx); clear hx; have a2 := K1.out.r.c2; have a3 := K1.out.r.c3; have a4 := K1.out.r.c4; have a5 := K1.out.r.c5; have a6 := K1.out.r.c6; have a7 := K1.out.r.c7; have a8 := K1.out.r.c8; have a9 := K1.out.r.c9; have a10 := K1.out.r.c10; have a11 := K1.out.r.c11; have a12 := K1.out.r.c12; have a13 := K1.out.r.c13; have kc := K1.out.c)
              | (go_at_call 19; refine (HS2.out _ K1.out.t).mono ?_; clear HS2 a2 a3 a4 a5 a6 a7 a8 a9 a10 a11 a12 a13 kc; rintro e V2 ⟨rfl, hx⟩; have K2 := Lib.hid (K1.out.keep hx); clear hx; have a2 := K2.out.r.c2; have a3 := K2.out.r.c3; have a4 := K2.out.r.c4; have a5 := K2.out.r.c5; have a6 := K2.out.r.c6; have a7 := K2.out.r.c7; have a8 := K2.out.r.c8; have a9 := K2.out.r.c9; have a10 := K2.out.r.c10; have a11 := K2.out.r.c11; have a12 := K2.out.r.c12; have a13 := K2.out.r.c13; have kc := K2.out.c)
              | fail)
            go_round
            case rel => exact ⟨k + 1, by omega, by simp only [HN.out.1], by rw [HN.out.2], by go_num, K2.out⟩
            case measure => simp only [intOf]; omega
      ·
        by_cases h3 : B ≤ t
        · by_cases h4 : a ≤ B
          ·
            have s1 : stepA A t (a, b) = (a, b) := stepA_no (by omega)
            have s2 : stepB B t (a, b) = (B, false) := stepB_yes h3 h4
            have HN := Lib.hid (step_is ha hb hA hB (show stepB B t (stepA A t (a, b)) = (B, false) by rw [s1, s2]))
            clear s1 s2 ha hb hA hB
            go_wp2_with (first
              | (go_at_call 19; refine (HS1.out _ HK.out.t).mono ?_; clear HS1 a2 a3 a4 a5 a6 a7 a8 a9 a10 a11 a12 a13 kc; rintro e V1 ⟨rfl, hx⟩; have K1 := Lib.hid (HK.out.keep hx); clear hx; have a2 := K1.out.r.c2; have a3 := K1.out.r.c3; have a4 := K1.out.r.c4; have a5 := K1.out.r.c5; have a6 := K1.out.r.c6; have a7 := K1.out.r.c7; have a8 := K1.out.r.c8; have a9 := K1.out.r.c9; have a10 := K1.out.r.c10; have a11 := K1.out.r.c11; have a12 := K1.out.r.c12; have a13 := K1.out.r.c13; have kc := K1.out.c)
              | (go_at_call 19; refine (HS2.out _ K1.out.t).mono ?_; clear HS2 a2 a3 a4 a5 a6 a7 a8 a9 a10 a11 a12 a13 kc; rintro e V2 ⟨rfl, hx⟩; have K2 := Lib.hid (K1.out.keep hx); clear hx; have a2 := K2.out.r.c2; have a3 := K2.out.r.c3; have a4 := K2.out.r.c4; have a5 := K2.out.r.c5; have a6 := K2.out.r.c6; have a7 := K2.out.r.c7; have a8 := K2.out.r.c8; have a9 := K2.out.r.c9; have a10 := K2.out.r.c10; have a11 := K2.out.r.c11; have a12 := K2.out.r.c12; have a13 := K2.out.r.c13; have kc := K2.out.c)
              | fail)
            go_round
            case rel => exact ⟨k + 1, by omega, by simp only [HN.out.1, wB], by rw [HN.out.2], by go_num, K2.out⟩
            case measure => simp only [intOf]; omega
          ·
            have s1 : stepA A t (a, b) = (a, b) := stepA_no (by omega)
            have s2 : stepB B t (a, b) = (a, b) := by unfold stepB; rw [if_neg (fun h => h4 h.2)]
            have HN := Lib.hid (step_is ha hb hA hB (show stepB B t (stepA A t (a, b)) = (a, b) by rw [s1, s2]))
            clear s1 s2 ha hb hA hB
            go_wp2_with (first
              | (go_at_call 19; refine (HS1.out _ HK.out.t).mono ?_; clear HS1 a2 a3 a4 a5 a6 a7 a8 a9 a10 a11 a12 a13 kc; rintro e V1 ⟨rfl, hx⟩; have K1 := Lib.hid (HK.out.keep hx); clear hx; have a2 := K1.out.r.c2; have a3 := K1.out.r.c3; have a4 := K1.out.r.c4; have a5 := K1.out.r.c5; have a6 := K1.out.r.c6; have a7 := K1.out.r.c7; have a8 := K1.out.r.c8; have a9 := K1.out.r.c9; have a10 := K1.out.r.c10; have a11 := K1.out.r.c11; have a12 := K1.out.r.c12; have a13 := K1.out.r.c13; have kc := K1.out.c)
              | (go_at_call 19; refine (HS2.out _ K1.out.t).mono ?_; clear HS2 a2 a3 a4 a5 a6 a7 a8 a9 a10 a11 a12 a13 kc; rintro e V2 ⟨rfl, hx⟩; have K2 := Lib.hid (K1.out.keep hx); clear hx; have a2 := K2.out.r.c2; have a3 := K2.out.r.c3; have a4 := K2.out.r.c4; have a5 := K2.out.r.c5; have a6 := K2.out.r.c6; have a7 := K2.out.r.c7; have a8 := K2.out.r.c8; have a9 := K2.out.r.c9; have a10 := K2.out.r.c10; have a11 := K2.out.r.c11; have a12 := K2.out.r.c12; have a13 := K2.out.r.c13; have kc := K2.out.c)
              | fail)
            go_round
            case rel => exact ⟨k + 1, by omega, by simp only [HN.out.1], by rw [HN.out.2], by go_num, K2.out⟩
            case measure => simp only [intOf]; omega
        ·
          have s1 : stepA A t (a, b) = (a, b) := stepA_no (by omega)
          have s2 : stepB B t (a, b) = (a, b) := stepB_no (by omega)
          have HN := Lib.hid (step_is ha hb hA hB (show stepB B t (stepA A t (a, b)) = (a, b) by rw [s1, s2]))
          clear s1 s2 ha hb hA hB
          go_wp2_with (first
            | (go_at_call 19; refine (HS1.out _ HK.out.t).mono ?_; clear HS1 a2 a3 a4 a5 a6 a7 a8 a9 a10 a11 a12 a13 kc; rintro e V1 ⟨rfl, hx⟩; have K1 := Lib.hid (HK.out.keep hx); clear hx; have a2 := K1.out.r.c2; have a3 := K1.out.r.c3; have a4 := K1.out.r.c4; have a5 := K1.out.r.c5; have a6 := K1.out.r.c6; have a7 := K1.out.r.c7; have a8 := K1.out.r.c8; have a9 := K1.out.r.c9; have a10 := K1.out.r.c10; have a11 := K1.out.r.c11; have a12 := K1.out.r.c12; have a13 := K1.out.r.c13; have kc := K1.out.c)
            | (go_at_call 19; refine (HS2.out _ K1.out.t).mono ?_; clear HS2 a2 a3 a4 a5 a6 a7 a8 a9 a10 a11 a12 a13 kc; rintro e V2 ⟨rfl, hx⟩; have K2 := Lib.hid (K1.out.keep hx); clear hx; have a2 := K2.out.r.c2; have a3 := K2.out.r.c3; have a4 := K2.out.r.c4; have a5 := K2.out.r.c5; have a6 := K2.out.r.c6; have a7 := K2.out.r.c7; have a8 := K2.out.r.c8; have a9 := K2.out.r.c9; have a10 := K2.out.r.c10; have a11 := K2.out.r.c11; have a12 := K2.out.r.c12; have a13 := K2.out.r.c13; have kc := K2.out.c)
            | fail)
          go_round
          case rel => exact ⟨k + 1, by omega, by simp only [HN.out.1], by rw [HN.out.2], by go_num, K2.out⟩
          case measure => simp only [intOf]; omega
    · obtain rfl : k = 4 := by omega
      have c1 : ¬ (y - 2 + ((4 : Nat) : Int) ≤ y + 1) := by omega
      have wY : wrap64 (y + 1) = y + 1 := w_id (by omega) (by omega)
      clear HLO HBD HT1 HT2
      generalize (sumS (begF r) (endF r) t y 4).1 = s1 at *
      generalize hs2 : (sumS (begF r) (endF r) t y 4).2 = s2 at *
      have H2 := Lib.hid hs2
      clear hs2
      go_wp2
      go_ret
      exact ⟨by rw [H2.out]; rfl, HK.out.b⟩
theorem Wk.table {w V : World} {r : Rl} (h : Wk w V r) (ht : Cv.Tab w) : Cv.Tab V := tab_keep ht h.b
set_option maxHeartbeats 800000 in
theorem at_no (r : Rl) (t : Int) (hr : rightR r = false) (w : World) : Calls Tryd.prog 17 #[rlV r, .int .i64 t] w fun e w' => e = .returned (.tuple #[.int .i64 0, .bool false]) ∧ Below w.heap.size w w' := by
  have H0 : Hid (∀ V, Wk w V r → Calls Tryd.prog 13 #[rlV r] V fun e w' => e = .returned (.bool false) ∧ Wk w w' r) := Lib.hid fun V hV => by have := right_any r V; rw [hr] at this; exact this.mono fun _ _ ⟨he, hb⟩ => ⟨he, hV.step hb⟩
  have K0 := Lib.hid (Wk.start w r 25)
  clear hr
  obtain ⟨std, dst, off, dstOff, ⟨k1, m1, e1, d1, t1⟩, ⟨k2, m2, e2, d2, t2⟩⟩ := r
  simp only at *
  go_enter Tryd.func17, Tryd.ntmps17
  go_wp2_with (first
    | (go_at_call 13; refine (H0.out _ K0.out).mono ?_; clear H0; rintro e V0 ⟨rfl, hk⟩; have K1 := Lib.hid hk; clear hk)
    | fail)
  go_ret2
  exact ⟨rfl, K1.out.b⟩
set_option maxHeartbeats 800000 in
theorem at_std (r : Rl) (t : Int) (hr : rightR r = true) (hs : r.dst.toList.isEmpty = true) (w : World) : Calls Tryd.prog 17 #[rlV r, .int .i64 t] w fun e w' => e = .returned (.tuple #[.int .i64 r.off, .bool false]) ∧ Below w.heap.size w w' := by
  have H0 : Hid (∀ V, Wk w V r → Calls Tryd.prog 13 #[rlV r] V fun e w' => e = .returned (.bool true) ∧ Wk w w' r) := Lib.hid fun V hV => by have := right_any r V; rw [hr] at this; exact this.mono fun _ _ ⟨he, hb⟩ => ⟨he, hV.step hb⟩
  have K0 := Lib.hid (Wk.start w r 25)
  clear hr
  obtain ⟨std, dst, off, dstOff, ⟨k1, m1, e1, d1, t1⟩, ⟨k2, m2, e2, d2, t2⟩⟩ := r
  simp only at *
  go_enter Tryd.func17, Tryd.ntmps17
  go_wp2_with (first
    | (go_at_call 13; refine (H0.out _ K0.out).mono ?_; clear H0; rintro e V0 ⟨rfl, hk⟩; have K1 := Lib.hid hk; clear hk; have a1 := K1.out.r.c1; have a2 := K1.out.r.c2)
    | fail)
  go_ret2
  exact ⟨rfl, K1.out.b⟩
set_option maxHeartbeats 1600000 in
theorem at_true (r : Rl) (t y m d : Int) (hr : rightR r = true) (hs : r.dst.toList.isEmpty = false) (b1 : dayB r.start = true) (b2 : dayB r.end_ = true) (o1 : offB r.off = true) (o2 : offB r.dstOff = true) (hR : Cv.Right y m d) (hn : Cv.num y m d = (clampT t + r.off) / 86400) (hc : (sumS (begF r) (endF r) (clampT t) y 4).2 = true) (w : World) (ht : Cv.Tab w) :
    Calls Tryd.prog 17 #[rlV r, .int .i64 t] w fun e w' => e = .returned (.tuple #[.int .i64 r.dstOff, .bool true]) ∧ Below w.heap.size w w' := by
  have H0 : Hid (∀ V, Wk w V r → Calls Tryd.prog 13 #[rlV r] V fun e w' => e = .returned (.bool true) ∧ Wk w w' r) := Lib.hid fun V hV => by have := right_any r V; rw [hr] at this; exact this.mono fun _ _ ⟨he, hb⟩ => ⟨he, hV.step hb⟩
  have H1 : Hid (∀ V, Wk w V r → Calls Tryd.prog 40 #[rlV r, .int .i64 (clampT t)] V fun e w' => e = .returned (.bool true) ∧ Wk w w' r) := Lib.hid fun V hV => by
    have := summer_at r (clampT t) y m d b1 b2 o1 o2 (clamp_bd t).1 (clamp_bd t).2 hR hn V (hV.table ht)
    rw [hc] at this
    exact this.mono fun _ _ ⟨he, hb⟩ => ⟨he, hV.step hb⟩
  have K0 := Lib.hid (Wk.start w r 25)
  have hcl : max (-10000000000) (min t 100000000000) = clampT t := rfl
  clear hr b1 b2 o1 o2 hR hn hc ht
  generalize clampT t = tc at *
  obtain ⟨std, dst, off, dstOff, ⟨k1, m1, e1, d1, t1⟩, ⟨k2, m2, e2, d2, t2⟩⟩ := r
  simp only at *
  go_enter Tryd.func17, Tryd.ntmps17
  go_wp2_with (first
    | (go_at_call 13; refine (H0.out _ K0.out).mono ?_; clear H0; rintro e V0 ⟨rfl, hk⟩; have K1 := Lib.hid hk; clear hk; have a0 := K1.out.r.c0; have a1 := K1.out.r.c1; have a2 := K1.out.r.c2; have a3 := K1.out.r.c3; have a4 := K1.out.r.c4; have a5 := K1.out.r.c5; have a6 := K1.out.r.c6; have a7 := K1.out.r.c7; have a8 := K1.out.r.c8; have a9 := K1.out.r.c9; have a10 := K1.out.r.c10; have a11 := K1.out.r.c11; have a12 := K1.out.r.c12; have a13 := K1.out.r.c13)
    | (go_at_call 40; refine (H1.out _ K1.out).mono ?_; clear H1 a0 a1 a2 a3 a4 a5 a6 a7 a8 a9 a10 a11 a12 a13; rintro e V1 ⟨rfl, hk⟩; have K2 := Lib.hid hk; clear hk; have a2 := K2.out.r.c2; have a3 := K2.out.r.c3)
    | fail)
  go_ret2
  exact ⟨rfl, K2.out.b⟩
set_option maxHeartbeats 1600000 in
theorem at_false (r : Rl) (t y m d : Int) (hr : rightR r = true) (hs : r.dst.toList.isEmpty = false) (b1 : dayB r.start = true) (b2 : dayB r.end_ = true) (o1 : offB r.off = true) (o2 : offB r.dstOff = true) (hR : Cv.Right y m d) (hn : Cv.num y m d = (clampT t + r.off) / 86400) (hc : (sumS (begF r) (endF r) (clampT t) y 4).2 = false) (w : World) (ht : Cv.Tab w) :
    Calls Tryd.prog 17 #[rlV r, .int .i64 t] w fun e w' => e = .returned (.tuple #[.int .i64 r.off, .bool false]) ∧ Below w.heap.size w w' := by
  have H0 : Hid (∀ V, Wk w V r → Calls Tryd.prog 13 #[rlV r] V fun e w' => e = .returned (.bool true) ∧ Wk w w' r) := Lib.hid fun V hV => by have := right_any r V; rw [hr] at this; exact this.mono fun _ _ ⟨he, hb⟩ => ⟨he, hV.step hb⟩
  have H1 : Hid (∀ V, Wk w V r → Calls Tryd.prog 40 #[rlV r, .int .i64 (clampT t)] V fun e w' => e = .returned (.bool false) ∧ Wk w w' r) := Lib.hid fun V hV => by
    have := summer_at r (clampT t) y m d b1 b2 o1 o2 (clamp_bd t).1 (clamp_bd t).2 hR hn V (hV.table ht)
    rw [hc] at this
    exact this.mono fun _ _ ⟨he, hb⟩ => ⟨he, hV.step hb⟩
  have K0 := Lib.hid (Wk.start w r 25)
  have hcl : max (-10000000000) (min t 100000000000) = clampT t := rfl
  clear hr b1 b2 o1 o2 hR hn hc ht
  generalize clampT t = tc at *
  obtain ⟨std, dst, off, dstOff, ⟨k1, m1, e1, d1, t1⟩, ⟨k2, m2, e2, d2, t2⟩⟩ := r
  simp only at *
  go_enter Tryd.func17, Tryd.ntmps17
  go_wp2_with (first
    | (go_at_call 13; refine (H0.out _ K0.out).mono ?_; clear H0; rintro e V0 ⟨rfl, hk⟩; have K1 := Lib.hid hk; clear hk; have a0 := K1.out.r.c0; have a1 := K1.out.r.c1; have a2 := K1.out.r.c2; have a3 := K1.out.r.c3; have a4 := K1.out.r.c4; have a5 := K1.out.r.c5; have a6 := K1.out.r.c6; have a7 := K1.out.r.c7; have a8 := K1.out.r.c8; have a9 := K1.out.r.c9; have a10 := K1.out.r.c10; have a11 := K1.out.r.c11; have a12 := K1.out.r.c12; have a13 := K1.out.r.c13)
    | (go_at_call 40; refine (H1.out _ K1.out).mono ?_; clear H1 a0 a1 a2 a3 a4 a5 a6 a7 a8 a9 a10 a11 a12 a13; rintro e V1 ⟨rfl, hk⟩; have K2 := Lib.hid hk; clear hk; have a2 := K2.out.r.c2; have a3 := K2.out.r.c3)
    | fail)
  go_ret2
  exact ⟨rfl, K2.out.b⟩
end Go.Proofs.YtkfhipkcnocokaaDoor.Fo
