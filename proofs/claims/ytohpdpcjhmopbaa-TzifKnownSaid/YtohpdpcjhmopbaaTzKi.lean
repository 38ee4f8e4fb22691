/-
  Layer 6 (tzif): a block, as the document reads it: written by gen_kf6.py out of TzKf.
-/
import Derived.Test.YtohpdpcjhmopbaaTzKf
namespace Go.Proofs.Ytohpdpcjhmopbaa.Tz
open Go.RowKit

set_option maxRecDepth 100000 in
set_option maxHeartbeats 1000000 in
theorem rblock_01 (h : Hd) (l : List Nat) (A : Option Addr) (B n c : Nat) (w : World) (hs : SB w B A n c l) (hB : B ≤ w.heap.size) (hb : ∀ b ∈ l, b < 256) (ho : HdOk h) (hm : mayB h = true) (hs0 : h.stds = 0) (hu0 : h.uts ≠ 0 ∧ h.uts = h.types) (hl : longN h 8 ≤ n) :
    Calls Try.prog 51 #[.slice A n c, hdArr h, .int .i64 8] w fun e w' => (tysOf (lettersL h 8 l) (rowsL h 8 l) = none → e = .returned (.tuple #[noZone, .bool false])) ∧ (∀ tys, tysOf (lettersL h 8 l) (rowsL h 8 l) = some tys → ∃ vt vs vi, e = .returned (.tuple #[.agg #[vt, vs, vi, .string ⟨#[]⟩], .bool (rightZ ⟨tys, timesL h 8 val8 l, indexL h 8 l, ⟨#[]⟩⟩)]) ∧ OwnT w' (w.heap.size + 3) vt tys ∧ OwnI w' (w.heap.size + 3) 2 vs (timesL h 8 val8 l) ∧ OwnI w' (w.heap.size + 3) 3 vi (indexL h 8 l)) ∧ Below w.heap.size w w' := by
  have hms := may_small hm
  have hmb := hm
  rcases hs.2.2.2 with ⟨_, e⟩ | ⟨gb, off, rfl, hgb, _⟩
  · exfalso
    have h6 : 6 * h.types ≤ longN h 8 := by unfold longN; omega
    have := hs.2.1
    omega
  unfold mayB inI at hmb
  simp only [Bool.and_eq_true, Bool.or_eq_true, decide_eq_true_eq] at hmb
  obtain ⟨⟨⟨⟨⟨⟨m1, m2⟩, m3⟩, m4, m5⟩, m6⟩, m7⟩, m8⟩ := hmb
  have HLO : Hid (∀ V, Calls Try.prog 50 #[hdArr h, .int .i64 8] V fun e w' => e = .returned (.int .i64 (longN h 8)) ∧ Below V.heap.size V w') := Lib.hid fun V => rlong_any h 8 (.inr rfl) ho V
  have K0 := Lib.hid (Rk.start (h := h) hs hB)
  obtain ⟨N, hN⟩ : ∃ N, longN h 8 = N := ⟨_, rfl⟩
  rw [hN] at HLO hl
  unfold hdArr at HLO ⊢
  obtain ⟨X, hX⟩ : ∃ X, ((w.alloc (.cells #[.int .i64 h.uts, .int .i64 h.stds, .int .i64 h.leaps, .int .i64 h.times, .int .i64 h.types, .int .i64 h.letters] 96)).alloc (.cells #[.slice none 0 0, .slice none 0 0, .slice none 0 0, .string ⟨#[]⟩] 31)).alloc (.cells #[.slice none 0 0, .slice none 0 0, .slice none 0 0, .string ⟨#[]⟩] 31) = X := ⟨_, rfl⟩
  rw [hX] at K0
  have Z0 : Hid (ZnBox X (w.heap.size + 2) (.slice none 0 0) (.slice none 0 0) (.slice none 0 0) (.string ⟨#[]⟩)) := Lib.hid (by rw [← hX]; exact ZnBox.new _ _ (by simp) _ _ _ _ _)
  have i1 : ¬ (n : Int) < (N : Int) := by omega
  have i0 : ¬ n < N := by omega
  have i9 : decide (n < N) = false := by simp; omega
  have i2 : ¬ (h.types : Int) < 1 := by omega
  have i3 : ¬ (255 : Int) < (h.types : Int) := by omega
  have i4 : ¬ (4000 : Int) < (h.times : Int) := by omega
  have i5 : ¬ (h.letters : Int) < 1 := by omega
  have i6 : ¬ (4096 : Int) < (h.letters : Int) := by omega
  have i7 : ¬ (1000 : Int) < (h.leaps : Int) := by omega
  have s1 : ((h.stds : Int) != 0) = false := by simp; omega
  have s2 : ((h.uts : Int) != 0) = true := by simp; omega
  have s2b : ((h.uts : Int) != (h.types : Int)) = false := by simp; omega
  have s2c : (h.uts != h.types) = false := by simp; omega
  have HNN : Hid (8 * h.times + 1 * h.times + 6 * h.types + h.letters + restN h 8 ≤ n) := Lib.hid (by have := long_parts h 8 l (by have := hs.1; omega); have := hs.1; omega)
  have HBB := Lib.hid hb
  have HGB : Hid (gb < w.heap.size) := Lib.hid (by omega)
  clear m1 m2 m3 m4 m5 m6 m7 m8 hm hl hN ho hs hs0 hu0 hb hgb
  obtain ⟨T, hT⟩ : ∃ T, timesL h 8 val8 l = T := ⟨_, rfl⟩
  obtain ⟨I, hI⟩ : ∃ I, indexL h 8 l = I := ⟨_, rfl⟩
  have HT : Hid (∀ k, k < h.times → T[k]? = some (val8 ((l.drop (8 * k)).take 8))) := Lib.hid fun k hk => by rw [← hT]; exact vals_at 8 val8 _ _ _ hk
  have HI : Hid (∀ (k b : Nat), k < h.times → l[8 * h.times + k]? = some b → I[k]? = some (b : Int)) := Lib.hid fun k b hk hb => by
    rw [← hI]
    unfold indexL
    rw [vals_at 1 val1 _ _ _ hk]
    unfold val1
    rw [be_one _ _ b (by rw [List.getElem?_drop, Nat.one_mul]; exact hb)]
  have HTL : Hid (T.length = h.times ∧ I.length = h.times) := Lib.hid ⟨by rw [← hT]; exact vals_len _ _ _ _, by rw [← hI]; exact vals_len _ _ _ _⟩
  obtain ⟨R, hR⟩ : ∃ R, rowsL h 8 l = R := ⟨_, rfl⟩
  obtain ⟨L, hL⟩ : ∃ L, lettersL h 8 l = L := ⟨_, rfl⟩
  have HRK : Hid (∀ (k a d p : Nat), k < h.types → 9 * h.times + 6 * k = a → l[a + 4]? = some d → l[a + 5]? = some p → R[k]? = some ⟨val4 ((l.drop a).take 4), d, p⟩) := Lib.hid fun k a d p hk ha hd hp => by
    rw [← hR]
    unfold rowsL
    rw [rws_at _ _ _ hk, List.drop_drop, List.drop_drop, show 8 * h.times + (1 * h.times + 6 * k) = a by omega]
    unfold rwOf rowOff rowDst rowPlace
    rw [List.drop_drop, List.drop_drop, be_one _ _ d hd, be_one _ _ p hp]
    rfl
  have HRL : Hid (R.length = h.types) := Lib.hid (by rw [← hR]; exact rws_len _ _)
  obtain ⟨nm, hnm⟩ : ∃ nm, 9 * h.times + 6 * h.types = nm := ⟨_, rfl⟩
  have HLQ : Hid ((l.drop nm).take h.letters = L) := Lib.hid (by rw [← hL]; unfold lettersL; rw [List.drop_drop, List.drop_drop, show 8 * h.times + (1 * h.times + 6 * h.types) = nm by omega])
  have HNM := Lib.hid hnm
  rw [hT, hI, hR, hL]
  clear hT hI hR hL hnm
  go_enter Try.func51, Try.ntmps51
  have q0 := K0.out.d0
  have q1 := K0.out.d1
  have q2 := K0.out.d2
  have q3 := K0.out.d3
  have q4 := K0.out.d4
  have q5 := K0.out.d5
  go_wp2_with (first
    | (go_at_call 50; refine (HLO.out _).mono ?_; clear HLO; rintro e V1 ⟨rfl, hb⟩; have K1 := Lib.hid (K0.out.step hb (by have := K0.out.sz; omega)); have Z1 := Lib.hid (Z0.out.below hb Z0.out.lt); clear hb q0 q1 q2 q3 q4 q5 hX; have q0 := K1.out.d0; have q1 := K1.out.d1; have q2 := K1.out.d2; have q3 := K1.out.d3; have q4 := K1.out.d4; have q5 := K1.out.d5)
    | fail)
  have K1S := K1.out.sz
  go_loopw [9] (fun i wr => ∃ (k : Nat) (A1 : Option Addr) (c1 : Nat) (A2 : Option Addr) (c2 : Nat), k ≤ h.times ∧ i = .int .i64 k ∧ ZnBox wr (w.heap.size + 2) (.slice none 0 0) (.slice A1 k c1) (.slice A2 k c2) (.string ⟨#[]⟩) ∧ OwnI wr (w.heap.size + 3) 2 (.slice A1 k c1) (T.take k) ∧ OwnI wr (w.heap.size + 3) 3 (.slice A2 k c2) (I.take k) ∧ Apart (.slice A1 k c1) (.slice A2 k c2) ∧ Below (w.heap.size + 2) V1 wr) (fun i _ => h.times - (intOf i).toNat)
  case atStart => exact ⟨0, none, 0, none, 0, Nat.zero_le _, rfl, Z1.out, World.ownsRow_nil _ _ _ _, World.ownsRow_nil _ _ _ _, .inl rfl, Below.refl _ _⟩
  case round =>
    obtain ⟨k, A1, c1, A2, c2, hk, rfl, hz, ho1, ho2, hap, hbw⟩ := hrel
    have HZ := Lib.hid hz; have HO1 := Lib.hid ho1; have HO2 := Lib.hid ho2; have HAP := Lib.hid hap; have HBW := Lib.hid hbw
    have KW := Lib.hid (K1.out.step hbw (Nat.le_refl _))
    clear q0 q1 q2 q3 q4 q5 hz ho1 ho2 hap hbw
    have q3 := KW.out.d3
    by_cases hlt : k < h.times
    · have hk0 : (0 : Int) ≤ (k : Int) := by omega
      have hk1 : (k : Int) < (h.times : Int) := by omega
      have hk2 : (h.times : Int) ≤ 4000 := by omega
      have p1 := HZ.out.c1
      obtain ⟨q, hq⟩ : ∃ q, 8 * k = q := ⟨_, rfl⟩
      have e1 : (8 : Int) * (k : Int) = (q : Int) := by omega
      have e2 : IntKind.i64.wrap (q : Int) = (q : Int) := IntWalk.i64_in _ (by omega)
      have HSG : Hid (∀ V, Rk w V B (some ⟨gb, off, none⟩) n c l h → Calls Try.prog 63 #[.slice (some ⟨gb, off, none⟩) n c, .int .i64 q, .int .i64 8] V fun e w' => e = .returned (.int .i64 (val8 ((l.drop q).take 8))) ∧ V = w') := Lib.hid fun V hV => signed_8 l _ B n c q V hV.sb (by have := HNN.out; omega) HBB.out
      have HTK := Lib.hid (HT.out k hlt)
      rw [hq] at HTK
      obtain ⟨x, hx⟩ : ∃ x, val8 ((l.drop q).take 8) = x := ⟨_, rfl⟩
      rw [hx] at HSG HTK
      clear hx hq
      go_wp2_with fail
      refine wp_region_mix (fun z' => z'.cell? ⟨w.heap.size + 2, 1, none⟩ = some (.slice A1 k c1)) [true, true, true, true, true, true, true, false, false, false, true] _ (by kernel_rfl) rfl (by kernel_rfl) p1 ?_
      dsimp only [List.dropLast, List.zip, List.zipWith, List.getLast]
      repeat (apply wpMix_free
              · intro z' hz
                try dsimp only at hz
                go_simp
                all_goals with_reducible rfl
              simp only [Act.put, List.setIfInBounds_toArray, List.set_cons_zero, List.set_cons_succ])
      refine wpMix_turn (fun K hK => ?_)
      have HK := Lib.hid hK; clear hK
      go_simp
      refine (HSG.out _ (KW.out.step (C := wr.heap.size) ((Below.refl wr.heap.size wr).drew) (by have := KW.out.sz; omega))).mono ?_
      clear HSG
      rintro e u1 ⟨rfl, rfl⟩
      refine HK.out _ _ p1 ?_
      clear HK
      try simp only [Act.put, List.setIfInBounds_toArray, List.set_cons_zero, List.set_cons_succ]
      refine wpMix_turn (fun K hK => ?_)
      have HK := Lib.hid hK; clear hK
      go_simp
      refine HK.out _ _ (cell_old wr.drew _ _ _ _ HZ.out.lt p1) ?_
      clear HK
      try simp only [Act.put, List.setIfInBounds_toArray, List.set_cons_zero, List.set_cons_succ]
      refine wpMix_turn (fun K hK => ?_)
      have HK := Lib.hid hK; clear hK
      have ho1 : OwnI (wr.drew.alloc (.cells #[.int .i64 x] 2)) (w.heap.size + 3) 2 (.slice A1 k c1) (T.take k) := (show OwnI wr.drew _ _ _ _ from HO1.out).alloc _
      have ho2 : OwnI (wr.drew.alloc (.cells #[.int .i64 x] 2)) (w.heap.size + 3) 3 (.slice A2 k c2) (I.take k) := (show OwnI wr.drew _ _ _ _ from HO2.out).alloc _
      refine wp_append_int (.tmp 84) (.tmp 91) 23 2 Try.underlying23 i64_info rfl (w.heap.size + 3) (k + 1) _ (T.take k) x wr.heap.size rfl rfl ho1 (cell_new wr.drew _ _ _ 0 _ rfl rfl) (by rw [List.length_take]; omega) (by have := KW.out.sz; simp; omega) (by rw [List.length_take, HTL.out.1]; omega) ?_
      intro A3 c3 W3 hO hG
      have B3 : Hid (Below (w.heap.size + 3) wr W3) := Lib.hid ((((Below.refl (w.heap.size + 3) wr).drew).alloc (by have := KW.out.sz; show _ ≤ wr.heap.size; omega) _).trans (growI_below ho1 hG (Nat.le_refl _) (by have := KW.out.sz; simp; omega)))
      have ZA := Lib.hid (HZ.out.below B3.out (Nat.lt_succ_self _))
      have OA1 := Lib.hid hO
      have OA2 := Lib.hid (ho2.beside hG HAP.out.symm)
      have APA := Lib.hid (ho2.apart hG HAP.out.symm)
      refine HK.out _ _ ZA.out.c1 ?_
      clear HK ho1 ho2 hO hG p1
      have p1 := ZA.out.c1
      have f1 := ZA.out.fr 1
      try simp only [Act.put, List.setIfInBounds_toArray, List.set_cons_zero, List.set_cons_succ]
      repeat (apply wpMix_free
              · intro z' hz
                try dsimp only at hz
                go_simp
                all_goals with_reducible rfl
              simp only [Act.put, List.setIfInBounds_toArray, List.set_cons_zero, List.set_cons_succ])
      refine wpMix_end ?_
      go_simp
      go_wp2_with fail
      have KW4 := Lib.hid (KW.out.step (((B3.out.mono (Nat.le_succ _)).setCell (p := ⟨w.heap.size + 2, 1, none⟩) (Nat.le_refl _) (.slice A3 (k + 1) c3))) (Nat.le_refl _))
      have BW4 := Lib.hid (HBW.out.trans ((B3.out.mono (Nat.le_succ _)).setCell (p := ⟨w.heap.size + 2, 1, none⟩) (Nat.le_refl _) (.slice A3 (k + 1) c3)))
      have ZB := Lib.hid (ZA.out.set1 (.slice A3 (k + 1) c3))
      have OB1 := Lib.hid (OA1.out.set (Nat.lt_succ_self _) 1 (.slice A3 (k + 1) c3))
      have OB2 := Lib.hid (OA2.out.set (Nat.lt_succ_self _) 1 (.slice A3 (k + 1) c3))
      obtain ⟨W4, hW4⟩ : ∃ W4, W3.setCell ⟨w.heap.size + 2, 1, none⟩ (.slice A3 (k + 1) c3) = W4 := ⟨_, rfl⟩
      rw [hW4] at KW4 BW4 ZB OB1 OB2 ⊢
      clear hW4 p1 f1 q3 OA1 OA2 ZA B3
      obtain ⟨r0, hr0⟩ : ∃ r0, 8 * h.times = r0 := ⟨_, rfl⟩
      obtain ⟨r, hr⟩ : ∃ r, r0 + k = r := ⟨_, rfl⟩
      have e3 : (8 : Int) * (h.times : Int) = (r0 : Int) := by omega
      have e4 : IntKind.i64.wrap (r0 : Int) = (r0 : Int) := IntWalk.i64_in _ (by omega)
      have e5 : (r0 : Int) + (k : Int) = (r : Int) := by omega
      have e6 : IntKind.i64.wrap (r : Int) = (r : Int) := IntWalk.i64_in _ (by omega)
      have e7 : (r : Int) < (n : Int) := by have := HNN.out; omega
      have e8 : (0 : Int) ≤ (r : Int) := by omega
      obtain ⟨b, hb⟩ : ∃ b, l[r]? = some b := ⟨_, List.getElem?_eq_getElem (by have := KW4.out.sb.1; omega)⟩
      have HIK := Lib.hid (HI.out k b hlt (by rw [hr0, hr]; exact hb))
      have p2 := ZB.out.c2
      have q3 := KW4.out.d3
      have y0 : W4.cell? ⟨gb, off + r, none⟩ = some (.int .u8 b) := KW4.out.sb.cells r b hb
      have hy : gb < W4.heap.size := by have := KW4.out.sz; have := HGB.out; omega
      have hb1 : (0 : Int) ≤ (b : Int) := by omega
      have hb2 : (b : Int) < 256 := by have := HBB.out b (List.mem_of_getElem? hb); omega
      have e9 : IntKind.i64.wrap (b : Int) = (b : Int) := IntWalk.i64_in _ (by omega)
      clear hb hr0 hr
      refine wp_region_mix (fun z' => z'.cell? ⟨w.heap.size + 2, 2, none⟩ = some (.slice A2 k c2) ∧ z'.cell? ⟨w.heap.size, 3, none⟩ = some (.int .i64 h.times) ∧ z'.cell? ⟨gb, off + r, none⟩ = some (.int .u8 b)) [true, true, true, true, true, true, true, true, true, true, true, true, false, false, true] _ (by kernel_rfl) rfl (by kernel_rfl) ⟨p2, q3, y0⟩ ?_
      dsimp only [List.dropLast, List.zip, List.zipWith, List.getLast]
      repeat (apply wpMix_free
              · intro z' hz
                try dsimp only at hz
                go_simp
                all_goals with_reducible rfl
              simp only [Act.put, List.setIfInBounds_toArray, List.set_cons_zero, List.set_cons_succ])
      refine wpMix_turn (fun K hK => ?_)
      have HK := Lib.hid hK; clear hK
      go_simp
      refine HK.out _ _ ⟨cell_old W4.drew _ _ _ _ ZB.out.lt p2, cell_old W4.drew _ _ _ _ (by have := KW4.out.sz; show w.heap.size < W4.heap.size; omega) q3, cell_old W4.drew _ _ _ _ hy y0⟩ ?_
      clear HK
      try simp only [Act.put, List.setIfInBounds_toArray, List.set_cons_zero, List.set_cons_succ]
      refine wpMix_turn (fun K hK => ?_)
      have HK := Lib.hid hK; clear hK
      have ho1 : OwnI (W4.drew.alloc (.cells #[.int .i64 b] 3)) (w.heap.size + 3) 2 (.slice A3 (k + 1) c3) (T.take k ++ [x]) := (show OwnI W4.drew _ _ _ _ from OB1.out).alloc _
      have ho2 : OwnI (W4.drew.alloc (.cells #[.int .i64 b] 3)) (w.heap.size + 3) 3 (.slice A2 k c2) (I.take k) := (show OwnI W4.drew _ _ _ _ from OB2.out).alloc _
      refine wp_append_int (.tmp 95) (.tmp 106) 24 3 Try.underlying24 int_info rfl (w.heap.size + 3) (k + 1) _ (I.take k) b W4.heap.size rfl rfl ho2 (cell_new W4.drew _ _ _ 0 _ rfl rfl) (by rw [List.length_take]; omega) (by have := KW4.out.sz; simp; omega) (by rw [List.length_take, HTL.out.2]; omega) ?_
      intro A5 c5 W5 hO hG
      have B5 : Hid (Below (w.heap.size + 3) W4 W5) := Lib.hid ((((Below.refl (w.heap.size + 3) W4).drew).alloc (by have := KW4.out.sz; show _ ≤ W4.heap.size; omega) _).trans (growI_below ho2 hG (Nat.le_refl _) (by have := KW4.out.sz; simp; omega)))
      have ZC := Lib.hid (ZB.out.below B5.out (Nat.lt_succ_self _))
      have OC2 := Lib.hid hO
      have OC1 := Lib.hid (ho1.beside hG APA.out.symm)
      have APC := Lib.hid (ho1.apart hG APA.out.symm)
      have hq5 := cells_at w.heap.size B5.out (by omega) q3
      have hy5 := cells_at gb B5.out (by have := HGB.out; omega) y0
      refine HK.out _ _ ⟨ZC.out.c2, hq5, hy5⟩ ?_
      clear HK ho1 ho2 hO hG p2 q3 y0 hq5 hy5
      have p2 := ZC.out.c2
      have f2 := ZC.out.fr 2
      try simp only [Act.put, List.setIfInBounds_toArray, List.set_cons_zero, List.set_cons_succ]
      repeat (apply wpMix_free
              · intro z' hz
                try dsimp only at hz
                go_simp
                all_goals with_reducible rfl
              simp only [Act.put, List.setIfInBounds_toArray, List.set_cons_zero, List.set_cons_succ])
      refine wpMix_end ?_
      go_simp
      go_wp2_with fail
      refine ⟨⟨k + 1, A3, c3, A5, c5, hlt, by go_num, ZC.out.set2 _, by rw [take_one HTK.out]; exact OC1.out.set (Nat.lt_succ_self _) 2 _, by rw [take_one HIK.out]; exact OC2.out.set (Nat.lt_succ_self _) 2 _, APC.out, BW4.out.trans ((B5.out.mono (Nat.le_succ _)).setCell (p := ⟨w.heap.size + 2, 2, none⟩) (Nat.le_refl _) _)⟩, by simp [intOf]; omega⟩
    · have hk1 : ¬ (k : Int) < (h.times : Int) := by omega
      obtain rfl : k = h.times := by omega
      have e0 : T.take h.times = T := List.take_of_length_le (by rw [HTL.out.1]; exact Nat.le_refl _)
      have e1 : I.take h.times = I := List.take_of_length_le (by rw [HTL.out.2]; exact Nat.le_refl _)
      rw [e0] at HO1
      rw [e1] at HO2
      clear e0 e1
      have q4 := KW.out.d4
      have q5 := KW.out.d5
      obtain ⟨ty, hty⟩ : ∃ ty, 9 * h.times = ty := ⟨_, rfl⟩
      obtain ⟨s6, hs6⟩ : ∃ s6, 6 * h.types = s6 := ⟨_, rfl⟩
      obtain ⟨ne, hne⟩ : ∃ ne, nm + h.letters = ne := ⟨_, rfl⟩
      have g1 : (9 : Int) * (h.times : Int) = (ty : Int) := by omega
      have g2 : (6 : Int) * (h.types : Int) = (s6 : Int) := by omega
      have g3 : (ty : Int) + (s6 : Int) = (nm : Int) := by have := HNM.out; omega
      have g4 : (nm : Int) + (h.letters : Int) = (ne : Int) := by omega
      have g5 : (ne : Int) ≤ (c : Int) := by have := HNM.out; have := HNN.out; have := KW.out.sb.2.1; omega
      have g6 : (nm : Int) ≤ (ne : Int) := by omega
      have g7 : ne - nm = h.letters := by omega
      have g8 : ¬ c - nm = 0 := by omega
      have g9 : (0 : Int) ≤ (nm : Int) := by omega
      have j1 : (ty : Int) ≤ 100000 := by omega
      have j2 : (s6 : Int) ≤ 100000 := by omega
      have j3 : (ne : Int) ≤ 200000 := by have := HNM.out; omega
      have j4 : (h.letters : Int) ≤ 4096 := by omega
      have j5 : (0 : Int) ≤ (h.letters : Int) := by omega
      have j6 : (h.times : Int) ≤ 4000 := by omega
      have j7 : (0 : Int) ≤ (h.times : Int) := by omega
      have j8 : (h.types : Int) ≤ 255 := by omega
      have j9 : (0 : Int) ≤ (h.types : Int) := by omega
      have HTY := Lib.hid hty
      clear hty hs6 hne
      go_wp2_with fail
      obtain ⟨U, rfl⟩ : ∃ U, U = wr := ⟨_, rfl⟩
      go_loopw [12] (fun i wx => ∃ (k : Nat) (A3 : Option Addr) (c3 : Nat) (ts : List Ty), k ≤ h.types ∧ i = .int .i64 k ∧ ts.length = k ∧ tysOf L (R.take k) = some ts ∧ ZnBox wx (w.heap.size + 2) (.slice A3 k c3) (.slice A1 h.times c1) (.slice A2 h.times c2) (.string ⟨#[]⟩) ∧ OwnT wx U.heap.size (.slice A3 k c3) ts ∧ U.grownBy wx (some (w.heap.size + 2))) (fun i _ => h.types - (intOf i).toNat)
      case atStart => exact ⟨0, none, 0, [], Nat.zero_le _, rfl, rfl, rfl, HZ.out, World.ownsRow_nil _ _ _ _, World.grownBy.refl _ _⟩
      case round =>
        obtain ⟨k, A3, c3, ts, hk, rfl, hts, htk, hzb, hot, hgr⟩ := hrel
        have HTS := Lib.hid hts; have HTK := Lib.hid htk; have HZB := Lib.hid hzb; have HOT := Lib.hid hot; have HGR := Lib.hid hgr
        have KX := Lib.hid (KW.out.step (below_of_gb hgr (C := w.heap.size + 2) (Nat.le_refl _) (by have := KW.out.sz; omega)) (Nat.le_refl _))
        clear hts htk hzb hot hgr q3 q4 q5
        have q4 := KX.out.d4
        by_cases hlt : k < h.types
        · have hk0 : (0 : Int) ≤ (k : Int) := by omega
          have hk1 : (k : Int) < (h.types : Int) := by omega
          obtain ⟨a, ha⟩ : ∃ a, ty + 6 * k = a := ⟨_, rfl⟩
          have hal : a + 6 ≤ n := by have := HNN.out; have := HTY.out; omega
          obtain ⟨d, hd⟩ : ∃ d, l[a + 4]? = some d := ⟨_, List.getElem?_eq_getElem (by have := KX.out.sb.1; omega)⟩
          obtain ⟨p, hp⟩ : ∃ p, l[a + 5]? = some p := ⟨_, List.getElem?_eq_getElem (by have := KX.out.sb.1; omega)⟩
          have hrk := HRK.out k a d p hlt (by have := HTY.out; omega) hd hp
          obtain ⟨a4, ha4⟩ : ∃ a4, a + 4 = a4 := ⟨_, rfl⟩
          obtain ⟨a5, ha5⟩ : ∃ a5, a + 5 = a5 := ⟨_, rfl⟩
          rw [ha4] at hd
          rw [ha5] at hp
          have y4 : wr.cell? ⟨gb, off + a4, none⟩ = some (.int .u8 d) := KX.out.sb.cells _ _ hd
          have y5 : wr.cell? ⟨gb, off + a5, none⟩ = some (.int .u8 p) := KX.out.sb.cells _ _ hp
          obtain ⟨k6, hk6⟩ : ∃ k6, 6 * k = k6 := ⟨_, rfl⟩
          have n1 : (6 : Int) * (k : Int) = (k6 : Int) := by omega
          have n2 : (ty : Int) + (k6 : Int) = (a : Int) := by omega
          have n3 : (a : Int) + 5 = (a5 : Int) := by omega
          have n4 : (a : Int) + 4 = (a4 : Int) := by omega
          have n5 : (a5 : Int) < (n : Int) := by omega
          have n6 : (a4 : Int) < (n : Int) := by omega
          have n7 : (0 : Int) ≤ (a4 : Int) := by omega
          have n8 : (0 : Int) ≤ (a5 : Int) := by omega
          have n9 : (a : Int) ≤ 100000 := by have := HNM.out; omega
          have m1 : (k6 : Int) ≤ 100000 := by omega
          have m2 : IntKind.i64.wrap (a4 : Int) = (a4 : Int) := IntWalk.i64_in _ (by omega)
          have d1 : (0 : Int) ≤ (d : Int) := by omega
          have d2 : (d : Int) < 256 := by have := HBB.out d (List.mem_of_getElem? hd); omega
          have p1 : (0 : Int) ≤ (p : Int) := by omega
          have p2 : (p : Int) < 256 := by have := HBB.out p (List.mem_of_getElem? hp); omega
          have HRR := Lib.hid hrk
          have HSL : Hid (∀ V, Rk w V B (some ⟨gb, off, none⟩) n c l h → Calls Try.prog 64 #[.slice (some ⟨gb, off + nm, none⟩) h.letters (c - nm), .int .i64 p] V fun e w' => LetP L p e ∧ V = w') := Lib.hid fun V hV => by
            have := (hV.sb.drop (k := nm) (by have := HNN.out; have := HNM.out; omega)).take (k := h.letters) (by have := HNN.out; have := HNM.out; omega)
            rw [HLQ.out] at this
            exact rletters_any p L B _ _ _ V this (by omega)
          have HSG : Hid (∀ V, Rk w V B (some ⟨gb, off, none⟩) n c l h → Calls Try.prog 63 #[.slice (some ⟨gb, off, none⟩) n c, .int .i64 a, .int .i64 4] V fun e w' => e = .returned (.int .i64 (val4 ((l.drop a).take 4))) ∧ V = w') := Lib.hid fun V hV => signed_4 l _ B n c a V hV.sb (by omega) HBB.out
          obtain ⟨x, hx⟩ : ∃ x, val4 ((l.drop a).take 4) = x := ⟨_, rfl⟩
          rw [hx] at HSG HRR
          clear hx hd hp hrk ha ha4 ha5 hk6 hal
          cases hlv : lettersV L p with
          | none =>
            have HNO : Hid (tysOf L R = none) := Lib.hid (tysOf_none HRR.out (by unfold tyOf; simp [hlv]))
            have HLV := Lib.hid hlv
            have k0 := KX.out.rb.c0
            have k1 := KX.out.rb.c1
            have k2 := KX.out.rb.c2
            have k3 := KX.out.rb.c3
            have f0 := KX.out.rb.fr 0
            have f1 := KX.out.rb.fr 1
            have f2 := KX.out.rb.fr 2
            have f3 := KX.out.rb.fr 3
            have HS1 := KX.out.rb.lt
            clear hlv
            go_wp2_with (first
              | (go_at_call 64; refine (HSL.out _ KX.out).mono ?_; clear HSL; rintro e V ⟨⟨S', ok, rfl, hok, hSS⟩, rfl⟩; rw [HLV.out] at hok; have hok2 : ok = false := hok; subst hok2; clear hok hSS)
              | fail)
            exact bodyPost_ret (v := .tuple #[noZone, .bool false]) (by simp [results, Try.results51, go_sem, noZone, k0, k1, k2, k3]) rfl ⟨fun _ => rfl, fun tys ht => (by rw [HNO.out] at ht; cases ht), KX.out.bl.trans (((((Below.refl w.heap.size wr).setCell (Nat.le_succ _) _).setCell (Nat.le_succ _) _).setCell (Nat.le_succ _) _).setCell (Nat.le_succ _) _)⟩
          | some tx =>
            by_cases hdd : d ≤ 1
            · obtain ⟨S, hS⟩ : ∃ S, strOfNums (natsI tx) = S := ⟨_, rfl⟩
              obtain ⟨bl, hbl⟩ : ∃ bl, decide ((d : Int) = 1) = bl := ⟨_, rfl⟩
              have HTY2 : Hid (tyOf L ⟨x, d, p⟩ = some ⟨x, bl, S⟩) := Lib.hid (by unfold tyOf; simp only; rw [if_pos (by omega), Int.toNat_natCast, hlv, hbl, ← hS]; rfl)
              have hbl2 : ((d : Int) == 1) = bl := by rw [← hbl]; rfl
              have hd1 : ¬ (1 : Int) < (d : Int) := by omega
              have HLV := Lib.hid hlv
              have HSS := Lib.hid hS
              clear hlv hS hdd
              go_wp2_with (first
                | (go_at_call 64; refine (HSL.out _ KX.out).mono ?_; clear HSL; rintro e V ⟨⟨S', ok, rfl, hok, hSS⟩, rfl⟩; rw [HLV.out] at hok; have hok2 : ok = true := hok; subst hok2; have hS2 : S' = S := ((hSS tx HLV.out).trans HSS.out); subst hS2; clear hok hSS)
                | fail)
              have z0 := HZB.out.c0
              refine wp_region_perm (fun z' => z'.cell? ⟨w.heap.size + 2, 0, none⟩ = some (.slice A3 k c3) ∧ z'.cell? ⟨gb, off + a4, none⟩ = some (.int .u8 d)) [(0, true), (1, true), (2, true), (3, true), (5, true), (6, true), (7, true), (8, true), (9, true), (10, true), (11, true), (4, false), (12, true), (13, false), (14, false), (15, true)] _ (by kernel_rfl) rfl (by kernel_rfl) rfl ⟨z0, y4⟩ ?_
              simp only [permL, List.dropLast, List.getElem?_cons_zero, List.getElem?_cons_succ, List.getLast]
              repeat (apply wpMix_free
                      · intro z' hz
                        try dsimp only at hz
                        go_simp
                        all_goals with_reducible rfl
                      simp only [Act.put, List.setIfInBounds_toArray, List.set_cons_zero, List.set_cons_succ])
              refine wpMix_turn (fun K hK => ?_)
              have HK := Lib.hid hK; clear hK
              go_simp
              refine (HSG.out _ (KX.out.step (C := wr.heap.size) ((Below.refl wr.heap.size wr).drew) (by have := KX.out.sz; omega))).mono ?_
              clear HSG
              rintro e u1 ⟨rfl, rfl⟩
              refine HK.out _ _ ⟨z0, y4⟩ ?_
              clear HK
              try simp only [Act.put, List.setIfInBounds_toArray, List.set_cons_zero, List.set_cons_succ]
              repeat (apply wpMix_free
                      · intro z' hz
                        try dsimp only at hz
                        go_simp
                        all_goals with_reducible rfl
                      simp only [Act.put, List.setIfInBounds_toArray, List.set_cons_zero, List.set_cons_succ])
              refine wpMix_turn (fun K hK => ?_)
              have HK := Lib.hid hK; clear hK
              go_simp
              refine HK.out _ _ ⟨cell_old wr _ _ _ _ HZB.out.lt z0, cell_old wr _ _ _ _ (by have := KX.out.sz; have := HGB.out; omega) y4⟩ ?_
              clear HK
              try simp only [Act.put, List.setIfInBounds_toArray, List.set_cons_zero, List.set_cons_succ]
              refine wpMix_turn (fun K hK => ?_)
              have HK := Lib.hid hK; clear hK
              have ho : OwnT (wr.alloc (.cells #[.int .i64 x, .bool bl, .string S'] 56)).drew U.heap.size (.slice A3 k c3) ts := (show OwnT (wr.alloc (.cells #[.int .i64 x, .bool bl, .string S'] 56)) _ _ _ from HOT.out.alloc _)
              refine wp_append_rt (.tmp 162) (.tmp 174) rfl U.heap.size (k + 1) _ ts ⟨x, bl, S'⟩ wr.heap.size rfl rfl ho (three_cells wr ⟨x, bl, S'⟩ _ _ rfl) (by rw [HTS.out]; omega) (by have := HGR.out.size; show U.heap.size ≤ (wr.alloc _).heap.size; simp; omega) (by rw [HTS.out]) ?_
              intro A5 c5 W5 hO hG
              have B5 : Hid (Below U.heap.size wr W5) := Lib.hid ((((Below.refl U.heap.size wr).alloc HGR.out.size _).drew).trans (growT_below ho hG (Nat.le_refl _) (by have := HGR.out.size; show U.heap.size ≤ (wr.alloc _).heap.size; simp; omega)))
              have hPU : w.heap.size + 2 < U.heap.size := KW.out.sz
              have ZC := Lib.hid (HZB.out.below B5.out hPU)
              have OC := Lib.hid hO
              have hy5 := cells_at gb B5.out (by have := HGB.out; omega) y4
              refine HK.out _ _ ⟨ZC.out.c0, hy5⟩ ?_
              clear HK ho hO hG z0 y4 hy5
              have z0 := ZC.out.c0
              have f0 := ZC.out.fr 0
              try simp only [Act.put, List.setIfInBounds_toArray, List.set_cons_zero, List.set_cons_succ]
              repeat (apply wpMix_free
                      · intro z' hz
                        try dsimp only at hz
                        go_simp
                        all_goals with_reducible rfl
                      simp only [Act.put, List.setIfInBounds_toArray, List.set_cons_zero, List.set_cons_succ])
              refine wpMix_end ?_
              go_simp
              go_wp2_with fail
              refine ⟨⟨k + 1, A5, c5, ts ++ [⟨x, bl, S'⟩], hlt, by go_num, by rw [List.length_append, HTS.out]; rfl, by rw [take_one HRR.out]; exact tysOf_snoc HTK.out HTY2.out, ZC.out.set0 _, OC.out.set hPU 0 _, (gb_below HGR.out B5.out).trans (grown_set W5 (w.heap.size + 2) 0 _)⟩, by simp [intOf]; omega⟩
            · have HNO : Hid (tysOf L R = none) := Lib.hid (tysOf_none HRR.out (by unfold tyOf; simp; intro h1; omega))
              have hd1 : (1 : Int) < (d : Int) := by omega
              have HLV := Lib.hid hlv
              have k0 := KX.out.rb.c0
              have k1 := KX.out.rb.c1
              have k2 := KX.out.rb.c2
              have k3 := KX.out.rb.c3
              have f0 := KX.out.rb.fr 0
              have f1 := KX.out.rb.fr 1
              have f2 := KX.out.rb.fr 2
              have f3 := KX.out.rb.fr 3
              have HS1 := KX.out.rb.lt
              clear hlv hdd
              go_wp2_with (first
                | (go_at_call 64; refine (HSL.out _ KX.out).mono ?_; clear HSL; rintro e V ⟨⟨S', ok, rfl, hok, hSS⟩, rfl⟩; rw [HLV.out] at hok; have hok2 : ok = true := hok; subst hok2; clear hok hSS)
                | fail)
              exact bodyPost_ret (v := .tuple #[noZone, .bool false]) (by simp [results, Try.results51, go_sem, noZone, k0, k1, k2, k3]) rfl ⟨fun _ => rfl, fun tys ht => (by rw [HNO.out] at ht; cases ht), KX.out.bl.trans (((((Below.refl w.heap.size wr).setCell (Nat.le_succ _) _).setCell (Nat.le_succ _) _).setCell (Nat.le_succ _) _).setCell (Nat.le_succ _) _)⟩
        · have hk1 : ¬ (k : Int) < (h.types : Int) := by omega
          obtain rfl : k = h.types := by omega
          have htl : tysOf L R = some ts := by have := HTK.out; rwa [List.take_of_length_le (by rw [HRL.out]; exact Nat.le_refl _)] at this
          have HTL2 := Lib.hid htl
          have HLL : Hid (L.length ≤ 4096) := Lib.hid (by rw [← HLQ.out, List.length_take]; omega)
          have hok : ZnOk ⟨ts, T, I, ⟨#[]⟩⟩ := ⟨by show ts.length ≤ _; rw [HTS.out]; omega, by show T.length ≤ _; rw [HTL.out.1]; omega, by show I.length ≤ _; rw [HTL.out.2]; omega, fun t ht => by have := (tysOf_small htl).2 t ht; have := HLL.out; omega, by show (0 : Nat) ≤ _; omega⟩
          have HRT : Hid (∀ V vt vs vi, ZnAt V V.heap.size ⟨ts, T, I, ⟨#[]⟩⟩ vt vs vi → Calls Try.prog 12 #[.agg #[vt, vs, vi, .string ⟨#[]⟩]] V fun e w' => e = .returned (.bool (rightZ ⟨ts, T, I, ⟨#[]⟩⟩)) ∧ Below V.heap.size V w') := Lib.hid fun V vt vs vi hv => rright_any _ vt vs vi _ V hv hok (Nat.le_refl _)
          obtain ⟨rz, hrz⟩ : ∃ rz, rightZ ⟨ts, T, I, ⟨#[]⟩⟩ = rz := ⟨_, rfl⟩
          have HRZ := Lib.hid hrz
          rw [hrz] at HRT
          have OX1 : Hid (OwnI wr (w.heap.size + 3) 2 (.slice A1 h.times c1) T) := Lib.hid (HO1.out.other HGR.out (Nat.lt_succ_self _))
          have OX2 : Hid (OwnI wr (w.heap.size + 3) 3 (.slice A2 h.times c2) I) := Lib.hid (HO2.out.other HGR.out (Nat.lt_succ_self _))
          have z0 := HZB.out.c0
          have z1 := HZB.out.c1
          have z2 := HZB.out.c2
          have z3 := HZB.out.c3
          clear htl hok hrz
          go_wp2_with fail
          refine wp_region_mix (fun z' => z'.cell? ⟨w.heap.size + 2, 0, none⟩ = some (.slice A3 h.types c3) ∧ z'.cell? ⟨w.heap.size + 2, 1, none⟩ = some (.slice A1 h.times c1) ∧ z'.cell? ⟨w.heap.size + 2, 2, none⟩ = some (.slice A2 h.times c2) ∧ z'.cell? ⟨w.heap.size + 2, 3, none⟩ = some (.string ⟨#[]⟩)) [true, true, false, false] _ (by kernel_rfl) rfl (by kernel_rfl) ⟨z0, z1, z2, z3⟩ ?_
          dsimp only [List.dropLast, List.zip, List.zipWith, List.getLast]
          repeat (apply wpMix_free
                  · intro z' hz
                    try dsimp only at hz
                    go_simp
                    all_goals with_reducible rfl
                  simp only [Act.put, List.setIfInBounds_toArray, List.set_cons_zero, List.set_cons_succ])
          refine wpMix_turn (fun K hK => ?_)
          have HK := Lib.hid hK; clear hK
          go_simp
          have hts := HTS.out
          have hza : ZnAt wr.drew wr.drew.heap.size ⟨ts, T, I, ⟨#[]⟩⟩ (.slice A3 h.types c3) (.slice A1 h.times c1) (.slice A2 h.times c2) := ⟨(show OwnT wr.drew _ _ _ from HOT.out).sl (Nat.le_refl _), (show OwnI wr.drew _ _ _ _ from OX1.out).sl (Nat.le_refl _), (show OwnI wr.drew _ _ _ _ from OX2.out).sl (Nat.le_refl _)⟩
          refine (HRT.out wr.drew _ _ _ hza).mono ?_
          clear HRT hza hts
          rintro e V ⟨rfl, hbe⟩
          have HBE : Hid (Below wr.heap.size wr V) := Lib.hid (((Below.refl wr.heap.size wr).drew).trans hbe)
          have KV := Lib.hid (KX.out.step HBE.out (by have := KX.out.sz; omega))
          have ZV := Lib.hid (HZB.out.below HBE.out HZB.out.lt)
          refine HK.out _ _ ⟨ZV.out.c0, ZV.out.c1, ZV.out.c2, ZV.out.c3⟩ ?_
          clear HK hbe z0 z1 z2 z3
          have k0 := KV.out.rb.c0
          have k1 := KV.out.rb.c1
          have k2 := KV.out.rb.c2
          have k3 := KV.out.rb.c3
          have f0 := KV.out.rb.fr 0
          have f1 := KV.out.rb.fr 1
          have f2 := KV.out.rb.fr 2
          have f3 := KV.out.rb.fr 3
          have HS1 := KV.out.rb.lt
          try simp only [Act.put, List.setIfInBounds_toArray, List.set_cons_zero, List.set_cons_succ]
          refine wpMix_turn (fun K hK => ?_)
          have HK := Lib.hid hK; clear hK
          go_simp
          have ZW := (((ZV.out.gb (grown_set V (w.heap.size + 1) 0 (.slice A3 h.types c3)) (by omega)).gb (grown_set _ (w.heap.size + 1) 1 (.slice A1 h.times c1)) (by omega)).gb (grown_set _ (w.heap.size + 1) 2 (.slice A2 h.times c2)) (by omega)).gb (grown_set _ (w.heap.size + 1) 3 (.string ⟨#[]⟩)) (by omega)
          refine HK.out _ _ ⟨ZW.c0, ZW.c1, ZW.c2, ZW.c3⟩ ?_
          clear HK ZW
          try simp only [Act.put, List.setIfInBounds_toArray, List.set_cons_zero, List.set_cons_succ]
          refine wpMix_end ?_
          go_simp
          go_wp2_with fail
          have OF : OwnT ((((V.setCell ⟨w.heap.size + 1, 0, none⟩ (.slice A3 h.types c3)).setCell ⟨w.heap.size + 1, 1, none⟩ (.slice A1 h.times c1)).setCell ⟨w.heap.size + 1, 2, none⟩ (.slice A2 h.times c2)).setCell ⟨w.heap.size + 1, 3, none⟩ (.string ⟨#[]⟩)) U.heap.size (.slice A3 h.types c3) ts := ((((HOT.out.keep HBE.out).set (by have := KW.out.sz; omega) 0 _).set (by have := KW.out.sz; omega) 1 _).set (by have := KW.out.sz; omega) 2 _).set (by have := KW.out.sz; omega) 3 _
          have OF1 : OwnI ((((V.setCell ⟨w.heap.size + 1, 0, none⟩ (.slice A3 h.types c3)).setCell ⟨w.heap.size + 1, 1, none⟩ (.slice A1 h.times c1)).setCell ⟨w.heap.size + 1, 2, none⟩ (.slice A2 h.times c2)).setCell ⟨w.heap.size + 1, 3, none⟩ (.string ⟨#[]⟩)) (w.heap.size + 3) 2 (.slice A1 h.times c1) T := ((((OX1.out.keep HBE.out).set (by omega) 0 _).set (by omega) 1 _).set (by omega) 2 _).set (by omega) 3 _
          have OF2 : OwnI ((((V.setCell ⟨w.heap.size + 1, 0, none⟩ (.slice A3 h.types c3)).setCell ⟨w.heap.size + 1, 1, none⟩ (.slice A1 h.times c1)).setCell ⟨w.heap.size + 1, 2, none⟩ (.slice A2 h.times c2)).setCell ⟨w.heap.size + 1, 3, none⟩ (.string ⟨#[]⟩)) (w.heap.size + 3) 3 (.slice A2 h.times c2) I := ((((OX2.out.keep HBE.out).set (by omega) 0 _).set (by omega) 1 _).set (by omega) 2 _).set (by omega) 3 _
          exact bodyPost_ret (v := .tuple #[.agg #[.slice A3 h.types c3, .slice A1 h.times c1, .slice A2 h.times c2, .string ⟨#[]⟩], .bool rz]) (by simp [results, Try.results51, go_sem, k0, k1, k2, k3]) rfl ⟨fun hn => (by rw [HTL2.out] at hn; cases hn), fun tys ht => (by
            have e : ts = tys := by have := HTL2.out.symm.trans ht; injection this
            subst e
            rw [HRZ.out]
            exact ⟨_, _, _, rfl, OF.lower (by have := KW.out.sz; omega), OF1, OF2⟩), KV.out.bl.trans (((((Below.refl w.heap.size V).setCell (Nat.le_succ _) _).setCell (Nat.le_succ _) _).setCell (Nat.le_succ _) _).setCell (Nat.le_succ _) _)⟩
end Go.Proofs.Ytohpdpcjhmopbaa.Tz
