/-
  What clepsydraref04.Sum answers: the hash of a row of bytes.
-/
import Derived.Test.YtgdpgpmkokjdjaaDoorSpRows
import Derived.Test.YtgdpgpmkokjdjaaDoorSpRound
import Derived.Deep.DeepCutAuto
namespace Go.Proofs.YtgdpgpmkokjdjaaDoor.Sp
open Go.RowKit

theorem Row.part {w : World} {B n c i : Nat} {ad : Addr} {bs : List Int} (h : Row w B (some ad) n bs) (hc : n ≤ c) (hi : i + 8 ≤ n) : Row w B (some (ad.add i)) 8 ((bs.drop i).take 8) := by
  have h1 := h.cut (cap := c) hc (show i ≤ n by omega)
  rw [if_neg (by omega)] at h1
  exact h1.take (by omega)
theorem feed_succ (q : Q) (bs : List Int) (j : Nat) : feed q bs (j + 1) = eat (feed q bs j) (num ((bs.drop (8 * j)).take 8)) := rfl
theorem pad_set (xs : List Int) (m : Nat) (hm : m < xs.length) (h8 : m < 8) : (xs.take m ++ List.replicate (8 - m) 0).set m (xs.getD m 0) = xs.take (m + 1) ++ List.replicate (8 - (m + 1)) 0 := by
  rw [List.set_append, if_neg (by simp; omega)]
  simp only [List.length_take, Nat.min_eq_left (Nat.le_of_lt hm), Nat.sub_self]
  rw [show 8 - m = (8 - (m + 1)) + 1 by omega, List.replicate_succ, List.set_cons_zero, List.take_succ_eq_append_getElem hm, List.append_assoc]
  simp [List.getD, List.getElem?_eq_getElem hm]
theorem pad_last (xs : List Int) (c : Int) (h : xs.length ≤ 7) : (xs ++ List.replicate (8 - xs.length) 0).set 7 c = (xs ++ List.replicate 8 0).take 7 ++ [c] := by
  match xs, h with
  | [], _ => rfl
  | [_], _ => rfl
  | [_, _], _ => rfl
  | [_, _, _], _ => rfl
  | [_, _, _, _], _ => rfl
  | [_, _, _, _, _], _ => rfl
  | [_, _, _, _, _, _], _ => rfl
  | [_, _, _, _, _, _, _], _ => rfl

set_option maxHeartbeats 4000000 in
set_option maxRecDepth 100000 in
theorem rsum_any (B n c : Nat) (A : Option Addr) (k bs : List Int) (v : Int) (w : World) (hk : k.length = 16) (hkb : Bytes k) (hr : Row w B A n bs) (hb : Bytes bs) (hB : B ≤ w.heap.size) (hc : n ≤ c) (hm : n ≤ 4294967296) (hv : hash k bs = v) :
    Calls Tryd.prog 10 #[kval k, .slice A n c] w fun e w' => e = .returned (.int .u64 v) ∧ Below w.heap.size w w' := by
  have HV := Lib.hid hv; clear hv
  have HK := Lib.hid hk; clear hk
  have HL := Lib.hid hr.len
  have hmk : ∀ w : World, (Instr.makeSlice 24 (.int .i64 8) (.int .i64 8)).run Tryd.prog w = .ok (.slice (some ⟨w.heap.size, 0, none⟩) 8 8) (w.alloc (.cells #[.int .u8 0, .int .u8 0, .int .u8 0, .int .u8 0, .int .u8 0, .int .u8 0, .int .u8 0, .int .u8 0] 5)) := fun _ => by kernel_rfl
  unfold kval
  go_enter Tryd.func10, Tryd.ntmps10
  go_wp2_with fail
  refine wp_world (fun W => Hold W w.heap.size 22 (k.map by8) ∧ Below w.heap.size w W ∧ w.heap.size < W.heap.size) ⟨Hold.new _ _ _, (Below.refl _ _).alloc (Nat.le_refl _) _, by simp⟩ ?_
  rintro W ⟨hk1, hb1, hz⟩
  have hr1 : Row W (w.heap.size + 1) (some ⟨w.heap.size, 0, none⟩) 8 (k.take 8) := Row.of_hold hk1 (by omega) (by rw [List.length_take, HK.out]; rfl) (fun j z hj => by
    rw [List.getElem?_take] at hj
    split at hj
    · rw [List.getElem?_map, show 0 + j = j by omega, hj]; rfl
    · cases hj)
  have hr2 : Row W (w.heap.size + 1) (some ⟨w.heap.size, 8, none⟩) 8 (k.drop 8) := Row.of_hold hk1 (by omega) (by rw [List.length_drop, HK.out]) (fun j z hj => by
    rw [List.getElem?_drop] at hj
    rw [List.getElem?_map, hj]; rfl)
  have HK1 := Lib.hid hk1; clear hk1
  go_quiet ((first
    | (go_at_call 16; exact q_same (rnumber_any _ 8 _ _ _ _ (hr1.drewN _) (hkb.take 8) rfl))
    | (go_at_call 16; exact q_same (rnumber_any _ 8 _ _ _ _ (hr2.drewN _) (hkb.drop 8) rfl))))
  have hb0 := bl_drewN hb1 nq
  have hz0 : w.heap.size < (W.drewN nq).heap.size := hz
  clear hr1 hr2 HK1 hb1 hz
  generalize W.drewN nq = W at hb0 hz0 ⊢
  go_wp2_with fail
  refine wp_world (fun U => Hold U W.heap.size 44 (init k).cells ∧ Below w.heap.size w U) ⟨Hold.new W _ _, hb0.alloc (by omega) _⟩ ?_
  rintro U ⟨hu1, hu2⟩
  obtain ⟨V, hV⟩ : ∃ V, W.heap.size = V := ⟨_, rfl⟩
  rw [hV] at hu1 ⊢
  have hwV : w.heap.size ≤ V := by omega
  obtain ⟨q0, hq0⟩ : ∃ q0, init k = q0 := ⟨_, rfl⟩
  rw [hq0] at hu1
  have HQ0 := Lib.hid hq0
  have HU1 := Lib.hid hu1; have HU2 := Lib.hid hu2
  clear hb0 hz0 hV hq0 hu1 hu2 W
  go_loopw [8] (fun i wr => ∃ j I : Nat, I = 8 * j ∧ I ≤ n ∧ i = .int .i64 I ∧ Hold wr V 44 (feed q0 bs j).cells ∧ Below w.heap.size w wr) (fun i _ => n - (intOf i).toNat)
  case atStart => exact ⟨0, 0, rfl, Nat.zero_le _, rfl, HU1.out, HU2.out⟩
  case round =>
    obtain ⟨j, I, hI, hIn, rfl, ho, hbw⟩ := hrel
    have HI := Lib.hid hI; clear hI
    obtain ⟨q1, hq1⟩ : ∃ q1, feed q0 bs j = q1 := ⟨_, rfl⟩
    rw [hq1] at ho
    have HQ1 := Lib.hid hq1; clear hq1
    obtain ⟨a, b, c', d⟩ := q1
    obtain ⟨c0, c1, c2, c3⟩ := Q.cell4 (tl := []) ho
    obtain ⟨f0, f1, f2, f3⟩ := Q.free4 ho
    have HO := Lib.hid ho; clear ho
    by_cases hlt : I + 8 ≤ n
    · obtain ⟨ad, hA, had, _⟩ := hr.get (k := I) (by omega)
      subst hA
      have hne : ¬ c = I := by omega
      obtain ⟨m, hmm⟩ : ∃ m, num ((bs.drop I).take 8) = m := ⟨_, rfl⟩
      obtain ⟨q2, hq2⟩ : ∃ q2, eat ⟨a, b, c', d⟩ m = q2 := ⟨_, rfl⟩
      have HN : Hid (feed q0 bs (j + 1) = q2) := by
        show feed q0 bs (j + 1) = q2
        rw [feed_succ, HQ1.out, ← HI.out, hmm, hq2]
      obtain ⟨a2, b2, d2, e2⟩ := q2
      have HM := Lib.hid hmm; have HQ2 := Lib.hid hq2; clear hmm hq2
      have hrow : Row wr B (some (ad.add I)) 8 ((bs.drop I).take 8) := (hr.below' hbw hB).part hc hlt
      have HROW := Lib.hid hrow; clear hrow
      go_wp2_with fail
      have hw8 : IntKind.i64.wrap ((I : Int) + 8) = (I : Int) + 8 := by rw [IntKind.wrap_i64]; omega
      have hi0 : (0 : Int) ≤ (I : Int) := by omega
      have hi1 : (I : Int) ≤ (I : Int) + 8 := by omega
      have hi8 : (I : Int) + 8 ≤ (c : Int) := by omega
      have hin : ((I : Int) + 8).toNat = I + 8 := by omega
      refine wp_region_still_tail 7 (by kernel_rfl) (by kernel_rfl) ?_
      simp only [List.take_succ_cons, List.take_zero, List.drop_succ_cons, List.drop_zero]
      repeat still_step
      still_call ((rnumber_any (some (ad.add I)) 8 (c - I) B ((bs.drop I).take 8) wr.drew HROW.out ((hb.drop _).take _) rfl).mono fun _ _ ⟨he, hw⟩ => ⟨he, hw.symm⟩)
      refine wpStill_nil ?_
      change wpList _ _ _ _ _ wr.drew
      clear hw8 hi0 hi1 hi8 hin
      rw [HM.out]
      have HO' := Lib.hid (show Hold wr.drew V 44 (Q.cells ⟨a, b, c', d⟩) from HO.out)
      have hbd := hbw.drew
      have HBD := Lib.hid hbd
      clear HO HROW c0 c1 c2 c3 f0 f1 f2 f3 hbw hbd
      generalize wr.drew = w2 at HO' HBD ⊢
      go_wp2_with fail
      refine (eats_v _ HQ2.out).mono ?_
      rintro e w3 ⟨rfl, hb3⟩
      have hV3 : Hold w3 V 44 (Q.cells ⟨a, b, c', d⟩) := HO'.out.below hb3 HO'.out.lt
      have hb4 : Below w.heap.size w w3 := HBD.out.trans (hb3.mono HBD.out.size)
      clear hb3
      obtain ⟨c0, c1, c2, c3⟩ := Q.cell4 (tl := []) hV3
      obtain ⟨f0, f1, f2, f3⟩ := Q.free4 hV3
      have HV3 := Lib.hid hV3; have HB4 := Lib.hid hb4; clear hV3 hb4
      go_wp2_with fail
      refine ⟨⟨j + 1, I + 8, by have := HI.out; omega, hlt, by go_num, ?_, ?_⟩, by simp [intOf]; omega⟩
      · rw [HN.out]; exact (((HV3.out.set 0 _).set 1 _).set 2 _).set 3 _
      · exact (((HB4.out.setCell hwV _).setCell hwV _).setCell hwV _).setCell hwV _
    · have hd : decide ((I : Int) + 8 ≤ (n : Int)) = false := by apply decide_eq_false; omega
      have hj : bs.length / 8 = j := by have h1 := HL.out; have h2 := HI.out; omega
      obtain ⟨xs, hxs⟩ : ∃ xs, bs.drop I = xs := ⟨_, rfl⟩
      have hxl : xs.length = n - I := by rw [← hxs, List.length_drop, HL.out]
      obtain ⟨C, hC⟩ : ∃ C, n % 256 = C := ⟨_, rfl⟩
      have hCi : (n : Int) % 256 = (C : Int) := by omega
      have hC5 : C ≤ 255 := by omega
      have hlast : (xs ++ List.replicate 8 0).take 7 ++ [(C : Int)] = last bs := by unfold last; rw [hj, ← HI.out, hxs, HL.out, hC]
      obtain ⟨m, hmm⟩ : ∃ m, num (last bs) = m := ⟨_, rfl⟩
      obtain ⟨q2, hq2⟩ : ∃ q2, eat ⟨a, b, c', d⟩ m = q2 := ⟨_, rfl⟩
      obtain ⟨a2, b2, d2, e2⟩ := q2
      obtain ⟨x, hx⟩ : ∃ x, bits .xor .u64 d2 255 = x := ⟨_, rfl⟩
      obtain ⟨q3, hq3⟩ : ∃ q3, rnd ⟨a2, b2, x, e2⟩ = q3 := ⟨_, rfl⟩
      obtain ⟨q4, hq4⟩ : ∃ q4, rnd q3 = q4 := ⟨_, rfl⟩
      obtain ⟨q5, hq5⟩ : ∃ q5, rnd q4 = q5 := ⟨_, rfl⟩
      obtain ⟨q6, hq6⟩ : ∃ q6, rnd q5 = q6 := ⟨_, rfl⟩
      have HF : Hid (v = bits .xor .u64 (bits .xor .u64 (bits .xor .u64 q6.a q6.b) q6.c) q6.d) := by
        rw [← HV.out]
        show fin (feed (init k) bs (bs.length / 8)) (num (last bs)) = _
        rw [hj, HQ0.out, HQ1.out, hmm]
        show (let r := eat ⟨a, b, c', d⟩ m; let s := rnds 4 ⟨r.a, r.b, xr r.c 255, r.d⟩; xr (xr (xr s.a s.b) s.c) s.d) = _
        rw [hq2]
        have e4 : rnds 4 ⟨a2, b2, bits .xor .u64 d2 255, e2⟩ = q6 := by rw [hx, ← hq6, ← hq5, ← hq4, ← hq3]; rfl
        show (let s := rnds 4 ⟨a2, b2, bits .xor .u64 d2 255, e2⟩; xr (xr (xr s.a s.b) s.c) s.d) = _
        rw [e4]; rfl
      obtain ⟨p0, p1, p2, p3⟩ := q3
      obtain ⟨r0, r1, r2, r3⟩ := q4
      obtain ⟨s0, s1, s2, s3⟩ := q5
      obtain ⟨t0, t1, t2, t3⟩ := q6
      have HX := Lib.hid hxs; have HXL := Lib.hid hxl; have HC := Lib.hid hC; have HLA := Lib.hid hlast; have HM := Lib.hid hmm
      have HQ2 := Lib.hid hq2; have HQ3 := Lib.hid hq3; have HQ4 := Lib.hid hq4; have HQ5 := Lib.hid hq5; have HQ6 := Lib.hid hq6
      have HJ := Lib.hid hj
      clear hxs hxl hC hlast hmm hq2 hq3 hq4 hq5 hq6 hj
      have HBW := Lib.hid hbw; clear hbw
      go_wp2_with fail
      obtain ⟨wA, rfl⟩ : ∃ wo : World, wo = wr := ⟨_, rfl⟩
      refine wp_world (fun U => Hold U V 44 (Q.cells ⟨a, b, c', d⟩) ∧ Hold U wA.heap.size 5 ((List.replicate 8 0).map by8) ∧ Below w.heap.size w U) ⟨HO.out.alloc _, Hold.new _ _ _, HBW.out.alloc HBW.out.size _⟩ ?_
      rintro U ⟨hu1, hu2, hu3⟩
      have hwM : w.heap.size ≤ wA.heap.size := HBW.out.size
      have hVM : V < wA.heap.size := HO.out.lt
      clear HO HBW c0 c1 c2 c3 f0 f1 f2 f3
      generalize wA.heap.size = M at hu2 hwM hVM ⊢
      have HU1 := Lib.hid hu1; have HU2 := Lib.hid hu2; have HU3 := Lib.hid hu3
      clear hu1 hu2 hu3
      have hI7 : n < I + 8 := by omega
      clear hlt
      go_loopw [10] (fun i wr => ∃ m : Nat, I + m ≤ n ∧ i = .int .i64 m ∧ Hold wr V 44 (Q.cells ⟨a, b, c', d⟩) ∧ Hold wr M 5 ((xs.take m ++ List.replicate (8 - m) 0).map by8) ∧ Below w.heap.size w wr) (fun i _ => n - (intOf i).toNat)
      case atStart => exact ⟨0, by omega, rfl, HU1.out, HU2.out, HU3.out⟩
      case round =>
        obtain ⟨l, hl, rfl, hv1, hm1, hb1⟩ := hrel
        by_cases hlt : I + l < n
        · obtain ⟨ad, hA, had, hcell⟩ := (hr.below' hb1 hB).get (k := I + l) hlt
          subst hA
          have hz1 : bs.getD (I + l) 0 = xs.getD l 0 := by rw [← HX.out]; simp [List.getD, List.getElem?_drop]
          obtain ⟨z, hz⟩ : ∃ z, xs.getD l 0 = z := ⟨_, rfl⟩
          rw [hz1, hz] at hcell
          clear hz1
          have hl8 : l < 8 := by omega
          have hcm : ∃ u, wr.cell? ⟨M, l, none⟩ = some u := by
            rw [hm1.cell]
            exact ⟨_, List.getElem?_eq_getElem (by have := HXL.out; simp; omega)⟩
          obtain ⟨u, hcm⟩ := hcm
          have hfm := hm1.frozen l
          have HZ := Lib.hid hz; have HM1 := Lib.hid hm1; have HV1 := Lib.hid hv1; have HB1 := Lib.hid hb1
          clear hz hm1 hv1 hb1
          go_wp2_with fail
          refine ⟨⟨l + 1, by omega, by go_num, HV1.out.far (by show V ≠ M; omega) _, ?_, HB1.out.setCell hwM _⟩, by simp [intOf]; omega⟩
          have h2 := HM1.out.set l (by8 z)
          rw [← List.map_set, ← HZ.out, pad_set xs l (by have := HXL.out; omega) hl8, HZ.out] at h2
          exact h2
        · have hln : I + l = n := by omega
          have hcm : ∃ u, wr.cell? ⟨M, 7, none⟩ = some u := by
            rw [hm1.cell]
            exact ⟨_, List.getElem?_eq_getElem (by have := HXL.out; simp; omega)⟩
          obtain ⟨u, hcm⟩ := hcm
          have hfm := hm1.frozen 7
          have HM1 := Lib.hid hm1; have HV1 := Lib.hid hv1; have HB1 := Lib.hid hb1; have HLN := Lib.hid hln
          clear hm1 hv1 hb1 hln
          go_wp2_with fail
          refine wp_world (fun U => Hold U V 44 (Q.cells ⟨a, b, c', d⟩) ∧ Hold U M 5 ((last bs).map by8) ∧ Below w.heap.size w U) ⟨HV1.out.far (by show V ≠ M; omega) _, ?_, HB1.out.setCell hwM _⟩ ?_
          · have h2 := HM1.out.set 7 (by8 (C : Int))
            have hxl : xs.length = l := by have h3 := HXL.out; have h4 := HLN.out; omega
            rw [← List.map_set, List.take_of_length_le (by omega), ← hxl, pad_last xs _ (by omega), HLA.out] at h2
            exact h2
          rintro W ⟨hw1, hw2, hw3⟩
          clear hcm hfm HM1 HV1 HB1
          obtain ⟨c0, c1, c2, c3⟩ := Q.cell4 (tl := []) hw1
          obtain ⟨f0, f1, f2, f3⟩ := Q.free4 hw1
          have hrow : Row W (M + 1) (some ⟨M, 0, none⟩) 8 (last bs) := Row.of_hold hw2 (by omega) (last_len bs) (fun j z hz => by rw [List.getElem?_map, show 0 + j = j by omega, hz]; rfl)
          have HROW := Lib.hid hrow; have HW1 := Lib.hid hw1; have HW3 := Lib.hid hw3
          clear hrow hw1 hw2 hw3
          refine wp_region_still_tail 3 (by kernel_rfl) (by kernel_rfl) ?_
          simp only [List.take_succ_cons, List.take_zero, List.drop_succ_cons, List.drop_zero]
          repeat still_step
          still_call ((rnumber_any (some ⟨M, 0, none⟩) 8 8 (M + 1) (last bs) W.drew HROW.out (last_bytes hb) rfl).mono fun _ _ ⟨he, hw⟩ => ⟨he, hw.symm⟩)
          refine wpStill_nil ?_
          change wpList _ _ _ _ _ W.drew
          rw [HM.out]
          have HO' := Lib.hid (show Hold W.drew V 44 (Q.cells ⟨a, b, c', d⟩) from HW1.out)
          have hbd := HW3.out.drew
          have HBD := Lib.hid hbd
          clear HROW HW1 HW3 c0 c1 c2 c3 f0 f1 f2 f3 hbd
          generalize W.drew = w2 at HO' HBD ⊢
          go_wp2_with fail
          refine (eats_v _ HQ2.out).mono ?_
          rintro e w3 ⟨rfl, hb3⟩
          have hV3 : Hold w3 V 44 (Q.cells ⟨a, b, c', d⟩) := HO'.out.below hb3 HO'.out.lt
          have hb4 : Below w.heap.size w w3 := HBD.out.trans (hb3.mono HBD.out.size)
          clear hb3 HO' HBD
          obtain ⟨c0, c1, c2, c3⟩ := Q.cell4 (tl := []) hV3
          obtain ⟨f0, f1, f2, f3⟩ := Q.free4 hV3
          have HV3 := Lib.hid hV3; have HB4 := Lib.hid hb4; clear hV3 hb4
          go_upto_region 15 with (fail)
          refine wp_world (fun U => Hold U V 44 (Q.cells ⟨a2, b2, x, e2⟩) ∧ Below w.heap.size w U) ⟨((((HV3.out.set 0 _).set 1 _).set 2 _).set 3 _).set 2 _, ((((HB4.out.setCell hwV _).setCell hwV _).setCell hwV _).setCell hwV _).setCell hwV _⟩ ?_
          rintro W ⟨hw1, hw3⟩
          clear HV3 HB4 c0 c1 c2 c3 f0 f1 f2 f3
          obtain ⟨c0, c1, c2, c3⟩ := Q.cell4 (tl := []) hw1
          have HW1 := Lib.hid hw1; have HW3 := Lib.hid hw3; clear hw1 hw3
          go_wp2_with fail
          refine (round_v _ HQ3.out).mono ?_
          rintro e w4 ⟨rfl, hb4⟩
          go_wp2_with fail
          refine (round_v _ HQ4.out).mono ?_
          rintro e w5 ⟨rfl, hb5⟩
          go_wp2_with fail
          refine (round_v _ HQ5.out).mono ?_
          rintro e w6 ⟨rfl, hb6⟩
          go_wp2_with fail
          refine (round_v _ HQ6.out).mono ?_
          rintro e w7 ⟨rfl, hb7⟩
          have hb8 : Below W.heap.size W w7 := ((hb4.trans (hb5.mono hb4.size)).trans (hb6.mono (Nat.le_trans hb4.size hb5.size))).trans (hb7.mono (Nat.le_trans (Nat.le_trans hb4.size hb5.size) hb6.size))
          have hV7 : Hold w7 V 44 (Q.cells ⟨a2, b2, x, e2⟩) := HW1.out.below hb8 HW1.out.lt
          have hb9 : Below w.heap.size w w7 := HW3.out.trans (hb8.mono HW3.out.size)
          clear hb4 hb5 hb6 hb7 hb8 c0 c1 c2 c3
          obtain ⟨c0, c1, c2, c3⟩ := Q.cell4 (tl := []) hV7
          obtain ⟨f0, f1, f2, f3⟩ := Q.free4 hV7
          have HV7 := Lib.hid hV7; have HB9 := Lib.hid hb9; clear hV7 hb9
          go_wp2_with fail
          go_ret
          exact ⟨ret_int HF.out.symm, (((HB9.out.setCell hwV _).setCell hwV _).setCell hwV _).setCell hwV _⟩
end Go.Proofs.YtgdpgpmkokjdjaaDoor.Sp
