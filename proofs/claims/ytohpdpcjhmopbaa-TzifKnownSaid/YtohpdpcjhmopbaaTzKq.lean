/-
  Layer 6 (tzif): the document's Parse: where no line ends (written by gen_kq6.py).
-/
import Derived.Test.YtohpdpcjhmopbaaTzKp
namespace Go.Proofs.Ytohpdpcjhmopbaa.Tz
open Go.RowKit

set_option maxRecDepth 100000 in
set_option maxHeartbeats 1000000 in
theorem rparse_e (l : List Nat) (gb off B n c : Nat) (w : World) (hs : SB w B (some ⟨gb, off, none⟩) n c l) (hB : B ≤ w.heap.size) (hb : ∀ b ∈ l, b < 256) (hn : n ≤ 1000000) (hq : hdGood l = true) (hv : l.getD 4 0 ≠ 0) (hl : 44 + longN (hdOf l) 4 ≤ n) (hq2 : hdGood (l.drop (44 + longN (hdOf l) 4)) = true) (hv2 : (hdOf (l.drop (44 + longN (hdOf l) 4))).version = (hdOf l).version) (hr : ¬ n - (88 + longN (hdOf l) 4) < longN (hdOf (l.drop (44 + longN (hdOf l) 4))) 8 + 2) (z : Zn) (hz : blockZ (hdOf (l.drop (44 + longN (hdOf l) 4))) 8 val8 (l.drop (88 + longN (hdOf l) 4)) = some z) (hR : rightZ z = true) (hE : (((l.drop (88 + longN (hdOf l) 4)).drop (longN (hdOf (l.drop (44 + longN (hdOf l) 4))) 8)))[0]? ≠ some 10 ∧ (((l.drop (88 + longN (hdOf l) 4)).drop (longN (hdOf (l.drop (44 + longN (hdOf l) 4))) 8)))[((l.drop (88 + longN (hdOf l) 4)).drop (longN (hdOf (l.drop (44 + longN (hdOf l) 4))) 8)).length - 1]? = (((l.drop (88 + longN (hdOf l) 4)).drop (longN (hdOf (l.drop (44 + longN (hdOf l) 4))) 8)))[((l.drop (88 + longN (hdOf l) 4)).drop (longN (hdOf (l.drop (44 + longN (hdOf l) 4))) 8)).length - 1]?) :
    Calls Try.prog 40 #[.slice (some ⟨gb, off, none⟩) n c] w fun e w' => e = .returned (.tuple #[noZone, .bool false]) ∧ Below w.heap.size w w' := by
  have K0 := Lib.hid (Qk.start hs hB)
  obtain ⟨X, hX⟩ : ∃ X, w.alloc (.cells #[.slice none 0 0, .slice none 0 0, .slice none 0 0, .string ⟨#[]⟩] 31) = X := ⟨_, rfl⟩
  rw [hX] at K0
  have HC1 : Hid (Calls Try.prog 49 #[.slice (some ⟨gb, off, none⟩) n c, .int .i64 0] X fun e w' => CntP l e ∧ Below X.heap.size X w') := Lib.hid (rcounts_any l _ B n c 0 X K0.out.sb (by have := K0.out.rb.lt; have := K0.out.lo; omega) hb (by omega))
  have HQ := Lib.hid hq
  obtain ⟨h1, e1⟩ : ∃ h1, hdOf l = h1 := ⟨_, rfl⟩
  have HC1' : Hid (Calls Try.prog 49 #[.slice (some ⟨gb, off, none⟩) n c, .int .i64 0] X fun e w' => e = .returned (.tuple #[hdArr h1, .int .u8 h1.version, .bool true]) ∧ Below X.heap.size X w') := Lib.hid (HC1.out.mono fun e w' ⟨hc, hw⟩ => ⟨by rw [← e1]; exact hc.2 hq, hw⟩)
  have hv1 : h1.version = l.getD 4 0 := by rw [← e1]; rfl
  have HL1 : Hid (∀ V, Calls Try.prog 50 #[hdArr h1, .int .i64 4] V fun e w' => e = .returned (.int .i64 (longN h1 4)) ∧ Below V.heap.size V w') := Lib.hid fun V => rlong_any h1 4 (.inl rfl) (by rw [← e1]; exact hdOk_bytes hb) V
  have hN9 : longN h1 4 ≤ 900000000000 := by
    obtain ⟨o1, o2, o3, o4, o5, o6⟩ : HdOk h1 := by rw [← e1]; exact hdOk_bytes hb
    unfold longN restN; omega
  obtain ⟨N1, hN1⟩ : ∃ N1, longN h1 4 = N1 := ⟨_, rfl⟩
  rw [hN1] at HL1 hN9
  rw [← hv1] at hv
  have v0 : decide ((h1.version : Int) = 0) = false := by simp; omega
  have v1 : ((h1.version : Int) == 0) = false := by simp; omega
  have v2 : ((h1.version : Int) != 0) = true := by simp; omega
  have i1 : (0 : Int) ≤ (N1 : Int) := by omega
  have i2 : (N1 : Int) ≤ 900000000000 := by omega
  have i3 : (n : Int) ≤ 1000000 := by omega
  have i4 : (0 : Int) ≤ (n : Int) := by omega
  unfold hdArr at HC1' HL1
  rw [e1, hN1] at hl
  have j1 : ¬ (n : Int) - 44 < (N1 : Int) := by omega
  obtain ⟨s2, hs2⟩ : ∃ s2, 44 + N1 = s2 := ⟨_, rfl⟩
  have j2 : (44 : Int) + (N1 : Int) = (s2 : Int) := by omega
  rw [e1, hN1, hs2] at hq2
  have HC2 : Hid (∀ V, Qk w V B (some ⟨gb, off, none⟩) n c l → Calls Try.prog 49 #[.slice (some ⟨gb, off, none⟩) n c, .int .i64 s2] V fun e w' => CntP (l.drop s2) e ∧ Below V.heap.size V w') := Lib.hid fun V hV => rcounts_any l _ B n c s2 V hV.sb (by have := hV.rb.lt; have := hV.lo; omega) hb (by omega)
  rw [e1, hN1, hs2] at hv2
  obtain ⟨h2, e2⟩ : ∃ h2, hdOf (l.drop s2) = h2 := ⟨_, rfl⟩
  have HC2' : Hid (∀ V, Qk w V B (some ⟨gb, off, none⟩) n c l → Calls Try.prog 49 #[.slice (some ⟨gb, off, none⟩) n c, .int .i64 s2] V fun e w' => e = .returned (.tuple #[hdArr h2, .int .u8 h2.version, .bool true]) ∧ Below V.heap.size V w') := Lib.hid fun V hV => (HC2.out V hV).mono fun e w' ⟨hc, hw⟩ => ⟨by rw [← e2]; exact hc.2 hq2, hw⟩
  unfold hdArr at HC2'
  have hlen2 : s2 + 44 ≤ n := by
    have h44 : 44 ≤ (l.drop s2).length := by
      unfold hdGood at hq2
      simp only [Bool.and_eq_true, decide_eq_true_eq] at hq2
      exact hq2.1.1
    rw [List.length_drop] at h44
    have := hs.1
    omega
  rw [e2] at hv2
  have x1 : ((h2.version : Int) != (h1.version : Int)) = false := by rw [hv2]; simp
  have x2 : (h2.version != h1.version) = false := by rw [hv2]; simp
  have HLM : Hid (∀ V, Calls Try.prog 50 #[hdArr h2, .int .i64 8] V fun e w' => e = .returned (.int .i64 (longN h2 8)) ∧ Below V.heap.size V w') := Lib.hid fun V => rlong_any h2 8 (.inr rfl) (by rw [← e2]; exact hdOk_bytes (drop_byt hb _)) V
  have hM9 : longN h2 8 ≤ 900000000000 := by
    obtain ⟨o1, o2, o3, o4, o5, o6⟩ : HdOk h2 := by rw [← e2]; exact hdOk_bytes (drop_byt hb _)
    unfold longN restN; omega
  obtain ⟨M, hM⟩ : ∃ M, longN h2 8 = M := ⟨_, rfl⟩
  rw [hM] at HLM hM9
  unfold hdArr at HLM
  obtain ⟨s3, hs3⟩ : ∃ s3, 88 + N1 = s3 := ⟨_, rfl⟩
  have y1 : (88 : Int) + (N1 : Int) = (s3 : Int) := by omega
  have y2 : ¬ (n : Int) < (s3 : Int) := by omega
  have y3 : ¬ n < s3 := by omega
  have y4 : (s3 : Int) ≤ (n : Int) := by omega
  have hnc := hs.2.1
  have y5 : (s3 : Int) ≤ (c : Int) := by omega
  have y6 : (n : Int) ≤ (c : Int) := by omega
  have y7 : (0 : Int) ≤ (s3 : Int) := by omega
  obtain ⟨rn, hrn⟩ : ∃ rn, n - s3 = rn := ⟨_, rfl⟩
  have z1 : (0 : Int) ≤ (M : Int) := by omega
  have z2 : (M : Int) ≤ 900000000000 := by omega
  have z3 : (0 : Int) ≤ (rn : Int) := by omega
  have z4 : (rn : Int) ≤ 1000000 := by omega
  rw [e1, hN1, hs3, hrn, hs2, e2, hM] at hr
  have z5 : ¬ (rn : Int) < (M : Int) + 2 := by omega
  have z6 : ¬ c - s3 = 0 := by omega
  have z7 : (M : Int) ≤ ((c - s3 : Nat) : Int) := by omega
  have z8 : (M : Int) ≤ (rn : Int) := by omega
  obtain ⟨lr, hlr⟩ : ∃ lr, l.drop s3 = lr := ⟨_, rfl⟩
  have hlrl : lr.length = rn := by rw [← hlr, List.length_drop]; have := hs.1; omega
  have HRB : Hid (∀ b ∈ lr, b < 256) := Lib.hid (by rw [← hlr]; exact drop_byt hb _)
  have HSR : Hid (∀ V, Qk w V B (some ⟨gb, off, none⟩) n c l → SB V B (some ⟨gb, off + s3, none⟩) rn (c - s3) lr) := Lib.hid fun V hV => by
    have := hV.sb.drop (k := s3) (by omega)
    rwa [hrn, hlr] at this
  have HBK : Hid (∀ V, Qk w V B (some ⟨gb, off, none⟩) n c l → Calls Try.prog 51 #[.slice (some ⟨gb, off + s3, none⟩) M (c - s3), hdArr h2, .int .i64 8] V fun e w' => RblP h2 lr V e w') := Lib.hid fun V hV => by
    have h0 := blockZ_take h2 lr (by rw [hM, hlrl]; omega)
    rw [hM] at h0
    refine (rblock_any h2 (lr.take M) _ B M _ V ((HSR.out V hV).take (by omega)) (by have := hV.rb.lt; have := hV.lo; omega) (fun b hx => HRB.out b (List.mem_of_mem_take hx)) (by rw [← e2]; exact hdOk_bytes (drop_byt hb _)) (by rw [hM]; exact Nat.le_refl _)).mono fun e w' hk => ?_
    unfold RblP at hk ⊢
    rwa [h0] at hk
  unfold hdArr at HBK
  rw [e1, hN1, hs2, hs3, e2, hlr] at hz
  rw [e1, hN1, hs2, hs3, e2, hM, hlr] at hE
  have HBK' : Hid (∀ V, Qk w V B (some ⟨gb, off, none⟩) n c l → Calls Try.prog 51 #[.slice (some ⟨gb, off + s3, none⟩) M (c - s3), .agg #[.int .i64 h2.uts, .int .i64 h2.stds, .int .i64 h2.leaps, .int .i64 h2.times, .int .i64 h2.types, .int .i64 h2.letters], .int .i64 8] V fun e w' => (∃ a1 n1 c1 a2 n2 c2 a3 n3 c3, e = .returned (.tuple #[.agg #[.slice a1 n1 c1, .slice a2 n2 c2, .slice a3 n3 c3, .string ⟨#[]⟩], .bool true])) ∧ Below V.heap.size V w') := Lib.hid fun V hV => (HBK.out V hV).mono fun e w' hk => by
    obtain ⟨k1, k2, k3⟩ := hk
    obtain ⟨vt, vs, vi, he, h1, h2, h3⟩ := k2 z hz
    obtain ⟨a1, c1, rfl⟩ := h1.form
    obtain ⟨a2, c2, rfl⟩ := h2.form
    obtain ⟨a3, c3, rfl⟩ := h3.form
    rw [hR] at he
    exact ⟨⟨_, _, _, _, _, _, _, _, _, he⟩, k3⟩
  have hlrM : (lr.drop M).length = rn - M := by rw [List.length_drop, hlrl]
  obtain ⟨en, hen⟩ : ∃ en, rn - M = en := ⟨_, rfl⟩
  obtain ⟨p, hp⟩ : ∃ p, en = p + 1 := ⟨en - 1, by omega⟩
  rw [hlrM, hen] at hE
  have hE0 : (lr.drop M).length = en := by rw [hlrM, hen]
  have hEL : ∀ V, Qk w V B (some ⟨gb, off, none⟩) n c l → SB V B (some ⟨gb, off + s3 + M, none⟩) en (c - s3 - M) (lr.drop M) := fun V hV => by
    have := (HSR.out V hV).drop (k := M) (by omega)
    rwa [hen] at this
  obtain ⟨b0, hb0⟩ : ∃ b0, (lr.drop M)[0]? = some b0 := by
    rw [List.getElem?_eq_getElem (by omega)]; exact ⟨_, rfl⟩
  obtain ⟨b1, hb1⟩ : ∃ b1, (lr.drop M)[p]? = some b1 := by
    rw [List.getElem?_eq_getElem (by omega)]; exact ⟨_, rfl⟩
  have HE0 : Hid (∀ V, Qk w V B (some ⟨gb, off, none⟩) n c l → V.cell? ⟨gb, off + s3 + M, none⟩ = some (.int .u8 b0)) := Lib.hid fun V hV => by
    have := (hEL V hV).cells 0 b0 hb0
    rw [Nat.add_zero] at this
    exact this
  have HE1 : Hid (∀ V, Qk w V B (some ⟨gb, off, none⟩) n c l → V.cell? ⟨gb, off + s3 + M + p, none⟩ = some (.int .u8 b1)) := Lib.hid fun V hV => (hEL V hV).cells p b1 hb1
  have r1 : (en : Int) - 1 = (p : Int) := by omega
  have r2 : (p : Int) < (en : Int) := by omega
  have r3 : (0 : Int) ≤ (p : Int) := by omega
  have r4 : (0 : Int) < (en : Int) := by omega
  have r5 : (en : Int) ≤ 1000000 := by omega
  rw [hb0, show en - 1 = p by omega, hb1] at hE
  have w0 : decide ((b0 : Int) = 10) = false := by simp; intro h; exact hE.1 (by rw [show b0 = 10 by omega])
  have w1 : ((b0 : Int) == 10) = false := by simp; intro h; exact hE.1 (by rw [show b0 = 10 by omega])
  have w2 : ((b0 : Int) != 10) = true := by simp; intro h; exact hE.1 (by rw [show b0 = 10 by omega])
  clear hs hB hb hq hv hl hv1 e1 hN1 hN9 HC1 HC2 hn hq2 hs2 hv2 e2 hlen2 hM9 hs3 hnc hr hlr hlrl hM hz hR HBK hlrM hp hE0 hEL hb0 hb1 hE
  go_enter Try.func40, Try.ntmps40
  go_wp2_with (first
    | (go_at_call 49; (try rw [hX]); refine HC1'.out.mono ?_; clear HC1'; rintro e V1 ⟨rfl, hbe⟩; have K1 := Lib.hid (K0.out.step hbe K0.out.rb.lt); have B1 := Lib.hid (ArBox.new V1 h1); clear hbe hX)
    | (go_at_call 50; refine (HL1.out _).mono ?_; clear HL1; rintro e V2 ⟨rfl, hbe⟩; have K2 := Lib.hid ((K1.out.alloc _).step hbe (by have := K1.out.rb.lt; simp; omega)); clear hbe)
    | (go_at_call 49; refine (HC2'.out _ K2.out).mono ?_; clear HC2'; rintro e V3 ⟨rfl, hbe⟩; have K3 := Lib.hid (K2.out.step hbe K2.out.rb.lt); clear hbe)
    | (go_at_call 50; refine (HLM.out _).mono ?_; clear HLM; rintro e V4 ⟨rfl, hbe⟩; have K4 := Lib.hid ((K3.out.alloc _).step hbe (by have := K3.out.rb.lt; simp; omega)); have B4 := Lib.hid ((ArBox.new V3 h2).below hbe (by simp)); clear hbe)
    | fail)
  have y8 : M ≤ c - s3 := by omega
  have b0 := B4.out.d0
  have b1 := B4.out.d1
  have b2 := B4.out.d2
  have b3 := B4.out.d3
  have b4 := B4.out.d4
  have b5 := B4.out.d5
  have g0 : ∀ o, (V4.alloc o).cell? ⟨V3.heap.size, 0, none⟩ = some (.int .i64 h2.uts) := fun o => cell_old V4 o _ _ _ B4.out.lt b0
  have g1 : ∀ o, (V4.alloc o).cell? ⟨V3.heap.size, 1, none⟩ = some (.int .i64 h2.stds) := fun o => cell_old V4 o _ _ _ B4.out.lt b1
  have g2 : ∀ o, (V4.alloc o).cell? ⟨V3.heap.size, 2, none⟩ = some (.int .i64 h2.leaps) := fun o => cell_old V4 o _ _ _ B4.out.lt b2
  have g3 : ∀ o, (V4.alloc o).cell? ⟨V3.heap.size, 3, none⟩ = some (.int .i64 h2.times) := fun o => cell_old V4 o _ _ _ B4.out.lt b3
  have g4 : ∀ o, (V4.alloc o).cell? ⟨V3.heap.size, 4, none⟩ = some (.int .i64 h2.types) := fun o => cell_old V4 o _ _ _ B4.out.lt b4
  have g5 : ∀ o, (V4.alloc o).cell? ⟨V3.heap.size, 5, none⟩ = some (.int .i64 h2.letters) := fun o => cell_old V4 o _ _ _ B4.out.lt b5
  go_cut [13, 14] (fun u13 u14 wx => u14 = .bool true ∧ Qk w wx B (some ⟨gb, off, none⟩) n c l)
  have h4 : w.heap.size + 1 ≤ V4.heap.size := K4.out.rb.lt
  case first =>
    go_region_with (first
      | (go_at_call 51; refine (HBK'.out _ (K4.out.drewn)).mono ?_; clear HBK'; rintro e V5 ⟨⟨a1, n1, c1, a2, n2, c2, a3, n3, c3, rfl⟩, hbe⟩; have K5 := Lib.hid (K4.out.drewn.step hbe K4.out.drewn.rb.lt); clear hbe)
      | (go_at_call 51; refine (HBK'.out _ (K4.out.alloc _).drewn).mono ?_; clear HBK'; rintro e V5 ⟨⟨a1, n1, c1, a2, n2, c2, a3, n3, c3, rfl⟩, hbe⟩; have ZR := Lib.hid (zn_late V4 V5 31 hbe); have K5 := Lib.hid ((K4.out.alloc _).drewn.step hbe (K4.out.alloc _).drewn.rb.lt); clear hbe; have k0 := ZR.out.c0; have k1 := ZR.out.c1; have k2 := ZR.out.c2; have k3 := ZR.out.c3; have f0 := ZR.out.fr 0; have f1 := ZR.out.fr 1; have f2 := ZR.out.fr 2; have f3 := ZR.out.fr 3; have HS1 := ZR.out.lt)
      | fail)
    all_goals go_wp2_with fail
    all_goals go_meet
    all_goals (have h5 : w.heap.size + 1 ≤ V5.heap.size := K5.out.rb.lt; first
      | exact ⟨rfl, K5.out.step (C := w.heap.size + 1) (((((Below.refl _ V5).setCell h4 _).setCell h4 _).setCell h4 _).setCell h4 _) (Nat.le_refl _)⟩
      | exact ⟨rfl, K5.out.step (C := w.heap.size + 1) ((Below.refl _ V5).alloc h5 _) (Nat.le_refl _)⟩)
  case rest =>
    obtain ⟨rfl, hqc⟩ := hcut
    have KC := Lib.hid hqc
    clear hqc
    have t1 : (rn : Int) ≤ ((c - s3 : Nat) : Int) := by omega
    have m0 := HE0.out _ KC.out
    have m1 := HE1.out _ KC.out
    have k0 := KC.out.rb.c0
    have k1 := KC.out.rb.c1
    have k2 := KC.out.rb.c2
    have k3 := KC.out.rb.c3
    have f0 := KC.out.rb.fr 0
    have f1 := KC.out.rb.fr 1
    have f2 := KC.out.rb.fr 2
    have f3 := KC.out.rb.fr 3
    have HS1 := KC.out.rb.lt
    go_wp2_with fail
    exact bodyPost_ret (v := .tuple #[noZone, .bool false]) (by simp [results, Try.results40, go_sem, noZone, k0, k1, k2, k3]) rfl ⟨rfl, KC.out.bl.trans (((((Below.refl w.heap.size wc).setCell (Nat.le_refl _) _).setCell (Nat.le_refl _) _).setCell (Nat.le_refl _) _).setCell (Nat.le_refl _) _)⟩
set_option maxRecDepth 100000 in
set_option maxHeartbeats 1000000 in
theorem rparse_f (l : List Nat) (gb off B n c : Nat) (w : World) (hs : SB w B (some ⟨gb, off, none⟩) n c l) (hB : B ≤ w.heap.size) (hb : ∀ b ∈ l, b < 256) (hn : n ≤ 1000000) (hq : hdGood l = true) (hv : l.getD 4 0 ≠ 0) (hl : 44 + longN (hdOf l) 4 ≤ n) (hq2 : hdGood (l.drop (44 + longN (hdOf l) 4)) = true) (hv2 : (hdOf (l.drop (44 + longN (hdOf l) 4))).version = (hdOf l).version) (hr : ¬ n - (88 + longN (hdOf l) 4) < longN (hdOf (l.drop (44 + longN (hdOf l) 4))) 8 + 2) (z : Zn) (hz : blockZ (hdOf (l.drop (44 + longN (hdOf l) 4))) 8 val8 (l.drop (88 + longN (hdOf l) 4)) = some z) (hR : rightZ z = true) (hE : (((l.drop (88 + longN (hdOf l) 4)).drop (longN (hdOf (l.drop (44 + longN (hdOf l) 4))) 8)))[0]? = some 10 ∧ (((l.drop (88 + longN (hdOf l) 4)).drop (longN (hdOf (l.drop (44 + longN (hdOf l) 4))) 8)))[((l.drop (88 + longN (hdOf l) 4)).drop (longN (hdOf (l.drop (44 + longN (hdOf l) 4))) 8)).length - 1]? ≠ some 10) :
    Calls Try.prog 40 #[.slice (some ⟨gb, off, none⟩) n c] w fun e w' => e = .returned (.tuple #[noZone, .bool false]) ∧ Below w.heap.size w w' := by
  have K0 := Lib.hid (Qk.start hs hB)
  obtain ⟨X, hX⟩ : ∃ X, w.alloc (.cells #[.slice none 0 0, .slice none 0 0, .slice none 0 0, .string ⟨#[]⟩] 31) = X := ⟨_, rfl⟩
  rw [hX] at K0
  have HC1 : Hid (Calls Try.prog 49 #[.slice (some ⟨gb, off, none⟩) n c, .int .i64 0] X fun e w' => CntP l e ∧ Below X.heap.size X w') := Lib.hid (rcounts_any l _ B n c 0 X K0.out.sb (by have := K0.out.rb.lt; have := K0.out.lo; omega) hb (by omega))
  have HQ := Lib.hid hq
  obtain ⟨h1, e1⟩ : ∃ h1, hdOf l = h1 := ⟨_, rfl⟩
  have HC1' : Hid (Calls Try.prog 49 #[.slice (some ⟨gb, off, none⟩) n c, .int .i64 0] X fun e w' => e = .returned (.tuple #[hdArr h1, .int .u8 h1.version, .bool true]) ∧ Below X.heap.size X w') := Lib.hid (HC1.out.mono fun e w' ⟨hc, hw⟩ => ⟨by rw [← e1]; exact hc.2 hq, hw⟩)
  have hv1 : h1.version = l.getD 4 0 := by rw [← e1]; rfl
  have HL1 : Hid (∀ V, Calls Try.prog 50 #[hdArr h1, .int .i64 4] V fun e w' => e = .returned (.int .i64 (longN h1 4)) ∧ Below V.heap.size V w') := Lib.hid fun V => rlong_any h1 4 (.inl rfl) (by rw [← e1]; exact hdOk_bytes hb) V
  have hN9 : longN h1 4 ≤ 900000000000 := by
    obtain ⟨o1, o2, o3, o4, o5, o6⟩ : HdOk h1 := by rw [← e1]; exact hdOk_bytes hb
    unfold longN restN; omega
  obtain ⟨N1, hN1⟩ : ∃ N1, longN h1 4 = N1 := ⟨_, rfl⟩
  rw [hN1] at HL1 hN9
  rw [← hv1] at hv
  have v0 : decide ((h1.version : Int) = 0) = false := by simp; omega
  have v1 : ((h1.version : Int) == 0) = false := by simp; omega
  have v2 : ((h1.version : Int) != 0) = true := by simp; omega
  have i1 : (0 : Int) ≤ (N1 : Int) := by omega
  have i2 : (N1 : Int) ≤ 900000000000 := by omega
  have i3 : (n : Int) ≤ 1000000 := by omega
  have i4 : (0 : Int) ≤ (n : Int) := by omega
  unfold hdArr at HC1' HL1
  rw [e1, hN1] at hl
  have j1 : ¬ (n : Int) - 44 < (N1 : Int) := by omega
  obtain ⟨s2, hs2⟩ : ∃ s2, 44 + N1 = s2 := ⟨_, rfl⟩
  have j2 : (44 : Int) + (N1 : Int) = (s2 : Int) := by omega
  rw [e1, hN1, hs2] at hq2
  have HC2 : Hid (∀ V, Qk w V B (some ⟨gb, off, none⟩) n c l → Calls Try.prog 49 #[.slice (some ⟨gb, off, none⟩) n c, .int .i64 s2] V fun e w' => CntP (l.drop s2) e ∧ Below V.heap.size V w') := Lib.hid fun V hV => rcounts_any l _ B n c s2 V hV.sb (by have := hV.rb.lt; have := hV.lo; omega) hb (by omega)
  rw [e1, hN1, hs2] at hv2
  obtain ⟨h2, e2⟩ : ∃ h2, hdOf (l.drop s2) = h2 := ⟨_, rfl⟩
  have HC2' : Hid (∀ V, Qk w V B (some ⟨gb, off, none⟩) n c l → Calls Try.prog 49 #[.slice (some ⟨gb, off, none⟩) n c, .int .i64 s2] V fun e w' => e = .returned (.tuple #[hdArr h2, .int .u8 h2.version, .bool true]) ∧ Below V.heap.size V w') := Lib.hid fun V hV => (HC2.out V hV).mono fun e w' ⟨hc, hw⟩ => ⟨by rw [← e2]; exact hc.2 hq2, hw⟩
  unfold hdArr at HC2'
  have hlen2 : s2 + 44 ≤ n := by
    have h44 : 44 ≤ (l.drop s2).length := by
      unfold hdGood at hq2
      simp only [Bool.and_eq_true, decide_eq_true_eq] at hq2
      exact hq2.1.1
    rw [List.length_drop] at h44
    have := hs.1
    omega
  rw [e2] at hv2
  have x1 : ((h2.version : Int) != (h1.version : Int)) = false := by rw [hv2]; simp
  have x2 : (h2.version != h1.version) = false := by rw [hv2]; simp
  have HLM : Hid (∀ V, Calls Try.prog 50 #[hdArr h2, .int .i64 8] V fun e w' => e = .returned (.int .i64 (longN h2 8)) ∧ Below V.heap.size V w') := Lib.hid fun V => rlong_any h2 8 (.inr rfl) (by rw [← e2]; exact hdOk_bytes (drop_byt hb _)) V
  have hM9 : longN h2 8 ≤ 900000000000 := by
    obtain ⟨o1, o2, o3, o4, o5, o6⟩ : HdOk h2 := by rw [← e2]; exact hdOk_bytes (drop_byt hb _)
    unfold longN restN; omega
  obtain ⟨M, hM⟩ : ∃ M, longN h2 8 = M := ⟨_, rfl⟩
  rw [hM] at HLM hM9
  unfold hdArr at HLM
  obtain ⟨s3, hs3⟩ : ∃ s3, 88 + N1 = s3 := ⟨_, rfl⟩
  have y1 : (88 : Int) + (N1 : Int) = (s3 : Int) := by omega
  have y2 : ¬ (n : Int) < (s3 : Int) := by omega
  have y3 : ¬ n < s3 := by omega
  have y4 : (s3 : Int) ≤ (n : Int) := by omega
  have hnc := hs.2.1
  have y5 : (s3 : Int) ≤ (c : Int) := by omega
  have y6 : (n : Int) ≤ (c : Int) := by omega
  have y7 : (0 : Int) ≤ (s3 : Int) := by omega
  obtain ⟨rn, hrn⟩ : ∃ rn, n - s3 = rn := ⟨_, rfl⟩
  have z1 : (0 : Int) ≤ (M : Int) := by omega
  have z2 : (M : Int) ≤ 900000000000 := by omega
  have z3 : (0 : Int) ≤ (rn : Int) := by omega
  have z4 : (rn : Int) ≤ 1000000 := by omega
  rw [e1, hN1, hs3, hrn, hs2, e2, hM] at hr
  have z5 : ¬ (rn : Int) < (M : Int) + 2 := by omega
  have z6 : ¬ c - s3 = 0 := by omega
  have z7 : (M : Int) ≤ ((c - s3 : Nat) : Int) := by omega
  have z8 : (M : Int) ≤ (rn : Int) := by omega
  obtain ⟨lr, hlr⟩ : ∃ lr, l.drop s3 = lr := ⟨_, rfl⟩
  have hlrl : lr.length = rn := by rw [← hlr, List.length_drop]; have := hs.1; omega
  have HRB : Hid (∀ b ∈ lr, b < 256) := Lib.hid (by rw [← hlr]; exact drop_byt hb _)
  have HSR : Hid (∀ V, Qk w V B (some ⟨gb, off, none⟩) n c l → SB V B (some ⟨gb, off + s3, none⟩) rn (c - s3) lr) := Lib.hid fun V hV => by
    have := hV.sb.drop (k := s3) (by omega)
    rwa [hrn, hlr] at this
  have HBK : Hid (∀ V, Qk w V B (some ⟨gb, off, none⟩) n c l → Calls Try.prog 51 #[.slice (some ⟨gb, off + s3, none⟩) M (c - s3), hdArr h2, .int .i64 8] V fun e w' => RblP h2 lr V e w') := Lib.hid fun V hV => by
    have h0 := blockZ_take h2 lr (by rw [hM, hlrl]; omega)
    rw [hM] at h0
    refine (rblock_any h2 (lr.take M) _ B M _ V ((HSR.out V hV).take (by omega)) (by have := hV.rb.lt; have := hV.lo; omega) (fun b hx => HRB.out b (List.mem_of_mem_take hx)) (by rw [← e2]; exact hdOk_bytes (drop_byt hb _)) (by rw [hM]; exact Nat.le_refl _)).mono fun e w' hk => ?_
    unfold RblP at hk ⊢
    rwa [h0] at hk
  unfold hdArr at HBK
  rw [e1, hN1, hs2, hs3, e2, hlr] at hz
  rw [e1, hN1, hs2, hs3, e2, hM, hlr] at hE
  have HBK' : Hid (∀ V, Qk w V B (some ⟨gb, off, none⟩) n c l → Calls Try.prog 51 #[.slice (some ⟨gb, off + s3, none⟩) M (c - s3), .agg #[.int .i64 h2.uts, .int .i64 h2.stds, .int .i64 h2.leaps, .int .i64 h2.times, .int .i64 h2.types, .int .i64 h2.letters], .int .i64 8] V fun e w' => (∃ a1 n1 c1 a2 n2 c2 a3 n3 c3, e = .returned (.tuple #[.agg #[.slice a1 n1 c1, .slice a2 n2 c2, .slice a3 n3 c3, .string ⟨#[]⟩], .bool true])) ∧ Below V.heap.size V w') := Lib.hid fun V hV => (HBK.out V hV).mono fun e w' hk => by
    obtain ⟨k1, k2, k3⟩ := hk
    obtain ⟨vt, vs, vi, he, h1, h2, h3⟩ := k2 z hz
    obtain ⟨a1, c1, rfl⟩ := h1.form
    obtain ⟨a2, c2, rfl⟩ := h2.form
    obtain ⟨a3, c3, rfl⟩ := h3.form
    rw [hR] at he
    exact ⟨⟨_, _, _, _, _, _, _, _, _, he⟩, k3⟩
  have hlrM : (lr.drop M).length = rn - M := by rw [List.length_drop, hlrl]
  obtain ⟨en, hen⟩ : ∃ en, rn - M = en := ⟨_, rfl⟩
  obtain ⟨p, hp⟩ : ∃ p, en = p + 1 := ⟨en - 1, by omega⟩
  rw [hlrM, hen] at hE
  have hE0 : (lr.drop M).length = en := by rw [hlrM, hen]
  have hEL : ∀ V, Qk w V B (some ⟨gb, off, none⟩) n c l → SB V B (some ⟨gb, off + s3 + M, none⟩) en (c - s3 - M) (lr.drop M) := fun V hV => by
    have := (HSR.out V hV).drop (k := M) (by omega)
    rwa [hen] at this
  obtain ⟨b0, hb0⟩ : ∃ b0, (lr.drop M)[0]? = some b0 := by
    rw [List.getElem?_eq_getElem (by omega)]; exact ⟨_, rfl⟩
  obtain ⟨b1, hb1⟩ : ∃ b1, (lr.drop M)[p]? = some b1 := by
    rw [List.getElem?_eq_getElem (by omega)]; exact ⟨_, rfl⟩
  have HE0 : Hid (∀ V, Qk w V B (some ⟨gb, off, none⟩) n c l → V.cell? ⟨gb, off + s3 + M, none⟩ = some (.int .u8 b0)) := Lib.hid fun V hV => by
    have := (hEL V hV).cells 0 b0 hb0
    rw [Nat.add_zero] at this
    exact this
  have HE1 : Hid (∀ V, Qk w V B (some ⟨gb, off, none⟩) n c l → V.cell? ⟨gb, off + s3 + M + p, none⟩ = some (.int .u8 b1)) := Lib.hid fun V hV => (hEL V hV).cells p b1 hb1
  have r1 : (en : Int) - 1 = (p : Int) := by omega
  have r2 : (p : Int) < (en : Int) := by omega
  have r3 : (0 : Int) ≤ (p : Int) := by omega
  have r4 : (0 : Int) < (en : Int) := by omega
  have r5 : (en : Int) ≤ 1000000 := by omega
  rw [hb0, show en - 1 = p by omega, hb1] at hE
  have w3 : b0 = 10 := by have := hE.1; injection this
  subst w3
  have w0 : decide ((b1 : Int) = 10) = false := by simp; intro h; exact hE.2 (by rw [show b1 = 10 by omega])
  have w1 : ((b1 : Int) == 10) = false := by simp; intro h; exact hE.2 (by rw [show b1 = 10 by omega])
  have w2 : ((b1 : Int) != 10) = true := by simp; intro h; exact hE.2 (by rw [show b1 = 10 by omega])
  clear hs hB hb hq hv hl hv1 e1 hN1 hN9 HC1 HC2 hn hq2 hs2 hv2 e2 hlen2 hM9 hs3 hnc hr hlr hlrl hM hz hR HBK hlrM hp hE0 hEL hb0 hb1 hE
  go_enter Try.func40, Try.ntmps40
  go_wp2_with (first
    | (go_at_call 49; (try rw [hX]); refine HC1'.out.mono ?_; clear HC1'; rintro e V1 ⟨rfl, hbe⟩; have K1 := Lib.hid (K0.out.step hbe K0.out.rb.lt); have B1 := Lib.hid (ArBox.new V1 h1); clear hbe hX)
    | (go_at_call 50; refine (HL1.out _).mono ?_; clear HL1; rintro e V2 ⟨rfl, hbe⟩; have K2 := Lib.hid ((K1.out.alloc _).step hbe (by have := K1.out.rb.lt; simp; omega)); clear hbe)
    | (go_at_call 49; refine (HC2'.out _ K2.out).mono ?_; clear HC2'; rintro e V3 ⟨rfl, hbe⟩; have K3 := Lib.hid (K2.out.step hbe K2.out.rb.lt); clear hbe)
    | (go_at_call 50; refine (HLM.out _).mono ?_; clear HLM; rintro e V4 ⟨rfl, hbe⟩; have K4 := Lib.hid ((K3.out.alloc _).step hbe (by have := K3.out.rb.lt; simp; omega)); have B4 := Lib.hid ((ArBox.new V3 h2).below hbe (by simp)); clear hbe)
    | fail)
  have y8 : M ≤ c - s3 := by omega
  have b0 := B4.out.d0
  have b1 := B4.out.d1
  have b2 := B4.out.d2
  have b3 := B4.out.d3
  have b4 := B4.out.d4
  have b5 := B4.out.d5
  have g0 : ∀ o, (V4.alloc o).cell? ⟨V3.heap.size, 0, none⟩ = some (.int .i64 h2.uts) := fun o => cell_old V4 o _ _ _ B4.out.lt b0
  have g1 : ∀ o, (V4.alloc o).cell? ⟨V3.heap.size, 1, none⟩ = some (.int .i64 h2.stds) := fun o => cell_old V4 o _ _ _ B4.out.lt b1
  have g2 : ∀ o, (V4.alloc o).cell? ⟨V3.heap.size, 2, none⟩ = some (.int .i64 h2.leaps) := fun o => cell_old V4 o _ _ _ B4.out.lt b2
  have g3 : ∀ o, (V4.alloc o).cell? ⟨V3.heap.size, 3, none⟩ = some (.int .i64 h2.times) := fun o => cell_old V4 o _ _ _ B4.out.lt b3
  have g4 : ∀ o, (V4.alloc o).cell? ⟨V3.heap.size, 4, none⟩ = some (.int .i64 h2.types) := fun o => cell_old V4 o _ _ _ B4.out.lt b4
  have g5 : ∀ o, (V4.alloc o).cell? ⟨V3.heap.size, 5, none⟩ = some (.int .i64 h2.letters) := fun o => cell_old V4 o _ _ _ B4.out.lt b5
  go_cut [13, 14] (fun u13 u14 wx => u14 = .bool true ∧ Qk w wx B (some ⟨gb, off, none⟩) n c l)
  have h4 : w.heap.size + 1 ≤ V4.heap.size := K4.out.rb.lt
  case first =>
    go_region_with (first
      | (go_at_call 51; refine (HBK'.out _ (K4.out.drewn)).mono ?_; clear HBK'; rintro e V5 ⟨⟨a1, n1, c1, a2, n2, c2, a3, n3, c3, rfl⟩, hbe⟩; have K5 := Lib.hid (K4.out.drewn.step hbe K4.out.drewn.rb.lt); clear hbe)
      | (go_at_call 51; refine (HBK'.out _ (K4.out.alloc _).drewn).mono ?_; clear HBK'; rintro e V5 ⟨⟨a1, n1, c1, a2, n2, c2, a3, n3, c3, rfl⟩, hbe⟩; have ZR := Lib.hid (zn_late V4 V5 31 hbe); have K5 := Lib.hid ((K4.out.alloc _).drewn.step hbe (K4.out.alloc _).drewn.rb.lt); clear hbe; have k0 := ZR.out.c0; have k1 := ZR.out.c1; have k2 := ZR.out.c2; have k3 := ZR.out.c3; have f0 := ZR.out.fr 0; have f1 := ZR.out.fr 1; have f2 := ZR.out.fr 2; have f3 := ZR.out.fr 3; have HS1 := ZR.out.lt)
      | fail)
    all_goals go_wp2_with fail
    all_goals go_meet
    all_goals (have h5 : w.heap.size + 1 ≤ V5.heap.size := K5.out.rb.lt; first
      | exact ⟨rfl, K5.out.step (C := w.heap.size + 1) (((((Below.refl _ V5).setCell h4 _).setCell h4 _).setCell h4 _).setCell h4 _) (Nat.le_refl _)⟩
      | exact ⟨rfl, K5.out.step (C := w.heap.size + 1) ((Below.refl _ V5).alloc h5 _) (Nat.le_refl _)⟩)
  case rest =>
    obtain ⟨rfl, hqc⟩ := hcut
    have KC := Lib.hid hqc
    clear hqc
    have t1 : (rn : Int) ≤ ((c - s3 : Nat) : Int) := by omega
    have m0 := HE0.out _ KC.out
    have m1 := HE1.out _ KC.out
    have k0 := KC.out.rb.c0
    have k1 := KC.out.rb.c1
    have k2 := KC.out.rb.c2
    have k3 := KC.out.rb.c3
    have f0 := KC.out.rb.fr 0
    have f1 := KC.out.rb.fr 1
    have f2 := KC.out.rb.fr 2
    have f3 := KC.out.rb.fr 3
    have HS1 := KC.out.rb.lt
    go_wp2_with fail
    exact bodyPost_ret (v := .tuple #[noZone, .bool false]) (by simp [results, Try.results40, go_sem, noZone, k0, k1, k2, k3]) rfl ⟨rfl, KC.out.bl.trans (((((Below.refl w.heap.size wc).setCell (Nat.le_refl _) _).setCell (Nat.le_refl _) _).setCell (Nat.le_refl _) _).setCell (Nat.le_refl _) _)⟩
end Go.Proofs.Ytohpdpcjhmopbaa.Tz
