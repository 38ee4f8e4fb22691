/-
  Layer 6 (tzif): the document's Parse: what its second block says (written by gen_kp6.py).
-/
import Derived.Test.YtohpdpcjhmopbaaTzMi
import Derived.Deep.RegionWith
namespace Go.Proofs.Ytohpdpcjhmopbaa.Tz
open Go.RowKit

theorem Qk.drewn {w U : World} {B n c : Nat} {A : Option Addr} {l : List Nat} (k : Qk w U B A n c l) : Qk w U.drew B A n c l := k.step (C := U.heap.size) ((Below.refl U.heap.size U).drew) k.rb.lt
theorem zn_late (V V' : World) (t : TypeId) (hb : Below (V.alloc (.cells #[.slice none 0 0, .slice none 0 0, .slice none 0 0, .string ⟨#[]⟩] t)).drew.heap.size (V.alloc (.cells #[.slice none 0 0, .slice none 0 0, .slice none 0 0, .string ⟨#[]⟩] t)).drew V') : ZnBox V' V.heap.size (.slice none 0 0) (.slice none 0 0) (.slice none 0 0) (.string ⟨#[]⟩) := by
  have h1 : ZnBox (V.alloc (.cells #[.slice none 0 0, .slice none 0 0, .slice none 0 0, .string ⟨#[]⟩] t)) V.heap.size (.slice none 0 0) (.slice none 0 0) (.slice none 0 0) (.string ⟨#[]⟩) := ZnBox.new V V.heap.size rfl _ _ _ _ t
  have h2 := h1.below ((Below.refl (V.heap.size + 1) _).drew) (Nat.lt_succ_self _)
  exact h2.below hb (by simp)
set_option maxRecDepth 100000 in
set_option maxHeartbeats 1000000 in
theorem rparse_d (l : List Nat) (gb off B n c : Nat) (w : World) (hs : SB w B (some ⟨gb, off, none⟩) n c l) (hB : B ≤ w.heap.size) (hb : ∀ b ∈ l, b < 256) (hn : n ≤ 1000000) (hq : hdGood l = true) (hv : l.getD 4 0 ≠ 0) (hl : 44 + longN (hdOf l) 4 ≤ n) (hq2 : hdGood (l.drop (44 + longN (hdOf l) 4)) = true) (hv2 : (hdOf (l.drop (44 + longN (hdOf l) 4))).version = (hdOf l).version) (hr : ¬ n - (88 + longN (hdOf l) 4) < longN (hdOf (l.drop (44 + longN (hdOf l) 4))) 8 + 2) (hbz : ∀ z, blockZ (hdOf (l.drop (44 + longN (hdOf l) 4))) 8 val8 (l.drop (88 + longN (hdOf l) 4)) = some z → rightZ z = false) :
    Calls Try.prog 40 #[.slice (some ⟨gb, off, none⟩) n c] w fun e w' => e = .returned (.tuple #[noZone, .bool false]) ∧ Below w.heap.size w w' := by
  have K0 := Lib.hid (Qk.start hs hB)
  obtain ⟨X, hX⟩ : ∃ X, w.alloc (.cells #[.slice none 0 0, .slice none 0 0, .slice none 0 0, .string ⟨#[]⟩] 31) = X := ⟨_, rfl⟩
  rw [hX] at K0
  have HC1 : Hid (Calls Try.prog 49 #[.slice (some ⟨gb, off, none⟩) n c, .int .i64 0] X fun e w' => CntP l e ∧ Below X.heap.size X w') := Lib.hid (rcounts_any l _ B n c 0 X K0.out.sb (by have := K0.out.rb.lt; have := K0.out.lo; omega) hb (by omega))
  have HQ := Lib.hid hq
  obtain ⟨h1, e1⟩ : ∃ h1, hdOf l = h1 := ⟨_, rfl⟩
  have HC1' : Hid (Calls Try.prog 49 #[.slice (some ⟨gb, off, none⟩) n c, .int .i64 0] X fun e w' => e = .returned (.tuple #[hdArr h1, .int .u8 h1.version, .bool true]) ∧ Below X.heap.size X w') := Lib.hid (HC1.out.mono fun e w' ⟨hc, hw⟩ => ⟨by rw [← e1]; exact hc.2 hq, hw⟩)
  have hv1 : h1.version = l.getD 4 0 := by rw [← e1]; rfl
  have HL1 : Hid (∀ V, Calls Try.prog 50 #[hdArr h1, .int .i64 4] V fun e w' => e = .returned (.int .i64 (longN h1 4)) ∧ Below V.heap.size V w') := Lib.hid fun V => rlong_any h1 4 (.inl rfl) (by rw [← e1]; exact hdOk_bytes hb) V
  have hN9 : longN h1 4 ≤ 900000000000 := by
    obtain ⟨o1, o2, o3, o4, o5, o6⟩ : HdOk h1 := by rw [← e1]; exact hdOk_bytes hb
    unfold longN restN; omega
  obtain ⟨N1, hN1⟩ : ∃ N1, longN h1 4 = N1 := ⟨_, rfl⟩
  rw [hN1] at HL1 hN9
  rw [← hv1] at hv
  have v0 : decide ((h1.version : Int) = 0) = false := by simp; omega
  have v1 : ((h1.version : Int) == 0) = false := by simp; omega
  have v2 : ((h1.version : Int) != 0) = true := by simp; omega
  have i1 : (0 : Int) ≤ (N1 : Int) := by omega
  have i2 : (N1 : Int) ≤ 900000000000 := by omega
  have i3 : (n : Int) ≤ 1000000 := by omega
  have i4 : (0 : Int) ≤ (n : Int) := by omega
  unfold hdArr at HC1' HL1
  rw [e1, hN1] at hl
  have j1 : ¬ (n : Int) - 44 < (N1 : Int) := by omega
  obtain ⟨s2, hs2⟩ : ∃ s2, 44 + N1 = s2 := ⟨_, rfl⟩
  have j2 : (44 : Int) + (N1 : Int) = (s2 : Int) := by omega
  rw [e1, hN1, hs2] at hq2
  have HC2 : Hid (∀ V, Qk w V B (some ⟨gb, off, none⟩) n c l → Calls Try.prog 49 #[.slice (some ⟨gb, off, none⟩) n c, .int .i64 s2] V fun e w' => CntP (l.drop s2) e ∧ Below V.heap.size V w') := Lib.hid fun V hV => rcounts_any l _ B n c s2 V hV.sb (by have := hV.rb.lt; have := hV.lo; omega) hb (by omega)
  rw [e1, hN1, hs2] at hv2
  obtain ⟨h2, e2⟩ : ∃ h2, hdOf (l.drop s2) = h2 := ⟨_, rfl⟩
  have HC2' : Hid (∀ V, Qk w V B (some ⟨gb, off, none⟩) n c l → Calls Try.prog 49 #[.slice (some ⟨gb, off, none⟩) n c, .int .i64 s2] V fun e w' => e = .returned (.tuple #[hdArr h2, .int .u8 h2.version, .bool true]) ∧ Below V.heap.size V w') := Lib.hid fun V hV => (HC2.out V hV).mono fun e w' ⟨hc, hw⟩ => ⟨by rw [← e2]; exact hc.2 hq2, hw⟩
  unfold hdArr at HC2'
  have hlen2 : s2 + 44 ≤ n := by
    have h44 : 44 ≤ (l.drop s2).length := by
      unfold hdGood at hq2
      simp only [Bool.and_eq_true, decide_eq_true_eq] at hq2
      exact hq2.1.1
    rw [List.length_drop] at h44
    have := hs.1
    omega
  rw [e2] at hv2
  have x1 : ((h2.version : Int) != (h1.version : Int)) = false := by rw [hv2]; simp
  have x2 : (h2.version != h1.version) = false := by rw [hv2]; simp
  have HLM : Hid (∀ V, Calls Try.prog 50 #[hdArr h2, .int .i64 8] V fun e w' => e = .returned (.int .i64 (longN h2 8)) ∧ Below V.heap.size V w') := Lib.hid fun V => rlong_any h2 8 (.inr rfl) (by rw [← e2]; exact hdOk_bytes (drop_byt hb _)) V
  have hM9 : longN h2 8 ≤ 900000000000 := by
    obtain ⟨o1, o2, o3, o4, o5, o6⟩ : HdOk h2 := by rw [← e2]; exact hdOk_bytes (drop_byt hb _)
    unfold longN restN; omega
  obtain ⟨M, hM⟩ : ∃ M, longN h2 8 = M := ⟨_, rfl⟩
  rw [hM] at HLM hM9
  unfold hdArr at HLM
  obtain ⟨s3, hs3⟩ : ∃ s3, 88 + N1 = s3 := ⟨_, rfl⟩
  have y1 : (88 : Int) + (N1 : Int) = (s3 : Int) := by omega
  have y2 : ¬ (n : Int) < (s3 : Int) := by omega
  have y3 : ¬ n < s3 := by omega
  have y4 : (s3 : Int) ≤ (n : Int) := by omega
  have hnc := hs.2.1
  have y5 : (s3 : Int) ≤ (c : Int) := by omega
  have y6 : (n : Int) ≤ (c : Int) := by omega
  have y7 : (0 : Int) ≤ (s3 : Int) := by omega
  obtain ⟨rn, hrn⟩ : ∃ rn, n - s3 = rn := ⟨_, rfl⟩
  have z1 : (0 : Int) ≤ (M : Int) := by omega
  have z2 : (M : Int) ≤ 900000000000 := by omega
  have z3 : (0 : Int) ≤ (rn : Int) := by omega
  have z4 : (rn : Int) ≤ 1000000 := by omega
  rw [e1, hN1, hs3, hrn, hs2, e2, hM] at hr
  have z5 : ¬ (rn : Int) < (M : Int) + 2 := by omega
  have z6 : ¬ c - s3 = 0 := by omega
  have z7 : (M : Int) ≤ ((c - s3 : Nat) : Int) := by omega
  have z8 : (M : Int) ≤ (rn : Int) := by omega
  obtain ⟨lr, hlr⟩ : ∃ lr, l.drop s3 = lr := ⟨_, rfl⟩
  have hlrl : lr.length = rn := by rw [← hlr, List.length_drop]; have := hs.1; omega
  have HRB : Hid (∀ b ∈ lr, b < 256) := Lib.hid (by rw [← hlr]; exact drop_byt hb _)
  have HSR : Hid (∀ V, Qk w V B (some ⟨gb, off, none⟩) n c l → SB V B (some ⟨gb, off + s3, none⟩) rn (c - s3) lr) := Lib.hid fun V hV => by
    have := hV.sb.drop (k := s3) (by omega)
    rwa [hrn, hlr] at this
  have HBK : Hid (∀ V, Qk w V B (some ⟨gb, off, none⟩) n c l → Calls Try.prog 51 #[.slice (some ⟨gb, off + s3, none⟩) M (c - s3), hdArr h2, .int .i64 8] V fun e w' => RblP h2 lr V e w') := Lib.hid fun V hV => by
    have h0 := blockZ_take h2 lr (by rw [hM, hlrl]; omega)
    rw [hM] at h0
    refine (rblock_any h2 (lr.take M) _ B M _ V ((HSR.out V hV).take (by omega)) (by have := hV.rb.lt; have := hV.lo; omega) (fun b hx => HRB.out b (List.mem_of_mem_take hx)) (by rw [← e2]; exact hdOk_bytes (drop_byt hb _)) (by rw [hM]; exact Nat.le_refl _)).mono fun e w' hk => ?_
    unfold RblP at hk ⊢
    rwa [h0] at hk
  unfold hdArr at HBK
  rw [e1, hN1, hs2, hs3, e2, hlr] at hbz
  have HBK' : Hid (∀ V, Qk w V B (some ⟨gb, off, none⟩) n c l → Calls Try.prog 51 #[.slice (some ⟨gb, off + s3, none⟩) M (c - s3), .agg #[.int .i64 h2.uts, .int .i64 h2.stds, .int .i64 h2.leaps, .int .i64 h2.times, .int .i64 h2.types, .int .i64 h2.letters], .int .i64 8] V fun e w' => (∃ a1 n1 c1 a2 n2 c2 a3 n3 c3, e = .returned (.tuple #[.agg #[.slice a1 n1 c1, .slice a2 n2 c2, .slice a3 n3 c3, .string ⟨#[]⟩], .bool false])) ∧ Below V.heap.size V w') := Lib.hid fun V hV => (HBK.out V hV).mono fun e w' hk => by
    obtain ⟨k1, k2, k3⟩ := hk
    cases hz : blockZ h2 8 val8 lr with
    | none => exact ⟨⟨none, 0, 0, none, 0, 0, none, 0, 0, k1 hz⟩, k3⟩
    | some z =>
      obtain ⟨vt, vs, vi, he, h1, h2, h3⟩ := k2 z hz
      obtain ⟨a1, c1, rfl⟩ := h1.form
      obtain ⟨a2, c2, rfl⟩ := h2.form
      obtain ⟨a3, c3, rfl⟩ := h3.form
      rw [hbz z hz] at he
      exact ⟨⟨_, _, _, _, _, _, _, _, _, he⟩, k3⟩
  clear hs hB hb hq hv hl hv1 e1 hN1 hN9 HC1 HC2 hn hq2 hs2 hv2 e2 hlen2 hM9 hs3 hnc hr hlr hlrl hM hbz HBK
  go_enter Try.func40, Try.ntmps40
  go_wp2_with (first
    | (go_at_call 49; (try rw [hX]); refine HC1'.out.mono ?_; clear HC1'; rintro e V1 ⟨rfl, hbe⟩; have K1 := Lib.hid (K0.out.step hbe K0.out.rb.lt); have B1 := Lib.hid (ArBox.new V1 h1); clear hbe hX)
    | (go_at_call 50; refine (HL1.out _).mono ?_; clear HL1; rintro e V2 ⟨rfl, hbe⟩; have K2 := Lib.hid ((K1.out.alloc _).step hbe (by have := K1.out.rb.lt; simp; omega)); clear hbe)
    | (go_at_call 49; refine (HC2'.out _ K2.out).mono ?_; clear HC2'; rintro e V3 ⟨rfl, hbe⟩; have K3 := Lib.hid (K2.out.step hbe K2.out.rb.lt); clear hbe)
    | (go_at_call 50; refine (HLM.out _).mono ?_; clear HLM; rintro e V4 ⟨rfl, hbe⟩; have K4 := Lib.hid ((K3.out.alloc _).step hbe (by have := K3.out.rb.lt; simp; omega)); have B4 := Lib.hid ((ArBox.new V3 h2).below hbe (by simp)); clear hbe)
    | fail)
  have y8 : M ≤ c - s3 := by omega
  have b0 := B4.out.d0
  have b1 := B4.out.d1
  have b2 := B4.out.d2
  have b3 := B4.out.d3
  have b4 := B4.out.d4
  have b5 := B4.out.d5
  have g0 : ∀ o, (V4.alloc o).cell? ⟨V3.heap.size, 0, none⟩ = some (.int .i64 h2.uts) := fun o => cell_old V4 o _ _ _ B4.out.lt b0
  have g1 : ∀ o, (V4.alloc o).cell? ⟨V3.heap.size, 1, none⟩ = some (.int .i64 h2.stds) := fun o => cell_old V4 o _ _ _ B4.out.lt b1
  have g2 : ∀ o, (V4.alloc o).cell? ⟨V3.heap.size, 2, none⟩ = some (.int .i64 h2.leaps) := fun o => cell_old V4 o _ _ _ B4.out.lt b2
  have g3 : ∀ o, (V4.alloc o).cell? ⟨V3.heap.size, 3, none⟩ = some (.int .i64 h2.times) := fun o => cell_old V4 o _ _ _ B4.out.lt b3
  have g4 : ∀ o, (V4.alloc o).cell? ⟨V3.heap.size, 4, none⟩ = some (.int .i64 h2.types) := fun o => cell_old V4 o _ _ _ B4.out.lt b4
  have g5 : ∀ o, (V4.alloc o).cell? ⟨V3.heap.size, 5, none⟩ = some (.int .i64 h2.letters) := fun o => cell_old V4 o _ _ _ B4.out.lt b5
  go_cut [13, 14] (fun u13 u14 wx => u14 = .bool false ∧ Qk w wx B (some ⟨gb, off, none⟩) n c l)
  have h4 : w.heap.size + 1 ≤ V4.heap.size := K4.out.rb.lt
  case first =>
    go_region_with (first
      | (go_at_call 51; refine (HBK'.out _ (K4.out.drewn)).mono ?_; clear HBK'; rintro e V5 ⟨⟨a1, n1, c1, a2, n2, c2, a3, n3, c3, rfl⟩, hbe⟩; have K5 := Lib.hid (K4.out.drewn.step hbe K4.out.drewn.rb.lt); clear hbe)
      | (go_at_call 51; refine (HBK'.out _ (K4.out.alloc _).drewn).mono ?_; clear HBK'; rintro e V5 ⟨⟨a1, n1, c1, a2, n2, c2, a3, n3, c3, rfl⟩, hbe⟩; have ZR := Lib.hid (zn_late V4 V5 31 hbe); have K5 := Lib.hid ((K4.out.alloc _).drewn.step hbe (K4.out.alloc _).drewn.rb.lt); clear hbe; have k0 := ZR.out.c0; have k1 := ZR.out.c1; have k2 := ZR.out.c2; have k3 := ZR.out.c3; have f0 := ZR.out.fr 0; have f1 := ZR.out.fr 1; have f2 := ZR.out.fr 2; have f3 := ZR.out.fr 3; have HS1 := ZR.out.lt)
      | fail)
    all_goals go_wp2_with fail
    all_goals go_meet
    all_goals (have h5 : w.heap.size + 1 ≤ V5.heap.size := K5.out.rb.lt; first
      | exact ⟨rfl, K5.out.step (C := w.heap.size + 1) (((((Below.refl _ V5).setCell h4 _).setCell h4 _).setCell h4 _).setCell h4 _) (Nat.le_refl _)⟩
      | exact ⟨rfl, K5.out.step (C := w.heap.size + 1) ((Below.refl _ V5).alloc h5 _) (Nat.le_refl _)⟩)
  case rest =>
    obtain ⟨rfl, hqc⟩ := hcut
    have KC := Lib.hid hqc
    clear hqc
    have t1 : (rn : Int) ≤ ((c - s3 : Nat) : Int) := by omega
    have k0 := KC.out.rb.c0
    have k1 := KC.out.rb.c1
    have k2 := KC.out.rb.c2
    have k3 := KC.out.rb.c3
    have f0 := KC.out.rb.fr 0
    have f1 := KC.out.rb.fr 1
    have f2 := KC.out.rb.fr 2
    have f3 := KC.out.rb.fr 3
    have HS1 := KC.out.rb.lt
    go_wp2_with fail
    exact bodyPost_ret (v := .tuple #[noZone, .bool false]) (by simp [results, Try.results40, go_sem, noZone, k0, k1, k2, k3]) rfl ⟨rfl, KC.out.bl.trans (((((Below.refl w.heap.size wc).setCell (Nat.le_refl _) _).setCell (Nat.le_refl _) _).setCell (Nat.le_refl _) _).setCell (Nat.le_refl _) _)⟩
end Go.Proofs.Ytohpdpcjhmopbaa.Tz
