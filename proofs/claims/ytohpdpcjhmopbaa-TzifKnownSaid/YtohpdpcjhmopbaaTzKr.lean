/-
  Layer 6 (tzif): the document's Parse: where all is well (written by gen_kr6.py).
-/
import Derived.Test.YtohpdpcjhmopbaaTzKq
namespace Go.Proofs.Ytohpdpcjhmopbaa.Tz
open Go.RowKit

/-- A zone's rows in the call's own memory, the document's types. -/
structure ZnR (w : World) (base : Nat) (z : Zn) (vt vs vi : Value) : Prop where
  types : OwnT w base vt z.types
  times : OwnI w base 2 vs z.times
  index : OwnI w base 3 vi z.index
section
variable {w w' : World} {base : Nat} {z : Zn} {vt vs vi : Value}
theorem ZnR.keep (h : ZnR w base z vt vs vi) (hb : Below w.heap.size w w') : ZnR w' base z vt vs vi := ⟨h.types.keep hb, h.times.keep hb, h.index.keep hb⟩
theorem ZnR.other {g : Nat} (h : ZnR w base z vt vs vi) (hg : w.grownBy w' (some g)) (hb : g < base) : ZnR w' base z vt vs vi := ⟨h.types.other hg hb, h.times.other hg hb, h.index.other hg hb⟩
theorem ZnR.at_ (h : ZnR w base z vt vs vi) : ZnAt w w.heap.size z vt vs vi := ⟨h.types.sl (Nat.le_refl _), h.times.sl (Nat.le_refl _), h.index.sl (Nat.le_refl _)⟩
theorem ZnR.lower {b : Nat} (h : ZnR w base z vt vs vi) (hc : b ≤ base) : ZnR w b z vt vs vi := ⟨h.types.lower hc, h.times.lower hc, h.index.lower hc⟩
theorem ZnR.foot (h : ZnR w base z vt vs vi) (f : ByteArray) : ZnR w base { z with footer := f } vt vs vi := ⟨h.types, h.times, h.index⟩
end
/-- Behind the block: the zone's variable and its rows. -/
structure ZbP (w wx : World) (zb : Nat) (z : Zn) (a1 : Option Addr) (c1 : Nat) (a2 : Option Addr) (c2 : Nat) (a3 : Option Addr) (c3 : Nat) : Prop where
  lt : w.heap.size < zb
  box : ZnBox wx zb (.slice a1 z.types.length c1) (.slice a2 z.times.length c2) (.slice a3 z.index.length c3) (.string ⟨#[]⟩)
  rows : ∀ U, wx.grownBy U (some zb) → ZnR U (w.heap.size + 1) z (.slice a1 z.types.length c1) (.slice a2 z.times.length c2) (.slice a3 z.index.length c3)
section
variable {w V : World} {z : Zn} {a1 a2 a3 : Option Addr} {c1 c2 c3 : Nat}
theorem ZbP.after {base : Nat} (h : ZnR V base z (.slice a1 z.types.length c1) (.slice a2 z.times.length c2) (.slice a3 z.index.length c3)) (hb : w.heap.size + 1 ≤ base) (hV : w.heap.size < V.heap.size) (t : TypeId) :
    ZbP w (V.alloc (.cells #[.slice a1 z.types.length c1, .slice a2 z.times.length c2, .slice a3 z.index.length c3, .string ⟨#[]⟩] t)) V.heap.size z a1 c1 a2 c2 a3 c3 :=
  ⟨hV, ZnBox.new V _ rfl _ _ _ _ t, fun _ hg => (h.lower hb).keep (((Below.refl V.heap.size V).alloc (Nat.le_refl _) _).trans (below_of_gb hg (Nat.le_refl _) (by simp)))⟩
theorem ZbP.ahead {base Q : Nat} (h : ZnR V base z (.slice a1 z.types.length c1) (.slice a2 z.times.length c2) (.slice a3 z.index.length c3)) (hb : w.heap.size + 1 ≤ base) (hQ : w.heap.size < Q) (hq : Q < base) {u0 u1 u2 u3 : Value} (hz : ZnBox V Q u0 u1 u2 u3) :
    ZbP w ((((V.setCell ⟨Q, 0, none⟩ (.slice a1 z.types.length c1)).setCell ⟨Q, 1, none⟩ (.slice a2 z.times.length c2)).setCell ⟨Q, 2, none⟩ (.slice a3 z.index.length c3)).setCell ⟨Q, 3, none⟩ (.string ⟨#[]⟩)) Q z a1 c1 a2 c2 a3 c3 :=
  ⟨hQ, (((hz.set0 _).set1 _).set2 _).set3 _, fun _ hg => (h.other (((((grown_set V Q 0 _).trans (grown_set _ Q 1 _)).trans (grown_set _ Q 2 _)).trans (grown_set _ Q 3 _)).trans hg) hq).lower hb⟩
end
set_option maxRecDepth 100000 in
set_option maxHeartbeats 1000000 in
theorem rparse_g (l : List Nat) (gb off B n c : Nat) (w : World) (hs : SB w B (some ⟨gb, off, none⟩) n c l) (hB : B ≤ w.heap.size) (hb : ∀ b ∈ l, b < 256) (hn : n ≤ 1000000) (hq : hdGood l = true) (hv : l.getD 4 0 ≠ 0) (hl : 44 + longN (hdOf l) 4 ≤ n) (hq2 : hdGood (l.drop (44 + longN (hdOf l) 4)) = true) (hv2 : (hdOf (l.drop (44 + longN (hdOf l) 4))).version = (hdOf l).version) (hr : ¬ n - (88 + longN (hdOf l) 4) < longN (hdOf (l.drop (44 + longN (hdOf l) 4))) 8 + 2) (z : Zn) (hz : blockZ (hdOf (l.drop (44 + longN (hdOf l) 4))) 8 val8 (l.drop (88 + longN (hdOf l) 4)) = some z) (hR : rightZ z = true) (hE : (((l.drop (88 + longN (hdOf l) 4)).drop (longN (hdOf (l.drop (44 + longN (hdOf l) 4))) 8)))[0]? = some 10 ∧ (((l.drop (88 + longN (hdOf l) 4)).drop (longN (hdOf (l.drop (44 + longN (hdOf l) 4))) 8)))[((l.drop (88 + longN (hdOf l) 4)).drop (longN (hdOf (l.drop (44 + longN (hdOf l) 4))) 8)).length - 1]? = some 10) (F : ByteArray) (hF : strOfNums (natsI ((((l.drop (88 + longN (hdOf l) 4)).drop (longN (hdOf (l.drop (44 + longN (hdOf l) 4))) 8)).drop 1).take (((l.drop (88 + longN (hdOf l) 4)).drop (longN (hdOf (l.drop (44 + longN (hdOf l) 4))) 8)).length - 2))) = F) (hok : ZnOk { z with footer := F }) (hRF : rightZ { z with footer := F } = false) :
    Calls Try.prog 40 #[.slice (some ⟨gb, off, none⟩) n c] w fun e w' => e = .returned (.tuple #[noZone, .bool false]) ∧ Below w.heap.size w w' := by
  have K0 := Lib.hid (Qk.start hs hB)
  obtain ⟨X, hX⟩ : ∃ X, w.alloc (.cells #[.slice none 0 0, .slice none 0 0, .slice none 0 0, .string ⟨#[]⟩] 31) = X := ⟨_, rfl⟩
  rw [hX] at K0
  have HC1 : Hid (Calls Try.prog 49 #[.slice (some ⟨gb, off, none⟩) n c, .int .i64 0] X fun e w' => CntP l e ∧ Below X.heap.size X w') := Lib.hid (rcounts_any l _ B n c 0 X K0.out.sb (by have := K0.out.rb.lt; have := K0.out.lo; omega) hb (by omega))
  have HQ := Lib.hid hq
  obtain ⟨h1, e1⟩ : ∃ h1, hdOf l = h1 := ⟨_, rfl⟩
  have HC1' : Hid (Calls Try.prog 49 #[.slice (some ⟨gb, off, none⟩) n c, .int .i64 0] X fun e w' => e = .returned (.tuple #[hdArr h1, .int .u8 h1.version, .bool true]) ∧ Below X.heap.size X w') := Lib.hid (HC1.out.mono fun e w' ⟨hc, hw⟩ => ⟨by rw [← e1]; exact hc.2 hq, hw⟩)
  have hv1 : h1.version = l.getD 4 0 := by rw [← e1]; rfl
  have HL1 : Hid (∀ V, Calls Try.prog 50 #[hdArr h1, .int .i64 4] V fun e w' => e = .returned (.int .i64 (longN h1 4)) ∧ Below V.heap.size V w') := Lib.hid fun V => rlong_any h1 4 (.inl rfl) (by rw [← e1]; exact hdOk_bytes hb) V
  have hN9 : longN h1 4 ≤ 900000000000 := by
    obtain ⟨o1, o2, o3, o4, o5, o6⟩ : HdOk h1 := by rw [← e1]; exact hdOk_bytes hb
    unfold longN restN; omega
  obtain ⟨N1, hN1⟩ : ∃ N1, longN h1 4 = N1 := ⟨_, rfl⟩
  rw [hN1] at HL1 hN9
  rw [← hv1] at hv
  have v0 : decide ((h1.version : Int) = 0) = false := by simp; omega
  have v1 : ((h1.version : Int) == 0) = false := by simp; omega
  have v2 : ((h1.version : Int) != 0) = true := by simp; omega
  have i1 : (0 : Int) ≤ (N1 : Int) := by omega
  have i2 : (N1 : Int) ≤ 900000000000 := by omega
  have i3 : (n : Int) ≤ 1000000 := by omega
  have i4 : (0 : Int) ≤ (n : Int) := by omega
  unfold hdArr at HC1' HL1
  rw [e1, hN1] at hl
  have j1 : ¬ (n : Int) - 44 < (N1 : Int) := by omega
  obtain ⟨s2, hs2⟩ : ∃ s2, 44 + N1 = s2 := ⟨_, rfl⟩
  have j2 : (44 : Int) + (N1 : Int) = (s2 : Int) := by omega
  rw [e1, hN1, hs2] at hq2
  have HC2 : Hid (∀ V, Qk w V B (some ⟨gb, off, none⟩) n c l → Calls Try.prog 49 #[.slice (some ⟨gb, off, none⟩) n c, .int .i64 s2] V fun e w' => CntP (l.drop s2) e ∧ Below V.heap.size V w') := Lib.hid fun V hV => rcounts_any l _ B n c s2 V hV.sb (by have := hV.rb.lt; have := hV.lo; omega) hb (by omega)
  rw [e1, hN1, hs2] at hv2
  obtain ⟨h2, e2⟩ : ∃ h2, hdOf (l.drop s2) = h2 := ⟨_, rfl⟩
  have HC2' : Hid (∀ V, Qk w V B (some ⟨gb, off, none⟩) n c l → Calls Try.prog 49 #[.slice (some ⟨gb, off, none⟩) n c, .int .i64 s2] V fun e w' => e = .returned (.tuple #[hdArr h2, .int .u8 h2.version, .bool true]) ∧ Below V.heap.size V w') := Lib.hid fun V hV => (HC2.out V hV).mono fun e w' ⟨hc, hw⟩ => ⟨by rw [← e2]; exact hc.2 hq2, hw⟩
  unfold hdArr at HC2'
  have hlen2 : s2 + 44 ≤ n := by
    have h44 : 44 ≤ (l.drop s2).length := by
      unfold hdGood at hq2
      simp only [Bool.and_eq_true, decide_eq_true_eq] at hq2
      exact hq2.1.1
    rw [List.length_drop] at h44
    have := hs.1
    omega
  rw [e2] at hv2
  have x1 : ((h2.version : Int) != (h1.version : Int)) = false := by rw [hv2]; simp
  have x2 : (h2.version != h1.version) = false := by rw [hv2]; simp
  have HLM : Hid (∀ V, Calls Try.prog 50 #[hdArr h2, .int .i64 8] V fun e w' => e = .returned (.int .i64 (longN h2 8)) ∧ Below V.heap.size V w') := Lib.hid fun V => rlong_any h2 8 (.inr rfl) (by rw [← e2]; exact hdOk_bytes (drop_byt hb _)) V
  have hM9 : longN h2 8 ≤ 900000000000 := by
    obtain ⟨o1, o2, o3, o4, o5, o6⟩ : HdOk h2 := by rw [← e2]; exact hdOk_bytes (drop_byt hb _)
    unfold longN restN; omega
  obtain ⟨M, hM⟩ : ∃ M, longN h2 8 = M := ⟨_, rfl⟩
  rw [hM] at HLM hM9
  unfold hdArr at HLM
  obtain ⟨s3, hs3⟩ : ∃ s3, 88 + N1 = s3 := ⟨_, rfl⟩
  have y1 : (88 : Int) + (N1 : Int) = (s3 : Int) := by omega
  have y2 : ¬ (n : Int) < (s3 : Int) := by omega
  have y3 : ¬ n < s3 := by omega
  have y4 : (s3 : Int) ≤ (n : Int) := by omega
  have hnc := hs.2.1
  have y5 : (s3 : Int) ≤ (c : Int) := by omega
  have y6 : (n : Int) ≤ (c : Int) := by omega
  have y7 : (0 : Int) ≤ (s3 : Int) := by omega
  obtain ⟨rn, hrn⟩ : ∃ rn, n - s3 = rn := ⟨_, rfl⟩
  have z1 : (0 : Int) ≤ (M : Int) := by omega
  have z2 : (M : Int) ≤ 900000000000 := by omega
  have z3 : (0 : Int) ≤ (rn : Int) := by omega
  have z4 : (rn : Int) ≤ 1000000 := by omega
  rw [e1, hN1, hs3, hrn, hs2, e2, hM] at hr
  have z5 : ¬ (rn : Int) < (M : Int) + 2 := by omega
  have z6 : ¬ c - s3 = 0 := by omega
  have z7 : (M : Int) ≤ ((c - s3 : Nat) : Int) := by omega
  have z8 : (M : Int) ≤ (rn : Int) := by omega
  obtain ⟨lr, hlr⟩ : ∃ lr, l.drop s3 = lr := ⟨_, rfl⟩
  have hlrl : lr.length = rn := by rw [← hlr, List.length_drop]; have := hs.1; omega
  have HRB : Hid (∀ b ∈ lr, b < 256) := Lib.hid (by rw [← hlr]; exact drop_byt hb _)
  have HSR : Hid (∀ V, Qk w V B (some ⟨gb, off, none⟩) n c l → SB V B (some ⟨gb, off + s3, none⟩) rn (c - s3) lr) := Lib.hid fun V hV => by
    have := hV.sb.drop (k := s3) (by omega)
    rwa [hrn, hlr] at this
  have HBK : Hid (∀ V, Qk w V B (some ⟨gb, off, none⟩) n c l → Calls Try.prog 51 #[.slice (some ⟨gb, off + s3, none⟩) M (c - s3), hdArr h2, .int .i64 8] V fun e w' => RblP h2 lr V e w') := Lib.hid fun V hV => by
    have h0 := blockZ_take h2 lr (by rw [hM, hlrl]; omega)
    rw [hM] at h0
    refine (rblock_any h2 (lr.take M) _ B M _ V ((HSR.out V hV).take (by omega)) (by have := hV.rb.lt; have := hV.lo; omega) (fun b hx => HRB.out b (List.mem_of_mem_take hx)) (by rw [← e2]; exact hdOk_bytes (drop_byt hb _)) (by rw [hM]; exact Nat.le_refl _)).mono fun e w' hk => ?_
    unfold RblP at hk ⊢
    rwa [h0] at hk
  unfold hdArr at HBK
  rw [e1, hN1, hs2, hs3, e2, hlr] at hz
  rw [e1, hN1, hs2, hs3, e2, hM, hlr] at hE hF
  have HBK' : Hid (∀ V, Qk w V B (some ⟨gb, off, none⟩) n c l → Calls Try.prog 51 #[.slice (some ⟨gb, off + s3, none⟩) M (c - s3), .agg #[.int .i64 h2.uts, .int .i64 h2.stds, .int .i64 h2.leaps, .int .i64 h2.times, .int .i64 h2.types, .int .i64 h2.letters], .int .i64 8] V fun e w' => (∃ a1 c1 a2 c2 a3 c3, e = .returned (.tuple #[.agg #[.slice a1 z.types.length c1, .slice a2 z.times.length c2, .slice a3 z.index.length c3, .string ⟨#[]⟩], .bool true]) ∧ ZnR w' (V.heap.size + 3) z (.slice a1 z.types.length c1) (.slice a2 z.times.length c2) (.slice a3 z.index.length c3)) ∧ Below V.heap.size V w') := Lib.hid fun V hV => (HBK.out V hV).mono fun e w' hk => by
    obtain ⟨k1, k2, k3⟩ := hk
    obtain ⟨vt, vs, vi, he, h1, h2, h3⟩ := k2 z hz
    obtain ⟨a1, c1, rfl⟩ := h1.form
    obtain ⟨a2, c2, rfl⟩ := h2.form
    obtain ⟨a3, c3, rfl⟩ := h3.form
    rw [hR] at he
    exact ⟨⟨_, _, _, _, _, _, he, ⟨h1, h2, h3⟩⟩, k3⟩
  have hlrM : (lr.drop M).length = rn - M := by rw [List.length_drop, hlrl]
  obtain ⟨en, hen⟩ : ∃ en, rn - M = en := ⟨_, rfl⟩
  obtain ⟨p, hp⟩ : ∃ p, en = p + 1 := ⟨en - 1, by omega⟩
  rw [hlrM, hen] at hE
  have hE0 : (lr.drop M).length = en := by rw [hlrM, hen]
  have hEL : ∀ V, Qk w V B (some ⟨gb, off, none⟩) n c l → SB V B (some ⟨gb, off + s3 + M, none⟩) en (c - s3 - M) (lr.drop M) := fun V hV => by
    have := (HSR.out V hV).drop (k := M) (by omega)
    rwa [hen] at this
  obtain ⟨b0, hb0⟩ : ∃ b0, (lr.drop M)[0]? = some b0 := by
    rw [List.getElem?_eq_getElem (by omega)]; exact ⟨_, rfl⟩
  obtain ⟨b1, hb1⟩ : ∃ b1, (lr.drop M)[p]? = some b1 := by
    rw [List.getElem?_eq_getElem (by omega)]; exact ⟨_, rfl⟩
  have HE0 : Hid (∀ V, Qk w V B (some ⟨gb, off, none⟩) n c l → V.cell? ⟨gb, off + s3 + M, none⟩ = some (.int .u8 b0)) := Lib.hid fun V hV => by
    have := (hEL V hV).cells 0 b0 hb0
    rw [Nat.add_zero] at this
    exact this
  have HE1 : Hid (∀ V, Qk w V B (some ⟨gb, off, none⟩) n c l → V.cell? ⟨gb, off + s3 + M + p, none⟩ = some (.int .u8 b1)) := Lib.hid fun V hV => (hEL V hV).cells p b1 hb1
  have r1 : (en : Int) - 1 = (p : Int) := by omega
  have r2 : (p : Int) < (en : Int) := by omega
  have r3 : (0 : Int) ≤ (p : Int) := by omega
  have r4 : (0 : Int) < (en : Int) := by omega
  have r5 : (en : Int) ≤ 1000000 := by omega
  rw [hb0, show en - 1 = p by omega, hb1] at hE
  have hFt : strOfNums (natsI (((lr.drop M).drop 1).take ((lr.drop M).length - 2))) = F := hF
  rw [hE0, show en - 2 = p - 1 by omega] at hFt
  have HTX : Hid (∀ V, Qk w V B (some ⟨gb, off, none⟩) n c l → (convert 33 9 (.slice (some ⟨gb, off + s3 + M + 1, none⟩) (p - 1) (c - s3 - M - 1))).run Try.prog V = .ok (.string F) V) := Lib.hid fun V hV => by
    have := (((hEL V hV).drop (k := 1) (by omega)).take (k := p - 1) (by omega)).texts
    rwa [hFt] at this
  have hj0 : (1 : Int) ≤ (p : Int) := by omega
  have hj2 : ¬ (p : Int) < 1 := by omega
  have hpc : (p : Int) ≤ ((c - s3 - M : Nat) : Int) := by omega
  have hck : ¬ c - s3 - M - 1 = 0 := by omega
  have w3 : b0 = 10 := by have := hE.1; injection this
  have w4 : b1 = 10 := by have := hE.2; injection this
  subst w3
  subst w4
  have HRT : Hid (∀ V' a1 c1 a2 c2 a3 c3, ZnR V' (w.heap.size + 1) z (.slice a1 z.types.length c1) (.slice a2 z.times.length c2) (.slice a3 z.index.length c3) → Calls Try.prog 12 #[.agg #[.slice a1 z.types.length c1, .slice a2 z.times.length c2, .slice a3 z.index.length c3, .string F]] V' fun e w' => e = .returned (.bool false) ∧ Below V'.heap.size V' w') := Lib.hid fun V' a1 c1 a2 c2 a3 c3 hv => by
    have := rright_any { z with footer := F } _ _ _ _ V' (hv.foot F).at_ hok (Nat.le_refl _)
    rwa [hRF] at this
  clear hs hB hb hq hv hl hv1 e1 hN1 hN9 HC1 HC2 hn hq2 hs2 hv2 e2 hlen2 hM9 hs3 hnc hr hlr hlrl hM hz hR HBK hlrM hp hE0 hEL hb0 hb1 hE hF hFt hok hRF
  go_enter Try.func40, Try.ntmps40
  go_wp2_with (first
    | (go_at_call 49; (try rw [hX]); refine HC1'.out.mono ?_; clear HC1'; rintro e V1 ⟨rfl, hbe⟩; have K1 := Lib.hid (K0.out.step hbe K0.out.rb.lt); have B1 := Lib.hid (ArBox.new V1 h1); clear hbe hX)
    | (go_at_call 50; refine (HL1.out _).mono ?_; clear HL1; rintro e V2 ⟨rfl, hbe⟩; have K2 := Lib.hid ((K1.out.alloc _).step hbe (by have := K1.out.rb.lt; simp; omega)); clear hbe)
    | (go_at_call 49; refine (HC2'.out _ K2.out).mono ?_; clear HC2'; rintro e V3 ⟨rfl, hbe⟩; have K3 := Lib.hid (K2.out.step hbe K2.out.rb.lt); clear hbe)
    | (go_at_call 50; refine (HLM.out _).mono ?_; clear HLM; rintro e V4 ⟨rfl, hbe⟩; have K4 := Lib.hid ((K3.out.alloc _).step hbe (by have := K3.out.rb.lt; simp; omega)); have B4 := Lib.hid ((ArBox.new V3 h2).below hbe (by simp)); clear hbe)
    | fail)
  have y8 : M ≤ c - s3 := by omega
  have b0 := B4.out.d0
  have b1 := B4.out.d1
  have b2 := B4.out.d2
  have b3 := B4.out.d3
  have b4 := B4.out.d4
  have b5 := B4.out.d5
  have g0 : ∀ o, (V4.alloc o).cell? ⟨V3.heap.size, 0, none⟩ = some (.int .i64 h2.uts) := fun o => cell_old V4 o _ _ _ B4.out.lt b0
  have g1 : ∀ o, (V4.alloc o).cell? ⟨V3.heap.size, 1, none⟩ = some (.int .i64 h2.stds) := fun o => cell_old V4 o _ _ _ B4.out.lt b1
  have g2 : ∀ o, (V4.alloc o).cell? ⟨V3.heap.size, 2, none⟩ = some (.int .i64 h2.leaps) := fun o => cell_old V4 o _ _ _ B4.out.lt b2
  have g3 : ∀ o, (V4.alloc o).cell? ⟨V3.heap.size, 3, none⟩ = some (.int .i64 h2.times) := fun o => cell_old V4 o _ _ _ B4.out.lt b3
  have g4 : ∀ o, (V4.alloc o).cell? ⟨V3.heap.size, 4, none⟩ = some (.int .i64 h2.types) := fun o => cell_old V4 o _ _ _ B4.out.lt b4
  have g5 : ∀ o, (V4.alloc o).cell? ⟨V3.heap.size, 5, none⟩ = some (.int .i64 h2.letters) := fun o => cell_old V4 o _ _ _ B4.out.lt b5
  go_cut [13, 14] (fun u13 u14 wx => ∃ zb a1 c1 a2 c2 a3 c3, u13 = .pointer (some ⟨zb, 0, none⟩) ∧ u14 = .bool true ∧ Qk w wx B (some ⟨gb, off, none⟩) n c l ∧ ZbP w wx zb z a1 c1 a2 c2 a3 c3)
  have h4 : w.heap.size + 1 ≤ V4.heap.size := K4.out.rb.lt
  case first =>
    go_region_with (first
      | (go_at_call 51; refine (HBK'.out _ (K4.out.drewn)).mono ?_; clear HBK'; rintro e V5 ⟨⟨a1, c1, a2, c2, a3, c3, rfl, hzr⟩, hbe⟩; have ZS := Lib.hid hzr; clear hzr; have K5 := Lib.hid (K4.out.drewn.step hbe K4.out.drewn.rb.lt); clear hbe)
      | (go_at_call 51; refine (HBK'.out _ (K4.out.alloc _).drewn).mono ?_; clear HBK'; rintro e V5 ⟨⟨a1, c1, a2, c2, a3, c3, rfl, hzr⟩, hbe⟩; have ZS := Lib.hid hzr; clear hzr; have ZR := Lib.hid (zn_late V4 V5 31 hbe); have K5 := Lib.hid ((K4.out.alloc _).drewn.step hbe (K4.out.alloc _).drewn.rb.lt); clear hbe; have k0 := ZR.out.c0; have k1 := ZR.out.c1; have k2 := ZR.out.c2; have k3 := ZR.out.c3; have f0 := ZR.out.fr 0; have f1 := ZR.out.fr 1; have f2 := ZR.out.fr 2; have f3 := ZR.out.fr 3; have HS1 := ZR.out.lt)
      | fail)
    all_goals go_wp2_with fail
    all_goals go_meet
    all_goals (have h5 : w.heap.size + 1 ≤ V5.heap.size := K5.out.rb.lt; first
      | exact ⟨_, _, _, _, _, _, _, rfl, rfl, K5.out.step (C := w.heap.size + 1) (((((Below.refl _ V5).setCell h4 _).setCell h4 _).setCell h4 _).setCell h4 _) (Nat.le_refl _), ZbP.ahead ZS.out (by simp; omega) h4 (by simp; omega) ZR.out⟩
      | exact ⟨_, _, _, _, _, _, _, rfl, rfl, K5.out.step (C := w.heap.size + 1) ((Below.refl _ V5).alloc h5 _) (Nat.le_refl _), ZbP.after ZS.out (by simp; omega) h5 _⟩)
  case rest =>
    obtain ⟨zb, a1, c1, a2, c2, a3, c3, rfl, rfl, hqc, hzb⟩ := hcut
    have ZC := Lib.hid hzb
    clear hzb
    have KC := Lib.hid hqc
    clear hqc
    have t1 : (rn : Int) ≤ ((c - s3 : Nat) : Int) := by omega
    have m0 := HE0.out _ KC.out
    have m1 := HE1.out _ KC.out
    have ht := HTX.out _ KC.out
    have k0 := KC.out.rb.c0
    have k1 := KC.out.rb.c1
    have k2 := KC.out.rb.c2
    have k3 := KC.out.rb.c3
    have f0 := KC.out.rb.fr 0
    have f1 := KC.out.rb.fr 1
    have f2 := KC.out.rb.fr 2
    have f3 := KC.out.rb.fr 3
    have HS1 := KC.out.rb.lt
    have n0 := ZC.out.box.c0
    have n1 := ZC.out.box.c1
    have n2 := ZC.out.box.c2
    have n3 := ZC.out.box.c3
    have i0 := ZC.out.box.fr 3
    have i1 := ZC.out.box.lt
    go_wp2_with (first
      | (go_at_call 12; refine (HRT.out _ _ _ _ _ _ _ (ZC.out.rows _ (grown_set _ _ _ _))).mono ?_; clear HRT; rintro e V6 ⟨rfl, hbe⟩; have ZR6 := Lib.hid ((ZC.out.rows _ (grown_set wc zb 3 (.string F))).keep hbe); have K7 := Lib.hid (KC.out.step (C := w.heap.size + 1) ((Below.refl _ wc).setCell (p := ⟨zb, 3, none⟩) ZC.out.lt (.string F)) (Nat.le_refl _)); have K6 := Lib.hid (K7.out.step hbe K7.out.rb.lt); have BX := Lib.hid ((ZC.out.box.set3 (.string F)).below hbe (by simpa using ZC.out.box.lt)); clear hbe k0 k1 k2 k3 f0 f1 f2 f3 HS1 n0 n1 n2 n3 i0 i1 m0 m1 ht; have k0 := K6.out.rb.c0; have k1 := K6.out.rb.c1; have k2 := K6.out.rb.c2; have k3 := K6.out.rb.c3; have f0 := K6.out.rb.fr 0; have f1 := K6.out.rb.fr 1; have f2 := K6.out.rb.fr 2; have f3 := K6.out.rb.fr 3; have HS1 := K6.out.rb.lt; have n0 := BX.out.c0; have n1 := BX.out.c1; have n2 := BX.out.c2; have n3 := BX.out.c3)
      | fail)
    exact bodyPost_ret (v := .tuple #[noZone, .bool false]) (by simp [results, Try.results40, go_sem, noZone, k0, k1, k2, k3]) rfl ⟨rfl, K6.out.bl.trans (((((Below.refl w.heap.size V6).setCell (Nat.le_refl _) _).setCell (Nat.le_refl _) _).setCell (Nat.le_refl _) _).setCell (Nat.le_refl _) _)⟩
set_option maxRecDepth 100000 in
set_option maxHeartbeats 1000000 in
theorem rparse_h (l : List Nat) (gb off B n c : Nat) (w : World) (hs : SB w B (some ⟨gb, off, none⟩) n c l) (hB : B ≤ w.heap.size) (hb : ∀ b ∈ l, b < 256) (hn : n ≤ 1000000) (hq : hdGood l = true) (hv : l.getD 4 0 ≠ 0) (hl : 44 + longN (hdOf l) 4 ≤ n) (hq2 : hdGood (l.drop (44 + longN (hdOf l) 4)) = true) (hv2 : (hdOf (l.drop (44 + longN (hdOf l) 4))).version = (hdOf l).version) (hr : ¬ n - (88 + longN (hdOf l) 4) < longN (hdOf (l.drop (44 + longN (hdOf l) 4))) 8 + 2) (z : Zn) (hz : blockZ (hdOf (l.drop (44 + longN (hdOf l) 4))) 8 val8 (l.drop (88 + longN (hdOf l) 4)) = some z) (hR : rightZ z = true) (hE : (((l.drop (88 + longN (hdOf l) 4)).drop (longN (hdOf (l.drop (44 + longN (hdOf l) 4))) 8)))[0]? = some 10 ∧ (((l.drop (88 + longN (hdOf l) 4)).drop (longN (hdOf (l.drop (44 + longN (hdOf l) 4))) 8)))[((l.drop (88 + longN (hdOf l) 4)).drop (longN (hdOf (l.drop (44 + longN (hdOf l) 4))) 8)).length - 1]? = some 10) (F : ByteArray) (hF : strOfNums (natsI ((((l.drop (88 + longN (hdOf l) 4)).drop (longN (hdOf (l.drop (44 + longN (hdOf l) 4))) 8)).drop 1).take (((l.drop (88 + longN (hdOf l) 4)).drop (longN (hdOf (l.drop (44 + longN (hdOf l) 4))) 8)).length - 2))) = F) (hok : ZnOk { z with footer := F }) (hRF : rightZ { z with footer := F } = true) :
    Calls Try.prog 40 #[.slice (some ⟨gb, off, none⟩) n c] w fun e w' => ∃ vt vs vi, e = .returned (.tuple #[.agg #[vt, vs, vi, .string F], .bool true]) ∧ ZnR w' (w.heap.size + 1) { z with footer := F } vt vs vi ∧ Below w.heap.size w w' := by
  have K0 := Lib.hid (Qk.start hs hB)
  obtain ⟨X, hX⟩ : ∃ X, w.alloc (.cells #[.slice none 0 0, .slice none 0 0, .slice none 0 0, .string ⟨#[]⟩] 31) = X := ⟨_, rfl⟩
  rw [hX] at K0
  have HC1 : Hid (Calls Try.prog 49 #[.slice (some ⟨gb, off, none⟩) n c, .int .i64 0] X fun e w' => CntP l e ∧ Below X.heap.size X w') := Lib.hid (rcounts_any l _ B n c 0 X K0.out.sb (by have := K0.out.rb.lt; have := K0.out.lo; omega) hb (by omega))
  have HQ := Lib.hid hq
  obtain ⟨h1, e1⟩ : ∃ h1, hdOf l = h1 := ⟨_, rfl⟩
  have HC1' : Hid (Calls Try.prog 49 #[.slice (some ⟨gb, off, none⟩) n c, .int .i64 0] X fun e w' => e = .returned (.tuple #[hdArr h1, .int .u8 h1.version, .bool true]) ∧ Below X.heap.size X w') := Lib.hid (HC1.out.mono fun e w' ⟨hc, hw⟩ => ⟨by rw [← e1]; exact hc.2 hq, hw⟩)
  have hv1 : h1.version = l.getD 4 0 := by rw [← e1]; rfl
  have HL1 : Hid (∀ V, Calls Try.prog 50 #[hdArr h1, .int .i64 4] V fun e w' => e = .returned (.int .i64 (longN h1 4)) ∧ Below V.heap.size V w') := Lib.hid fun V => rlong_any h1 4 (.inl rfl) (by rw [← e1]; exact hdOk_bytes hb) V
  have hN9 : longN h1 4 ≤ 900000000000 := by
    obtain ⟨o1, o2, o3, o4, o5, o6⟩ : HdOk h1 := by rw [← e1]; exact hdOk_bytes hb
    unfold longN restN; omega
  obtain ⟨N1, hN1⟩ : ∃ N1, longN h1 4 = N1 := ⟨_, rfl⟩
  rw [hN1] at HL1 hN9
  rw [← hv1] at hv
  have v0 : decide ((h1.version : Int) = 0) = false := by simp; omega
  have v1 : ((h1.version : Int) == 0) = false := by simp; omega
  have v2 : ((h1.version : Int) != 0) = true := by simp; omega
  have i1 : (0 : Int) ≤ (N1 : Int) := by omega
  have i2 : (N1 : Int) ≤ 900000000000 := by omega
  have i3 : (n : Int) ≤ 1000000 := by omega
  have i4 : (0 : Int) ≤ (n : Int) := by omega
  unfold hdArr at HC1' HL1
  rw [e1, hN1] at hl
  have j1 : ¬ (n : Int) - 44 < (N1 : Int) := by omega
  obtain ⟨s2, hs2⟩ : ∃ s2, 44 + N1 = s2 := ⟨_, rfl⟩
  have j2 : (44 : Int) + (N1 : Int) = (s2 : Int) := by omega
  rw [e1, hN1, hs2] at hq2
  have HC2 : Hid (∀ V, Qk w V B (some ⟨gb, off, none⟩) n c l → Calls Try.prog 49 #[.slice (some ⟨gb, off, none⟩) n c, .int .i64 s2] V fun e w' => CntP (l.drop s2) e ∧ Below V.heap.size V w') := Lib.hid fun V hV => rcounts_any l _ B n c s2 V hV.sb (by have := hV.rb.lt; have := hV.lo; omega) hb (by omega)
  rw [e1, hN1, hs2] at hv2
  obtain ⟨h2, e2⟩ : ∃ h2, hdOf (l.drop s2) = h2 := ⟨_, rfl⟩
  have HC2' : Hid (∀ V, Qk w V B (some ⟨gb, off, none⟩) n c l → Calls Try.prog 49 #[.slice (some ⟨gb, off, none⟩) n c, .int .i64 s2] V fun e w' => e = .returned (.tuple #[hdArr h2, .int .u8 h2.version, .bool true]) ∧ Below V.heap.size V w') := Lib.hid fun V hV => (HC2.out V hV).mono fun e w' ⟨hc, hw⟩ => ⟨by rw [← e2]; exact hc.2 hq2, hw⟩
  unfold hdArr at HC2'
  have hlen2 : s2 + 44 ≤ n := by
    have h44 : 44 ≤ (l.drop s2).length := by
      unfold hdGood at hq2
      simp only [Bool.and_eq_true, decide_eq_true_eq] at hq2
      exact hq2.1.1
    rw [List.length_drop] at h44
    have := hs.1
    omega
  rw [e2] at hv2
  have x1 : ((h2.version : Int) != (h1.version : Int)) = false := by rw [hv2]; simp
  have x2 : (h2.version != h1.version) = false := by rw [hv2]; simp
  have HLM : Hid (∀ V, Calls Try.prog 50 #[hdArr h2, .int .i64 8] V fun e w' => e = .returned (.int .i64 (longN h2 8)) ∧ Below V.heap.size V w') := Lib.hid fun V => rlong_any h2 8 (.inr rfl) (by rw [← e2]; exact hdOk_bytes (drop_byt hb _)) V
  have hM9 : longN h2 8 ≤ 900000000000 := by
    obtain ⟨o1, o2, o3, o4, o5, o6⟩ : HdOk h2 := by rw [← e2]; exact hdOk_bytes (drop_byt hb _)
    unfold longN restN; omega
  obtain ⟨M, hM⟩ : ∃ M, longN h2 8 = M := ⟨_, rfl⟩
  rw [hM] at HLM hM9
  unfold hdArr at HLM
  obtain ⟨s3, hs3⟩ : ∃ s3, 88 + N1 = s3 := ⟨_, rfl⟩
  have y1 : (88 : Int) + (N1 : Int) = (s3 : Int) := by omega
  have y2 : ¬ (n : Int) < (s3 : Int) := by omega
  have y3 : ¬ n < s3 := by omega
  have y4 : (s3 : Int) ≤ (n : Int) := by omega
  have hnc := hs.2.1
  have y5 : (s3 : Int) ≤ (c : Int) := by omega
  have y6 : (n : Int) ≤ (c : Int) := by omega
  have y7 : (0 : Int) ≤ (s3 : Int) := by omega
  obtain ⟨rn, hrn⟩ : ∃ rn, n - s3 = rn := ⟨_, rfl⟩
  have z1 : (0 : Int) ≤ (M : Int) := by omega
  have z2 : (M : Int) ≤ 900000000000 := by omega
  have z3 : (0 : Int) ≤ (rn : Int) := by omega
  have z4 : (rn : Int) ≤ 1000000 := by omega
  rw [e1, hN1, hs3, hrn, hs2, e2, hM] at hr
  have z5 : ¬ (rn : Int) < (M : Int) + 2 := by omega
  have z6 : ¬ c - s3 = 0 := by omega
  have z7 : (M : Int) ≤ ((c - s3 : Nat) : Int) := by omega
  have z8 : (M : Int) ≤ (rn : Int) := by omega
  obtain ⟨lr, hlr⟩ : ∃ lr, l.drop s3 = lr := ⟨_, rfl⟩
  have hlrl : lr.length = rn := by rw [← hlr, List.length_drop]; have := hs.1; omega
  have HRB : Hid (∀ b ∈ lr, b < 256) := Lib.hid (by rw [← hlr]; exact drop_byt hb _)
  have HSR : Hid (∀ V, Qk w V B (some ⟨gb, off, none⟩) n c l → SB V B (some ⟨gb, off + s3, none⟩) rn (c - s3) lr) := Lib.hid fun V hV => by
    have := hV.sb.drop (k := s3) (by omega)
    rwa [hrn, hlr] at this
  have HBK : Hid (∀ V, Qk w V B (some ⟨gb, off, none⟩) n c l → Calls Try.prog 51 #[.slice (some ⟨gb, off + s3, none⟩) M (c - s3), hdArr h2, .int .i64 8] V fun e w' => RblP h2 lr V e w') := Lib.hid fun V hV => by
    have h0 := blockZ_take h2 lr (by rw [hM, hlrl]; omega)
    rw [hM] at h0
    refine (rblock_any h2 (lr.take M) _ B M _ V ((HSR.out V hV).take (by omega)) (by have := hV.rb.lt; have := hV.lo; omega) (fun b hx => HRB.out b (List.mem_of_mem_take hx)) (by rw [← e2]; exact hdOk_bytes (drop_byt hb _)) (by rw [hM]; exact Nat.le_refl _)).mono fun e w' hk => ?_
    unfold RblP at hk ⊢
    rwa [h0] at hk
  unfold hdArr at HBK
  rw [e1, hN1, hs2, hs3, e2, hlr] at hz
  rw [e1, hN1, hs2, hs3, e2, hM, hlr] at hE hF
  have HBK' : Hid (∀ V, Qk w V B (some ⟨gb, off, none⟩) n c l → Calls Try.prog 51 #[.slice (some ⟨gb, off + s3, none⟩) M (c - s3), .agg #[.int .i64 h2.uts, .int .i64 h2.stds, .int .i64 h2.leaps, .int .i64 h2.times, .int .i64 h2.types, .int .i64 h2.letters], .int .i64 8] V fun e w' => (∃ a1 c1 a2 c2 a3 c3, e = .returned (.tuple #[.agg #[.slice a1 z.types.length c1, .slice a2 z.times.length c2, .slice a3 z.index.length c3, .string ⟨#[]⟩], .bool true]) ∧ ZnR w' (V.heap.size + 3) z (.slice a1 z.types.length c1) (.slice a2 z.times.length c2) (.slice a3 z.index.length c3)) ∧ Below V.heap.size V w') := Lib.hid fun V hV => (HBK.out V hV).mono fun e w' hk => by
    obtain ⟨k1, k2, k3⟩ := hk
    obtain ⟨vt, vs, vi, he, h1, h2, h3⟩ := k2 z hz
    obtain ⟨a1, c1, rfl⟩ := h1.form
    obtain ⟨a2, c2, rfl⟩ := h2.form
    obtain ⟨a3, c3, rfl⟩ := h3.form
    rw [hR] at he
    exact ⟨⟨_, _, _, _, _, _, he, ⟨h1, h2, h3⟩⟩, k3⟩
  have hlrM : (lr.drop M).length = rn - M := by rw [List.length_drop, hlrl]
  obtain ⟨en, hen⟩ : ∃ en, rn - M = en := ⟨_, rfl⟩
  obtain ⟨p, hp⟩ : ∃ p, en = p + 1 := ⟨en - 1, by omega⟩
  rw [hlrM, hen] at hE
  have hE0 : (lr.drop M).length = en := by rw [hlrM, hen]
  have hEL : ∀ V, Qk w V B (some ⟨gb, off, none⟩) n c l → SB V B (some ⟨gb, off + s3 + M, none⟩) en (c - s3 - M) (lr.drop M) := fun V hV => by
    have := (HSR.out V hV).drop (k := M) (by omega)
    rwa [hen] at this
  obtain ⟨b0, hb0⟩ : ∃ b0, (lr.drop M)[0]? = some b0 := by
    rw [List.getElem?_eq_getElem (by omega)]; exact ⟨_, rfl⟩
  obtain ⟨b1, hb1⟩ : ∃ b1, (lr.drop M)[p]? = some b1 := by
    rw [List.getElem?_eq_getElem (by omega)]; exact ⟨_, rfl⟩
  have HE0 : Hid (∀ V, Qk w V B (some ⟨gb, off, none⟩) n c l → V.cell? ⟨gb, off + s3 + M, none⟩ = some (.int .u8 b0)) := Lib.hid fun V hV => by
    have := (hEL V hV).cells 0 b0 hb0
    rw [Nat.add_zero] at this
    exact this
  have HE1 : Hid (∀ V, Qk w V B (some ⟨gb, off, none⟩) n c l → V.cell? ⟨gb, off + s3 + M + p, none⟩ = some (.int .u8 b1)) := Lib.hid fun V hV => (hEL V hV).cells p b1 hb1
  have r1 : (en : Int) - 1 = (p : Int) := by omega
  have r2 : (p : Int) < (en : Int) := by omega
  have r3 : (0 : Int) ≤ (p : Int) := by omega
  have r4 : (0 : Int) < (en : Int) := by omega
  have r5 : (en : Int) ≤ 1000000 := by omega
  rw [hb0, show en - 1 = p by omega, hb1] at hE
  have hFt : strOfNums (natsI (((lr.drop M).drop 1).take ((lr.drop M).length - 2))) = F := hF
  rw [hE0, show en - 2 = p - 1 by omega] at hFt
  have HTX : Hid (∀ V, Qk w V B (some ⟨gb, off, none⟩) n c l → (convert 33 9 (.slice (some ⟨gb, off + s3 + M + 1, none⟩) (p - 1) (c - s3 - M - 1))).run Try.prog V = .ok (.string F) V) := Lib.hid fun V hV => by
    have := (((hEL V hV).drop (k := 1) (by omega)).take (k := p - 1) (by omega)).texts
    rwa [hFt] at this
  have hj0 : (1 : Int) ≤ (p : Int) := by omega
  have hj2 : ¬ (p : Int) < 1 := by omega
  have hpc : (p : Int) ≤ ((c - s3 - M : Nat) : Int) := by omega
  have hck : ¬ c - s3 - M - 1 = 0 := by omega
  have w3 : b0 = 10 := by have := hE.1; injection this
  have w4 : b1 = 10 := by have := hE.2; injection this
  subst w3
  subst w4
  have HRT : Hid (∀ V' a1 c1 a2 c2 a3 c3, ZnR V' (w.heap.size + 1) z (.slice a1 z.types.length c1) (.slice a2 z.times.length c2) (.slice a3 z.index.length c3) → Calls Try.prog 12 #[.agg #[.slice a1 z.types.length c1, .slice a2 z.times.length c2, .slice a3 z.index.length c3, .string F]] V' fun e w' => e = .returned (.bool true) ∧ Below V'.heap.size V' w') := Lib.hid fun V' a1 c1 a2 c2 a3 c3 hv => by
    have := rright_any { z with footer := F } _ _ _ _ V' (hv.foot F).at_ hok (Nat.le_refl _)
    rwa [hRF] at this
  clear hs hB hb hq hv hl hv1 e1 hN1 hN9 HC1 HC2 hn hq2 hs2 hv2 e2 hlen2 hM9 hs3 hnc hr hlr hlrl hM hz hR HBK hlrM hp hE0 hEL hb0 hb1 hE hF hFt hok hRF
  go_enter Try.func40, Try.ntmps40
  go_wp2_with (first
    | (go_at_call 49; (try rw [hX]); refine HC1'.out.mono ?_; clear HC1'; rintro e V1 ⟨rfl, hbe⟩; have K1 := Lib.hid (K0.out.step hbe K0.out.rb.lt); have B1 := Lib.hid (ArBox.new V1 h1); clear hbe hX)
    | (go_at_call 50; refine (HL1.out _).mono ?_; clear HL1; rintro e V2 ⟨rfl, hbe⟩; have K2 := Lib.hid ((K1.out.alloc _).step hbe (by have := K1.out.rb.lt; simp; omega)); clear hbe)
    | (go_at_call 49; refine (HC2'.out _ K2.out).mono ?_; clear HC2'; rintro e V3 ⟨rfl, hbe⟩; have K3 := Lib.hid (K2.out.step hbe K2.out.rb.lt); clear hbe)
    | (go_at_call 50; refine (HLM.out _).mono ?_; clear HLM; rintro e V4 ⟨rfl, hbe⟩; have K4 := Lib.hid ((K3.out.alloc _).step hbe (by have := K3.out.rb.lt; simp; omega)); have B4 := Lib.hid ((ArBox.new V3 h2).below hbe (by simp)); clear hbe)
    | fail)
  have y8 : M ≤ c - s3 := by omega
  have b0 := B4.out.d0
  have b1 := B4.out.d1
  have b2 := B4.out.d2
  have b3 := B4.out.d3
  have b4 := B4.out.d4
  have b5 := B4.out.d5
  have g0 : ∀ o, (V4.alloc o).cell? ⟨V3.heap.size, 0, none⟩ = some (.int .i64 h2.uts) := fun o => cell_old V4 o _ _ _ B4.out.lt b0
  have g1 : ∀ o, (V4.alloc o).cell? ⟨V3.heap.size, 1, none⟩ = some (.int .i64 h2.stds) := fun o => cell_old V4 o _ _ _ B4.out.lt b1
  have g2 : ∀ o, (V4.alloc o).cell? ⟨V3.heap.size, 2, none⟩ = some (.int .i64 h2.leaps) := fun o => cell_old V4 o _ _ _ B4.out.lt b2
  have g3 : ∀ o, (V4.alloc o).cell? ⟨V3.heap.size, 3, none⟩ = some (.int .i64 h2.times) := fun o => cell_old V4 o _ _ _ B4.out.lt b3
  have g4 : ∀ o, (V4.alloc o).cell? ⟨V3.heap.size, 4, none⟩ = some (.int .i64 h2.types) := fun o => cell_old V4 o _ _ _ B4.out.lt b4
  have g5 : ∀ o, (V4.alloc o).cell? ⟨V3.heap.size, 5, none⟩ = some (.int .i64 h2.letters) := fun o => cell_old V4 o _ _ _ B4.out.lt b5
  go_cut [13, 14] (fun u13 u14 wx => ∃ zb a1 c1 a2 c2 a3 c3, u13 = .pointer (some ⟨zb, 0, none⟩) ∧ u14 = .bool true ∧ Qk w wx B (some ⟨gb, off, none⟩) n c l ∧ ZbP w wx zb z a1 c1 a2 c2 a3 c3)
  have h4 : w.heap.size + 1 ≤ V4.heap.size := K4.out.rb.lt
  case first =>
    go_region_with (first
      | (go_at_call 51; refine (HBK'.out _ (K4.out.drewn)).mono ?_; clear HBK'; rintro e V5 ⟨⟨a1, c1, a2, c2, a3, c3, rfl, hzr⟩, hbe⟩; have ZS := Lib.hid hzr; clear hzr; have K5 := Lib.hid (K4.out.drewn.step hbe K4.out.drewn.rb.lt); clear hbe)
      | (go_at_call 51; refine (HBK'.out _ (K4.out.alloc _).drewn).mono ?_; clear HBK'; rintro e V5 ⟨⟨a1, c1, a2, c2, a3, c3, rfl, hzr⟩, hbe⟩; have ZS := Lib.hid hzr; clear hzr; have ZR := Lib.hid (zn_late V4 V5 31 hbe); have K5 := Lib.hid ((K4.out.alloc _).drewn.step hbe (K4.out.alloc _).drewn.rb.lt); clear hbe; have k0 := ZR.out.c0; have k1 := ZR.out.c1; have k2 := ZR.out.c2; have k3 := ZR.out.c3; have f0 := ZR.out.fr 0; have f1 := ZR.out.fr 1; have f2 := ZR.out.fr 2; have f3 := ZR.out.fr 3; have HS1 := ZR.out.lt)
      | fail)
    all_goals go_wp2_with fail
    all_goals go_meet
    all_goals (have h5 : w.heap.size + 1 ≤ V5.heap.size := K5.out.rb.lt; first
      | exact ⟨_, _, _, _, _, _, _, rfl, rfl, K5.out.step (C := w.heap.size + 1) (((((Below.refl _ V5).setCell h4 _).setCell h4 _).setCell h4 _).setCell h4 _) (Nat.le_refl _), ZbP.ahead ZS.out (by simp; omega) h4 (by simp; omega) ZR.out⟩
      | exact ⟨_, _, _, _, _, _, _, rfl, rfl, K5.out.step (C := w.heap.size + 1) ((Below.refl _ V5).alloc h5 _) (Nat.le_refl _), ZbP.after ZS.out (by simp; omega) h5 _⟩)
  case rest =>
    obtain ⟨zb, a1, c1, a2, c2, a3, c3, rfl, rfl, hqc, hzb⟩ := hcut
    have ZC := Lib.hid hzb
    clear hzb
    have KC := Lib.hid hqc
    clear hqc
    have t1 : (rn : Int) ≤ ((c - s3 : Nat) : Int) := by omega
    have m0 := HE0.out _ KC.out
    have m1 := HE1.out _ KC.out
    have ht := HTX.out _ KC.out
    have k0 := KC.out.rb.c0
    have k1 := KC.out.rb.c1
    have k2 := KC.out.rb.c2
    have k3 := KC.out.rb.c3
    have f0 := KC.out.rb.fr 0
    have f1 := KC.out.rb.fr 1
    have f2 := KC.out.rb.fr 2
    have f3 := KC.out.rb.fr 3
    have HS1 := KC.out.rb.lt
    have n0 := ZC.out.box.c0
    have n1 := ZC.out.box.c1
    have n2 := ZC.out.box.c2
    have n3 := ZC.out.box.c3
    have i0 := ZC.out.box.fr 3
    have i1 := ZC.out.box.lt
    go_wp2_with (first
      | (go_at_call 12; refine (HRT.out _ _ _ _ _ _ _ (ZC.out.rows _ (grown_set _ _ _ _))).mono ?_; clear HRT; rintro e V6 ⟨rfl, hbe⟩; have ZR6 := Lib.hid ((ZC.out.rows _ (grown_set wc zb 3 (.string F))).keep hbe); have K7 := Lib.hid (KC.out.step (C := w.heap.size + 1) ((Below.refl _ wc).setCell (p := ⟨zb, 3, none⟩) ZC.out.lt (.string F)) (Nat.le_refl _)); have K6 := Lib.hid (K7.out.step hbe K7.out.rb.lt); have BX := Lib.hid ((ZC.out.box.set3 (.string F)).below hbe (by simpa using ZC.out.box.lt)); clear hbe k0 k1 k2 k3 f0 f1 f2 f3 HS1 n0 n1 n2 n3 i0 i1 m0 m1 ht; have k0 := K6.out.rb.c0; have k1 := K6.out.rb.c1; have k2 := K6.out.rb.c2; have k3 := K6.out.rb.c3; have f0 := K6.out.rb.fr 0; have f1 := K6.out.rb.fr 1; have f2 := K6.out.rb.fr 2; have f3 := K6.out.rb.fr 3; have HS1 := K6.out.rb.lt; have n0 := BX.out.c0; have n1 := BX.out.c1; have n2 := BX.out.c2; have n3 := BX.out.c3)
      | fail)
    exact bodyPost_ret (v := .tuple #[.agg #[.slice a1 z.types.length c1, .slice a2 z.times.length c2, .slice a3 z.index.length c3, .string F], .bool true]) (by simp [results, Try.results40, go_sem, k0, k1, k2, k3]) rfl ⟨_, _, _, rfl, ((ZR6.out.foot F).other (g := w.heap.size) ((((grown_set V6 _ 0 _).trans (grown_set _ _ 1 _)).trans (grown_set _ _ 2 _)).trans (grown_set _ _ 3 _)) (Nat.lt_succ_self _)), K6.out.bl.trans (((((Below.refl w.heap.size V6).setCell (Nat.le_refl _) _).setCell (Nat.le_refl _) _).setCell (Nat.le_refl _) _).setCell (Nat.le_refl _) _)⟩
end Go.Proofs.Ytohpdpcjhmopbaa.Tz
