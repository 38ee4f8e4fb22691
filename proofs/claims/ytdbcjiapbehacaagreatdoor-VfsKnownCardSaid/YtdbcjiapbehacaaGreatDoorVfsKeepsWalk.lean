/-
  Layer 5: the law VfsKeeps: its walk (written by gen_keeps.py).
-/
import Derived.Test.YtdbcjiapbehacaaGreatDoorVpU
namespace Go.Proofs.YtdbcjiapbehacaaGreatDoor.Vp
open Go.RowKit Go.Maps
open Go.Proofs.YtdbcjiapbehacaaGreatDoor.Vf (Hold Owns Fs FineD bl_drewN)

def pKept : ByteArray := ⟨#[47, 107, 101, 112, 116]⟩
theorem kept_name : hasName pKept.data.toList = true := by kernel_rfl
theorem kept_d : (plcOf pKept).d = rootB := by kernel_rfl
theorem kept_n : (⟨#[]⟩ : ByteArray) ≠ (plcOf pKept).n := by
  have e : (plcOf pKept).n = ⟨#[107, 101, 112, 116]⟩ := by kernel_rfl
  rw [e]; decide
theorem kept_ok : okS pKept := by unfold okS; decide
theorem kept_do {s : Pf} {b : ByteArray} {i : Nat} (h : Kept s pKept b i) (o : Op) (ha : o.a ≠ pKept) (hb : (o.kind % 11).toNat = 4 → o.b ≠ pKept) : Kept (doS s o) pKept b i := by
  unfold doS
  split
  · exact h.mkdir ha
  · exact h.write kept_name kept_n ha
  · exact h.sync kept_name ha
  · exact h.syncDir o.a
  · rename_i h4; exact h.rename kept_name ha (hb h4)
  · exact h.remove kept_name ha
  · exact h.tick
  · exact h.tick
  · exact h.crash o.n
  · exact h.reboot o.n
  · exact h
theorem ne_kept {a : ByteArray} (h : (a.toList == [47, 107, 101, 112, 116]) = false) : a ≠ pKept := by
  rintro rfl
  have e : (pKept.toList == [47, 107, 101, 112, 116]) = true := by kernel_rfl
  rw [e] at h
  cases h
set_option maxRecDepth 100000 in
set_option maxHeartbeats 4000000 in
theorem vfsKeeps_any (A1 A2 : Option Addr) (n1 c1 n2 c2 : Nat) (os1 os2 : List Op) (b : ByteArray) (choice : Int) (w : World) (hn1 : n1 ≤ 9223372036854775807) (hn2 : n2 ≤ 9223372036854775807) (ho1 : Ops w w.heap.size A1 n1 os1) (ho2 : Ops w w.heap.size A2 n2 os2) (hb : b.size ≤ 9223372036854775807) :
    Calls Tryz.prog 4 #[.slice A1 n1 c1, .slice A2 n2 c2, .string b, .int .i64 choice] w fun e w' => e = .returned (.bool true) ∧ Below w.heap.size w w' := by
  have HWK := Lib.hid (fun W => works_any W)
  by_cases hbig1 : 40 < n1
  · go_enter Tryz.func4, Tryz.ntmps4
    go_wp2_with (first
      | (go_at_call 10; refine (HWK.out _).mono ?_; rintro e w13 ⟨rfl, hbw⟩; have B13 := Lib.hid hbw; clear hbw)
      | fail)
    go_ret
    exact ⟨rfl, B13.out⟩
  by_cases hbig2 : 40 < n2
  · go_enter Tryz.func4, Tryz.ntmps4
    go_wp2_with (first
      | (go_at_call 10; refine (HWK.out _).mono ?_; rintro e w13 ⟨rfl, hbw⟩; have B13 := Lib.hid hbw; clear hbw)
      | fail)
    go_ret
    exact ⟨rfl, B13.out⟩
  by_cases hbig3 : 300 < b.size
  · go_enter Tryz.func4, Tryz.ntmps4
    go_wp2_with (first
      | (go_at_call 10; refine (HWK.out _).mono ?_; rintro e w13 ⟨rfl, hbw⟩; have B13 := Lib.hid hbw; clear hbw)
      | fail)
    go_ret
    exact ⟨rfl, B13.out⟩
  have HO1 := Lib.hid ho1; have HO2 := Lib.hid ho2
  have HNF := Lib.hid (new_any 100000 w)
  have HNG := Lib.hid (fun V => Vf.new_any 100000 V)
  have hmx : max (100000 : Int) 0 = 100000 := by decide
  rw [hmx] at HNF
  clear ho1 ho2 hmx
  go_enter Tryz.func4, Tryz.ntmps4
  go_wp2_with (first
    | (go_at_call 11; refine HNF.out.mono ?_; clear HNF; rintro e w1 ⟨rfl, hA, hb1⟩; have HA := Lib.hid hA; have HB1 := Lib.hid hb1; clear hA hb1)
    | (go_at_call 12; refine (HNG.out _).mono ?_; clear HNG; rintro e w2 ⟨rfl, hG, hb2⟩; have R0 := Lib.hid (run_new HA.out HB1.out hG hb2 (by decide)); clear hG hb2)
    | fail)
  have hPw : w.heap.size ≤ w2.heap.size := R0.out.duo.pn
  obtain ⟨P, hP⟩ : ∃ P, w2.heap.size = P := ⟨_, rfl⟩
  rw [hP] at R0 hPw
  try rw [hP]
  clear HA HB1
  generalize w2.alloc (.cells #[.pointer (some ⟨w.heap.size, 0, none⟩), .pointer (some ⟨w1.heap.size + 1, 0, none⟩)] 30) = w3 at R0 ⊢
  clear hP
  go_loopw [10] (fun i wr => ∃ (k p : Nat) (s : Pf) (l : Loc) (pr : Nat) (fs : Fs), k ≤ n1 ∧ i = .int .i64 k ∧ Run w P 100000 100000 (2 * k + 1) (2 * k + 1) p s l pr fs wr) (fun i _ => n1 - (intOf i).toNat)
  case atStart => exact ⟨0, _, _, _, _, _, Nat.zero_le _, rfl, R0.out⟩
  case round =>
    obtain ⟨k, p, s, l, pr, fs, hk, rfl, hrn⟩ := hrel
    have HRN := Lib.hid hrn
    clear hrn R0
    by_cases hlt : k < n1
    · have hol : k < os1.length := by rw [HO1.out.len]; exact hlt
      obtain ⟨o, hoo⟩ : ∃ o, os1[k]? = some o := ⟨_, List.getElem?_eq_getElem hol⟩
      obtain ⟨hok, g, off, rfl, hg, q0, q1, q2, q3⟩ := HO1.out.at_ k o hoo
      have q0 := (HRN.out.duo.one.below.cell (p := ⟨g, off + k * 4, none⟩) hg).trans q0
      have q1 := (HRN.out.duo.one.below.cell (p := ⟨g, off + k * 4 + 1, none⟩) hg).trans q1
      have q2 := (HRN.out.duo.one.below.cell (p := ⟨g, off + k * 4 + 2, none⟩) hg).trans q2
      have q3 := (HRN.out.duo.one.below.cell (p := ⟨g, off + k * 4 + 3, none⟩) hg).trans q3
      have hk0 : (0 : Int) ≤ (k : Int) := by omega
      have hk1 : (k : Int) < (n1 : Int) := by omega
      by_cases hsa : o.a.size ≤ 300
      · by_cases hsb : o.b.size ≤ 300
        · have HDO := Lib.hid (run_do o hok ⟨hsa, hsb⟩ HRN.out (by omega) (by omega) (by decide) (by decide))
          go_wp2_with (first
            | (go_at_call 13; refine HDO.out.mono ?_; clear HDO; rintro e w5 ⟨rfl, p', l', pr', hr5⟩; have R5 := Lib.hid hr5; clear hr5)
            | fail)
          exact ⟨⟨k + 1, p', _, l', pr', _, hlt, by go_num, R5.out⟩, by simp [intOf]; omega⟩
        · go_wp2_with (first
            | (go_at_call 10; refine (HWK.out _).mono ?_; rintro e w13 ⟨rfl, hbw⟩; have B13 := Lib.hid hbw; clear hbw)
            | fail)
          go_ret
          exact ⟨rfl, HRN.out.duo.one.below.trans (B13.out.mono HRN.out.duo.one.below.size)⟩
      · go_wp2_with (first
          | (go_at_call 10; refine (HWK.out _).mono ?_; rintro e w13 ⟨rfl, hbw⟩; have B13 := Lib.hid hbw; clear hbw)
          | fail)
        go_ret
        exact ⟨rfl, HRN.out.duo.one.below.trans (B13.out.mono HRN.out.duo.one.below.size)⟩
    · have bF := HRN.out.duo.boxF
      obtain ⟨s1, hs1⟩ : ∃ s1, ({ s with left := max (0 : Int) 0 } : Pf) = s1 := ⟨_, rfl⟩
      have hf1 : Fine s1 81 := by rw [← hs1]; exact (HRN.out.fine.crash 0 (by decide)).mono (by omega)
      have hi1 : Inv s1 := by rw [← hs1]; exact HRN.out.inv.crash 0
      have hr1 : s1.room = 100000 := by rw [← hs1]; exact HRN.out.room
      have HCR : Hid (∀ V l, Duo w P p s l pr fs V → Calls Tryz.prog 15 #[.pointer (some ⟨p, 0, none⟩), .int .i64 0] V fun e V' => (∃ r, e = .returned r) ∧ LeftF w P p s1 pr fs V V') := Lib.hid fun V l h => by rw [← hs1]; exact crashF h 0
      have hf2 : Fine (writeS s1 pKept b) 83 := hf1.write kept_ok
      have hf3 : Fine (syncS (writeS s1 pKept b) pKept) 84 := hf2.sync pKept
      have hf4 : Fine (syncDirS (syncS (writeS s1 pKept b) pKept) rootB) 85 := hf3.syncDir
      have hm4 : (syncDirS (syncS (writeS s1 pKept b) pKept) rootB).room = 100000 := by
        have e1 := room_do s1 ⟨1, pKept, b, 0⟩
        have e2 := room_do (writeS s1 pKept b) ⟨2, pKept, b, 0⟩
        have e3 := room_do (syncS (writeS s1 pKept b) pKept) ⟨3, rootB, b, 0⟩
        exact e3.trans (e2.trans (e1.trans hr1))
      have hi4 : Inv (syncDirS (syncS (writeS s1 pKept b) pKept) rootB) := ((hi1.write pKept b).sync pKept).syncDir rootB
      obtain ⟨r1, hw1⟩ : ∃ r, writeRes s1 pKept b = r := ⟨_, rfl⟩
      obtain ⟨r2, hw2⟩ : ∃ r, (findRes (writeS s1 pKept b) pKept).2 = r := ⟨_, rfl⟩
      obtain ⟨r3, hw3⟩ : ∃ r, findDirRes (syncS (writeS s1 pKept b) pKept) rootB = r := ⟨_, rfl⟩
      have HWR : Hid (∀ V l v, Duo w P p s1 l pr fs V → BytesAt V v b → Calls Tryz.prog 16 #[.pointer (some ⟨p, 0, none⟩), .string ⟨#[47, 107, 101, 112, 116]⟩, v] V fun e V' => e = .returned (.int .i64 r1) ∧ LeftF w P p (writeS s1 pKept b) pr fs V V') := Lib.hid fun V l v h hv => by have := writeF h hf1 (by omega) pKept b v kept_ok hv; rwa [hw1] at this
      have HSY : Hid (∀ V l, Duo w P p (writeS s1 pKept b) l pr fs V → Calls Tryz.prog 17 #[.pointer (some ⟨p, 0, none⟩), .string ⟨#[47, 107, 101, 112, 116]⟩] V fun e V' => e = .returned (.int .i64 r2) ∧ LeftF w P p (syncS (writeS s1 pKept b) pKept) pr fs V V') := Lib.hid fun V l h => by have := syncF h hf2 pKept kept_ok; rwa [hw2] at this
      have HSD : Hid (∀ V l, Duo w P p (syncS (writeS s1 pKept b) pKept) l pr fs V → Calls Tryz.prog 18 #[.pointer (some ⟨p, 0, none⟩), .string ⟨#[47]⟩] V fun e V' => e = .returned (.int .i64 r3) ∧ LeftF w P p (syncDirS (syncS (writeS s1 pKept b) pKept) rootB) pr fs V V') := Lib.hid fun V l h => by have := syncDirF h hf3 (by omega) rootB (by unfold okS; decide); rwa [hw3] at this
      have HKP : Hid (r1 = 0 → r2 = 0 → r3 = 0 → ∃ i, Kept (syncDirS (syncS (writeS s1 pKept b) pKept) rootB) pKept b i) := Lib.hid fun e1 e2 e3 => hi1.kept kept_d (hw1.trans e1) (hw2.trans e2) (hw3.trans e3)
      have HFD := Lib.hid HRN.out.fineD; have HMO := Lib.hid HRN.out.most; have D0 := Lib.hid HRN.out.duo
      have HF4 := Lib.hid hf4; have HM4 := Lib.hid hm4; have HI4 := Lib.hid hi4
      have hcv := conv_run b
      have HBL := Lib.hid HRN.out.duo.one.below
      clear hs1 hf1 hi1 hr1 hf2 hf3 hf4 hm4 hi4 hw1 hw2 hw3 HRN
      generalize syncDirS (syncS (writeS s1 pKept b) pKept) rootB = s4 at HSD HKP HF4 HM4 HI4
      generalize syncS (writeS s1 pKept b) pKept = s3 at HSY HSD
      generalize writeS s1 pKept b = s2 at HWR HSY
      have hk40 : k ≤ 40 := by omega
      by_cases h : r1 = 0
      · subst h
        by_cases h : r2 = 0
        · subst h
          by_cases h : r3 = 0
          · subst h
            obtain ⟨i, hkp⟩ := HKP.out rfl rfl rfl
            have HKE := Lib.hid hkp
            clear hkp HKP
            go_wp2_with (first
              | (go_at_call 15; refine (HCR.out _ _ D0.out).mono ?_; clear HCR; rintro e v1 ⟨⟨rr, rfl⟩, ⟨l1, d1⟩, _⟩; have bF1 := d1.boxF; have bF1' := (d1.keep (conv_below b v1)).boxF; have D1 := Lib.hid (d1.keep (conv_below b v1)); have B1 := Lib.hid (d1.keep (conv_below b v1)).one.below; clear d1)
              | (go_at_call 16; refine (HWR.out _ _ _ D1.out (conv_at b _)).mono ?_; clear HWR; rintro e v2 ⟨rfl, ⟨l2, d2⟩, _⟩; have bF2 := d2.boxF; have D2 := Lib.hid d2; have B2 := Lib.hid d2.one.below; clear d2)
              | (go_at_call 17; refine (HSY.out _ _ D2.out).mono ?_; clear HSY; rintro e v3 ⟨rfl, ⟨l3, d3⟩, _⟩; have bF3 := d3.boxF; have D3 := Lib.hid d3; have B3 := Lib.hid d3.one.below; clear d3)
              | (go_at_call 18; refine (HSD.out _ _ D3.out).mono ?_; clear HSD; rintro e v4 ⟨rfl, ⟨l4, d4⟩, _⟩; have bF4 := d4.boxF; have D4 := Lib.hid d4; have B4 := Lib.hid d4.one.below; clear d4)
              | fail)
            have HD4 := Lib.hid (⟨D4.out, HF4.out, HFD.out, HI4.out, HM4.out, HMO.out⟩ : Run w P 100000 100000 85 (2 * k + 1) p s4 l4 pr fs v4)
            clear D1 D2 D3 bF bF1 bF1' bF2 bF3 B1 B2 B3 hcv
            go_loopw [11] (fun i' wr => ∃ (j p : Nat) (s : Pf) (l : Loc) (pr : Nat) (fs : Fs), j ≤ n2 ∧ i' = .int .i64 j ∧ Run w P 100000 100000 (2 * j + 85) (2 * j + 81) p s l pr fs wr ∧ Kept s pKept b i) (fun i' _ => n2 - (intOf i').toNat)
            case atStart => exact ⟨0, _, _, _, _, _, Nat.zero_le _, rfl, ⟨D4.out, HF4.out, HFD.out.mono (by omega), HI4.out, HM4.out, HMO.out⟩, HKE.out⟩
            case round =>
              clear D4 HD4 HF4 HM4 HI4 HKE HFD HMO D0 bF4 B4
              obtain ⟨k, p, s, l, pr, fs, hk, rfl, hrn, hkp⟩ := hrel
              have HRN := Lib.hid hrn; have HKE := Lib.hid hkp
              clear hrn hkp
              by_cases hlt : k < n2
              · have hol : k < os2.length := by rw [HO2.out.len]; exact hlt
                obtain ⟨o, hoo⟩ : ∃ o, os2[k]? = some o := ⟨_, List.getElem?_eq_getElem hol⟩
                obtain ⟨hok, g, off, rfl, hg, q0, q1, q2, q3⟩ := HO2.out.at_ k o hoo
                have q0 := (HRN.out.duo.one.below.cell (p := ⟨g, off + k * 4, none⟩) hg).trans q0
                have q1 := (HRN.out.duo.one.below.cell (p := ⟨g, off + k * 4 + 1, none⟩) hg).trans q1
                have q2 := (HRN.out.duo.one.below.cell (p := ⟨g, off + k * 4 + 2, none⟩) hg).trans q2
                have q3 := (HRN.out.duo.one.below.cell (p := ⟨g, off + k * 4 + 3, none⟩) hg).trans q3
                have hk0 : (0 : Int) ≤ (k : Int) := by omega
                have hk1 : (k : Int) < (n2 : Int) := by omega
                by_cases hsa : o.a.size ≤ 300
                · by_cases hsb : o.b.size ≤ 300
                  · have hkt : o.kind.tmod 11 = o.kind % 11 := Int.tmod_eq_emod_of_nonneg hok.kind.1
                    have hm1 : o.kind % 11 < 11 := Int.emod_lt_of_pos _ (by decide)
                    have hm0 : 0 ≤ o.kind % 11 := Int.emod_nonneg _ (by decide)
                    obtain ⟨m, hm⟩ : ∃ m : Int, o.kind % 11 = m := ⟨_, rfl⟩
                    rw [hm] at hkt hm1 hm0
                    have HM := Lib.hid hm
                    clear hm
                    have hqm : IntKind.u8.wrap m = m := by simp [IntKind.wrap, IntKind.bits, IntKind.signed]; omega
                    cases hka : (o.a.toList == [47, 107, 101, 112, 116])
                    · have hka2 : ¬ o.a.toList = [47, 107, 101, 112, 116] := by simpa using hka
                      have HNA : Hid (o.a ≠ pKept) := Lib.hid (ne_kept hka)
                      cases hkb : (o.b.toList == [47, 107, 101, 112, 116])
                      · have hkb2 : ¬ o.b.toList = [47, 107, 101, 112, 116] := by simpa using hkb
                        have HNB : Hid ((o.kind % 11).toNat = 4 → o.b ≠ pKept) := Lib.hid fun _ => ne_kept hkb
                        by_cases h10 : m = 10
                        · subst h10
                          have RK := Lib.hid (HRN.out.keep ((Below.refl _ _).alloc (Nat.le_refl _) (.cells #[.int .u8 o.kind, .string o.a, .string o.b, .int .i64 o.n] 32)))
                          go_wp2_with fail
                          exact ⟨⟨k + 1, p, s, l, pr, fs, hlt, by go_num, ⟨RK.out.duo, RK.out.fine.mono (by omega), RK.out.fineD.mono (by omega), RK.out.inv, RK.out.room, RK.out.most⟩, HKE.out⟩, by simp [intOf]; omega⟩
                        · have x1 : (m == 10) = false := by simpa using h10
                          have x2 : decide (m = 10) = false := by simpa using h10
                          have x3 : (m != 10) = true := by simpa using h10
                          have HDO := Lib.hid (run_do o hok ⟨hsa, hsb⟩ (HRN.out.keep ((Below.refl _ _).alloc (Nat.le_refl _) (.cells #[.int .u8 o.kind, .string o.a, .string o.b, .int .i64 o.n] 32))) (by omega) (by omega) (by decide) (by decide))
                          go_wp2_with (first
                            | (go_at_call 13; refine HDO.out.mono ?_; clear HDO; rintro e w5 ⟨rfl, p', l', pr', hr5⟩; have R5 := Lib.hid hr5; clear hr5)
                            | fail)
                          exact ⟨⟨k + 1, p', _, l', pr', _, hlt, by go_num, R5.out, kept_do HKE.out o HNA.out HNB.out⟩, by simp [intOf]; omega⟩
                      · have hkb2 : o.b.toList = [47, 107, 101, 112, 116] := by simpa using hkb
                        by_cases h4 : m = 4
                        · subst h4
                          go_wp2_with (first
                            | (go_at_call 10; refine (HWK.out _).mono ?_; rintro e w13 ⟨rfl, hbw⟩; have B13 := Lib.hid hbw; clear hbw)
                            | fail)
                          go_ret
                          exact ⟨rfl, HRN.out.duo.one.below.trans ((((Below.refl wr.heap.size wr).alloc (Nat.le_refl _) (.cells #[.int .u8 o.kind, .string o.a, .string o.b, .int .i64 o.n] 32)).trans (B13.out.mono (by simp))).mono HRN.out.duo.one.below.size)⟩
                        · have y1 : (m == 4) = false := by simpa using h4
                          have y2 : decide (m = 4) = false := by simpa using h4
                          have HNB : Hid ((o.kind % 11).toNat = 4 → o.b ≠ pKept) := Lib.hid fun e => absurd (show m = 4 by rw [← HM.out]; omega) h4
                          by_cases h10 : m = 10
                          · subst h10
                            have RK := Lib.hid (HRN.out.keep ((Below.refl _ _).alloc (Nat.le_refl _) (.cells #[.int .u8 o.kind, .string o.a, .string o.b, .int .i64 o.n] 32)))
                            go_wp2_with fail
                            exact ⟨⟨k + 1, p, s, l, pr, fs, hlt, by go_num, ⟨RK.out.duo, RK.out.fine.mono (by omega), RK.out.fineD.mono (by omega), RK.out.inv, RK.out.room, RK.out.most⟩, HKE.out⟩, by simp [intOf]; omega⟩
                          · have x1 : (m == 10) = false := by simpa using h10
                            have x2 : decide (m = 10) = false := by simpa using h10
                            have x3 : (m != 10) = true := by simpa using h10
                            have HDO := Lib.hid (run_do o hok ⟨hsa, hsb⟩ (HRN.out.keep ((Below.refl _ _).alloc (Nat.le_refl _) (.cells #[.int .u8 o.kind, .string o.a, .string o.b, .int .i64 o.n] 32))) (by omega) (by omega) (by decide) (by decide))
                            go_wp2_with (first
                              | (go_at_call 13; refine HDO.out.mono ?_; clear HDO; rintro e w5 ⟨rfl, p', l', pr', hr5⟩; have R5 := Lib.hid hr5; clear hr5)
                              | fail)
                            exact ⟨⟨k + 1, p', _, l', pr', _, hlt, by go_num, R5.out, kept_do HKE.out o HNA.out HNB.out⟩, by simp [intOf]; omega⟩
                    · have hka2 : o.a.toList = [47, 107, 101, 112, 116] := by simpa using hka
                      go_wp2_with (first
                        | (go_at_call 10; refine (HWK.out _).mono ?_; rintro e w13 ⟨rfl, hbw⟩; have B13 := Lib.hid hbw; clear hbw)
                        | fail)
                      go_ret
                      exact ⟨rfl, HRN.out.duo.one.below.trans ((((Below.refl wr.heap.size wr).alloc (Nat.le_refl _) (.cells #[.int .u8 o.kind, .string o.a, .string o.b, .int .i64 o.n] 32)).trans (B13.out.mono (by simp))).mono HRN.out.duo.one.below.size)⟩
                  · go_wp2_with (first
                      | (go_at_call 10; refine (HWK.out _).mono ?_; rintro e w13 ⟨rfl, hbw⟩; have B13 := Lib.hid hbw; clear hbw)
                      | fail)
                    go_ret
                    exact ⟨rfl, HRN.out.duo.one.below.trans ((((Below.refl wr.heap.size wr).alloc (Nat.le_refl _) (.cells #[.int .u8 o.kind, .string o.a, .string o.b, .int .i64 o.n] 32)).trans (B13.out.mono (by simp))).mono HRN.out.duo.one.below.size)⟩
                · go_wp2_with (first
                    | (go_at_call 10; refine (HWK.out _).mono ?_; rintro e w13 ⟨rfl, hbw⟩; have B13 := Lib.hid hbw; clear hbw)
                    | fail)
                  go_ret
                  exact ⟨rfl, HRN.out.duo.one.below.trans ((((Below.refl wr.heap.size wr).alloc (Nat.le_refl _) (.cells #[.int .u8 o.kind, .string o.a, .string o.b, .int .i64 o.n] 32)).trans (B13.out.mono (by simp))).mono HRN.out.duo.one.below.size)⟩
              · have bF := HRN.out.duo.boxF
                have hfi := HRN.out.fine
                have HRB : Hid (∀ V l, Duo w P p s l pr fs V → Calls Tryz.prog 19 #[.pointer (some ⟨p, 0, none⟩), .int .i64 choice] V fun e V' => (∃ r, e = .returned r) ∧ LeftF w P p (rebootS s choice) pr fs V V' ∧ Fine (rebootS s choice) (2 * k + 85)) := Lib.hid fun V l h => rebootF h hfi (by omega) choice
                have hkr := HKE.out.reboot choice
                obtain ⟨hr1, hr2⟩ := hkr.read kept_name rfl rfl
                have HRD : Hid (∀ V l, Fine (rebootS s choice) (2 * k + 85) → Duo w P p (rebootS s choice) l pr fs V → Calls Tryz.prog 20 #[.pointer (some ⟨p, 0, none⟩), .string ⟨#[47, 107, 101, 112, 116]⟩] V fun e V' => (∃ A c, e = .returned (.tuple #[.slice A b.size c, .int .i64 0]) ∧ BytesAt V' (.slice A b.size c) b) ∧ Below w.heap.size w V') := Lib.hid fun V l hf h => (readF2 h hf pKept kept_ok).mono fun e V' ⟨⟨A, c, he, hb', _⟩, ⟨l', hd⟩, _⟩ => by
                  have e : readX (rebootS s choice) pKept = b := by unfold readX; rw [if_pos hr1, hr2]
                  rw [e, hr1] at he
                  rw [e] at hb'
                  exact ⟨⟨A, c, he, hb'⟩, hd.one.below⟩
                have D0 := Lib.hid HRN.out.duo
                have hbe : (b.toList == b.toList) = true := by simp
                clear hkr hr1 hr2 hfi
                go_wp2_with (first
                  | (go_at_call 19; refine (HRB.out _ _ D0.out).mono ?_; clear HRB; rintro e v1 ⟨⟨rr, rfl⟩, ⟨⟨l1, d1⟩, _⟩, hf1⟩; have bF1 := d1.boxF; have D1 := Lib.hid d1; have F1 := Lib.hid hf1; clear d1 hf1)
                  | (go_at_call 20; refine (HRD.out _ _ F1.out D1.out).mono ?_; clear HRD; rintro e v2 ⟨⟨A, c, rfl, hby⟩, hbl⟩; have hcv := hby.text; have B2 := Lib.hid hbl; clear hby hbl)
                  | (go_at_call 10; refine (HWK.out _).mono ?_; rintro e w13 ⟨rfl, hbw⟩; have B13 := Lib.hid hbw; clear hbw)
                  | fail)
                go_ret
                exact ⟨rfl, B2.out.trans (B13.out.mono B2.out.size)⟩
          · have z1 : (r3 == 0) = false := by simpa using h
            have z2 : decide (r3 = 0) = false := by simpa using h
            have z3 : (r3 != 0) = true := by simpa using h
            go_wp2_with (first
              | (go_at_call 15; refine (HCR.out _ _ D0.out).mono ?_; clear HCR; rintro e v1 ⟨⟨rr, rfl⟩, ⟨l1, d1⟩, _⟩; have bF1 := d1.boxF; have bF1' := (d1.keep (conv_below b v1)).boxF; have D1 := Lib.hid (d1.keep (conv_below b v1)); have B1 := Lib.hid (d1.keep (conv_below b v1)).one.below; clear d1)
              | (go_at_call 16; refine (HWR.out _ _ _ D1.out (conv_at b _)).mono ?_; clear HWR; rintro e v2 ⟨rfl, ⟨l2, d2⟩, _⟩; have bF2 := d2.boxF; have D2 := Lib.hid d2; have B2 := Lib.hid d2.one.below; clear d2)
              | (go_at_call 17; refine (HSY.out _ _ D2.out).mono ?_; clear HSY; rintro e v3 ⟨rfl, ⟨l3, d3⟩, _⟩; have bF3 := d3.boxF; have D3 := Lib.hid d3; have B3 := Lib.hid d3.one.below; clear d3)
              | (go_at_call 18; refine (HSD.out _ _ D3.out).mono ?_; clear HSD; rintro e v4 ⟨rfl, ⟨l4, d4⟩, _⟩; have bF4 := d4.boxF; have D4 := Lib.hid d4; have B4 := Lib.hid d4.one.below; clear d4)
              | (go_at_call 10; refine (HWK.out _).mono ?_; rintro e w13 ⟨rfl, hbw⟩; have B13 := Lib.hid hbw; clear hbw)
              | fail)
            go_ret
            exact ⟨rfl, B4.out.trans (B13.out.mono B4.out.size)⟩
        · have z1 : (r2 == 0) = false := by simpa using h
          have z2 : decide (r2 = 0) = false := by simpa using h
          have z3 : (r2 != 0) = true := by simpa using h
          go_wp2_with (first
            | (go_at_call 15; refine (HCR.out _ _ D0.out).mono ?_; clear HCR; rintro e v1 ⟨⟨rr, rfl⟩, ⟨l1, d1⟩, _⟩; have bF1 := d1.boxF; have bF1' := (d1.keep (conv_below b v1)).boxF; have D1 := Lib.hid (d1.keep (conv_below b v1)); have B1 := Lib.hid (d1.keep (conv_below b v1)).one.below; clear d1)
            | (go_at_call 16; refine (HWR.out _ _ _ D1.out (conv_at b _)).mono ?_; clear HWR; rintro e v2 ⟨rfl, ⟨l2, d2⟩, _⟩; have bF2 := d2.boxF; have D2 := Lib.hid d2; have B2 := Lib.hid d2.one.below; clear d2)
            | (go_at_call 17; refine (HSY.out _ _ D2.out).mono ?_; clear HSY; rintro e v3 ⟨rfl, ⟨l3, d3⟩, _⟩; have bF3 := d3.boxF; have D3 := Lib.hid d3; have B3 := Lib.hid d3.one.below; clear d3)
            | (go_at_call 10; refine (HWK.out _).mono ?_; rintro e w13 ⟨rfl, hbw⟩; have B13 := Lib.hid hbw; clear hbw)
            | fail)
          go_ret
          exact ⟨rfl, B3.out.trans (B13.out.mono B3.out.size)⟩
      · have z1 : (r1 == 0) = false := by simpa using h
        have z2 : decide (r1 = 0) = false := by simpa using h
        have z3 : (r1 != 0) = true := by simpa using h
        go_wp2_with (first
          | (go_at_call 15; refine (HCR.out _ _ D0.out).mono ?_; clear HCR; rintro e v1 ⟨⟨rr, rfl⟩, ⟨l1, d1⟩, _⟩; have bF1 := d1.boxF; have bF1' := (d1.keep (conv_below b v1)).boxF; have D1 := Lib.hid (d1.keep (conv_below b v1)); have B1 := Lib.hid (d1.keep (conv_below b v1)).one.below; clear d1)
          | (go_at_call 16; refine (HWR.out _ _ _ D1.out (conv_at b _)).mono ?_; clear HWR; rintro e v2 ⟨rfl, ⟨l2, d2⟩, _⟩; have bF2 := d2.boxF; have D2 := Lib.hid d2; have B2 := Lib.hid d2.one.below; clear d2)
          | (go_at_call 10; refine (HWK.out _).mono ?_; rintro e w13 ⟨rfl, hbw⟩; have B13 := Lib.hid hbw; clear hbw)
          | fail)
        go_ret
        exact ⟨rfl, B2.out.trans (B13.out.mono B2.out.size)⟩
end Go.Proofs.YtdbcjiapbehacaaGreatDoor.Vp
