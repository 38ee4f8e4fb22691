/-
  Layer 5: the law VfsDown: its walk (written by gen_down.py).
-/
import Derived.Test.YtdbcjiapbehacaaGreatDoorVpW
namespace Go.Proofs.YtdbcjiapbehacaaGreatDoor.Vp
open Go.RowKit Go.Maps
open Go.Proofs.YtdbcjiapbehacaaGreatDoor.Vf (Hold OwnR Owns Fs FineD Moves Reads bl_drewN wpMixG_free wpMixG_turn wpMixG_end permL)

theorem syncDir_x {T : Nat} {W : World} {p : Nat} {s : Pf} {l : Loc} (h : At W p s l) (hf : Fine s T) (hT : T ≤ 100000) (path : ByteArray) (ho : okS path) :
    Calls Tryz.prog 18 #[.pointer (some ⟨p, 0, none⟩), .string path] W fun e W' => e = .returned (.int .i64 (findDirRes s path)) ∧ After W p s (syncDirS s path) l W' :=
  syncDir_any p s l path W h hf.fits.left ho (fun x hx => by
    obtain ⟨xs, h1, h2⟩ := mem_waitsOf hx
    exact hf.fits.strs _ h1 x h2) (by have := hf.fits.dur; have := waitsOf_le s path; omega) (by have := hf.fits.dirs; omega)
set_option maxRecDepth 100000 in
set_option maxHeartbeats 8000000 in
theorem vfsDown_any (A1 A2 : Option Addr) (n1 c1 n2 c2 : Nat) (os1 os2 : List Op) (choice : Int) (w : World) (hn1 : n1 ≤ 9223372036854775807) (hn2 : n2 ≤ 9223372036854775807) (ho1 : Ops w w.heap.size A1 n1 os1) (ho2 : Ops w w.heap.size A2 n2 os2) :
    Calls Tryz.prog 8 #[.slice A1 n1 c1, .slice A2 n2 c2, .int .i64 choice] w fun e w' => e = .returned (.bool true) ∧ Below w.heap.size w w' := by
  have HWK := Lib.hid (fun W => works_any W)
  by_cases hbig1 : 40 < n1
  · go_enter Tryz.func8, Tryz.ntmps8
    go_wp2_with (first
      | (go_at_call 10; refine (HWK.out _).mono ?_; rintro e w13 ⟨rfl, hbw⟩; have B13 := Lib.hid hbw; clear hbw)
      | fail)
    go_ret
    exact ⟨rfl, B13.out⟩
  by_cases hbig2 : 40 < n2
  · go_enter Tryz.func8, Tryz.ntmps8
    go_wp2_with (first
      | (go_at_call 10; refine (HWK.out _).mono ?_; rintro e w13 ⟨rfl, hbw⟩; have B13 := Lib.hid hbw; clear hbw)
      | fail)
    go_ret
    exact ⟨rfl, B13.out⟩
  have HO1 := Lib.hid ho1; have HO2 := Lib.hid ho2
  have HNF := Lib.hid (new_any 5000 w)
  have HNG := Lib.hid (fun V => Vf.new_any 5000 V)
  have hmx : max (5000 : Int) 0 = 5000 := by decide
  rw [hmx] at HNF
  clear ho1 ho2 hmx
  go_enter Tryz.func8, Tryz.ntmps8
  go_wp2_with (first
    | (go_at_call 11; refine HNF.out.mono ?_; clear HNF; rintro e w1 ⟨rfl, hA, hb1⟩; have HA := Lib.hid hA; have HB1 := Lib.hid hb1; clear hA hb1)
    | (go_at_call 12; refine (HNG.out _).mono ?_; clear HNG; rintro e w2 ⟨rfl, hG, hb2⟩; have R0 := Lib.hid (run_new HA.out HB1.out hG hb2 (by decide)); clear hG hb2)
    | fail)
  have hPw : w.heap.size ≤ w2.heap.size := R0.out.duo.pn
  obtain ⟨P, hP⟩ : ∃ P, w2.heap.size = P := ⟨_, rfl⟩
  rw [hP] at R0 hPw
  try rw [hP]
  clear HA HB1
  generalize w2.alloc (.cells #[.pointer (some ⟨w.heap.size, 0, none⟩), .pointer (some ⟨w1.heap.size + 1, 0, none⟩)] 30) = w3 at R0 ⊢
  clear hP
  go_loopw [8] (fun i wr => ∃ (k p : Nat) (s : Pf) (l : Loc) (pr : Nat) (fs : Fs), k ≤ n1 ∧ i = .int .i64 k ∧ Run w P 5000 5000 (2 * k + 1) (2 * k + 1) p s l pr fs wr) (fun i _ => n1 - (intOf i).toNat)
  case atStart => exact ⟨0, _, _, _, _, _, Nat.zero_le _, rfl, R0.out⟩
  case round =>
    obtain ⟨k, p, s, l, pr, fs, hk, rfl, hrn⟩ := hrel
    have HRN := Lib.hid hrn
    clear hrn R0
    by_cases hlt : k < n1
    · have hol : k < os1.length := by rw [HO1.out.len]; exact hlt
      obtain ⟨o, hoo⟩ : ∃ o, os1[k]? = some o := ⟨_, List.getElem?_eq_getElem hol⟩
      obtain ⟨hok, g, off, rfl, hg, q0, q1, q2, q3⟩ := HO1.out.at_ k o hoo
      have q0 := (HRN.out.duo.one.below.cell (p := ⟨g, off + k * 4, none⟩) hg).trans q0
      have q1 := (HRN.out.duo.one.below.cell (p := ⟨g, off + k * 4 + 1, none⟩) hg).trans q1
      have q2 := (HRN.out.duo.one.below.cell (p := ⟨g, off + k * 4 + 2, none⟩) hg).trans q2
      have q3 := (HRN.out.duo.one.below.cell (p := ⟨g, off + k * 4 + 3, none⟩) hg).trans q3
      have hk0 : (0 : Int) ≤ (k : Int) := by omega
      have hk1 : (k : Int) < (n1 : Int) := by omega
      by_cases hsa : o.a.size ≤ 300
      · by_cases hsb : o.b.size ≤ 300
        · have HDO := Lib.hid (run_do o hok ⟨hsa, hsb⟩ HRN.out (by omega) (by omega) (by decide) (by decide))
          go_wp2_with (first
            | (go_at_call 13; refine HDO.out.mono ?_; clear HDO; rintro e w5 ⟨rfl, p', l', pr', hr5⟩; have R5 := Lib.hid hr5; clear hr5)
            | fail)
          exact ⟨⟨k + 1, p', _, l', pr', _, hlt, by go_num, R5.out⟩, by simp [intOf]; omega⟩
        · go_wp2_with (first
            | (go_at_call 10; refine (HWK.out _).mono ?_; rintro e w13 ⟨rfl, hbw⟩; have B13 := Lib.hid hbw; clear hbw)
            | fail)
          go_ret
          exact ⟨rfl, HRN.out.duo.one.below.trans (B13.out.mono HRN.out.duo.one.below.size)⟩
      · go_wp2_with (first
          | (go_at_call 10; refine (HWK.out _).mono ?_; rintro e w13 ⟨rfl, hbw⟩; have B13 := Lib.hid hbw; clear hbw)
          | fail)
        go_ret
        exact ⟨rfl, HRN.out.duo.one.below.trans (B13.out.mono HRN.out.duo.one.below.size)⟩
    · have bF := HRN.out.duo.boxF
      obtain ⟨s1, hs1⟩ : ∃ s1, ({ s with left := max (1 : Int) 0 } : Pf) = s1 := ⟨_, rfl⟩
      have hl1 : s1.left = 1 := by rw [← hs1]; show max (1 : Int) 0 = 1; decide
      have hf1 : Fine s1 81 := by rw [← hs1]; exact (HRN.out.fine.crash 1 (by decide)).mono (by omega)
      have hm1 : s1.room = 5000 := by rw [← hs1]; exact HRN.out.room
      have HCR : Hid (∀ V l, Duo w P p s l pr fs V → Calls Tryz.prog 15 #[.pointer (some ⟨p, 0, none⟩), .int .i64 1] V fun e V' => (∃ r, e = .returned r) ∧ LeftF w P p s1 pr fs V V') := Lib.hid fun V l h => by rw [← hs1]; exact crashF h 1
      obtain ⟨d, hd⟩ : ∃ d, tickS s1 = d := ⟨_, rfl⟩
      have hdd : Dead d := by rw [← hd, last_tick hl1]; exact dead_last s1
      have hfd : Fine d 82 := by rw [← hd]; exact hf1.tick
      have hmd : d.room = 5000 := by rw [← hd, tick_room]; exact hm1
      have HLS : Hid (∀ V l, Duo w P p s1 l pr fs V → Calls Tryz.prog 26 #[.pointer (some ⟨p, 0, none⟩), .string ⟨#[47]⟩] V fun e V' => (∃ A c n, e = .returned (.tuple #[.slice A n c, .int .i64 52])) ∧ LeftF w P p d pr fs V V') := Lib.hid fun V l h => (list_x h.one.f hf1 (by decide) rootB (by unfold okS; decide)).mono fun e V' ⟨⟨A, c, he, _⟩, ha⟩ => by
        have e52 : findDirRes s1 rootB = 52 := by unfold findDirRes; rw [last_begin hl1, if_pos (by decide)]
        rw [e52] at he
        rw [hd] at ha
        exact ⟨⟨A, c, _, he⟩, h.onF ha, stayF h.one.f ha⟩
      have HDN : Hid (∀ V l, Duo w P p d l pr fs V → Calls Tryz.prog 24 #[.pointer (some ⟨p, 0, none⟩)] V fun e V' => e = .returned (.bool true) ∧ V = V') := Lib.hid fun V l h => (down_any p d l V h.one.f).mono fun e V' ⟨he, hv⟩ => ⟨by rw [he, hdd.down], hv⟩
      have HCP : Hid (∀ V l, Duo w P p d l pr fs V → Calls Tryz.prog 25 #[.pointer (some ⟨p, 0, none⟩)] V fun e V' => ∃ po lo, e = .returned (.pointer (some ⟨po, 0, none⟩)) ∧ Trio w P p d l pr fs po d lo V') := Lib.hid fun V l h => copyT h hfd (by decide) (by rw [hmd]; decide)
      have D0 := Lib.hid HRN.out.duo
      have HDD := Lib.hid hdd; have HFD := Lib.hid hfd
      clear hs1 hl1 hf1 hm1 hd hdd hfd hmd HRN
      go_wp2_with (first
        | (go_at_call 15; refine (HCR.out _ _ D0.out).mono ?_; clear HCR; rintro e v1 ⟨⟨rr, rfl⟩, ⟨l1, d1⟩, _⟩; have bF1 := d1.boxF; have D1 := Lib.hid d1; clear d1)
        | (go_at_call 26; refine (HLS.out _ _ D1.out).mono ?_; clear HLS; rintro e v2 ⟨⟨AL, cL, nL, rfl⟩, ⟨l2, d2⟩, _⟩; have bF2 := d2.boxF; have D2 := Lib.hid d2; clear d2)
        | (go_at_call 24; refine (HDN.out _ _ D2.out).mono ?_; clear HDN; rintro e v3 ⟨rfl, rfl⟩)
        | (go_at_call 25; refine (HCP.out _ _ D2.out).mono ?_; clear HCP; rintro e v4 ⟨po, lo, rfl, t4⟩; have bF4 := t4.duo.boxF; have T4 := Lib.hid t4; clear t4)
        | fail)
      clear D0 D1 D2 bF bF1 bF2 hlt hk
      go_loopw [12] (fun i wr => ∃ (k : Nat) (l lo : Loc), k ≤ n2 ∧ i = .int .i64 k ∧ Trio w P p d l pr fs po d lo wr) (fun i _ => n2 - (intOf i).toNat)
      case atStart => exact ⟨0, _, _, Nat.zero_le _, rfl, T4.out⟩
      case round =>
        clear T4 bF4
        obtain ⟨k, l, lo, hk, rfl, ht⟩ := hrel
        have TT := Lib.hid ht
        have HB := Lib.hid ht.duo.one.below
        clear ht
        by_cases hlt : k < n2
        · have hol : k < os2.length := by rw [HO2.out.len]; exact hlt
          obtain ⟨o, hoo⟩ : ∃ o, os2[k]? = some o := ⟨_, List.getElem?_eq_getElem hol⟩
          obtain ⟨hok, g, off, rfl, hg, q0, q1, q2, q3⟩ := HO2.out.at_ k o hoo
          have q0 := (HB.out.cell (p := ⟨g, off + k * 4, none⟩) hg).trans q0
          have q1 := (HB.out.cell (p := ⟨g, off + k * 4 + 1, none⟩) hg).trans q1
          have q2 := (HB.out.cell (p := ⟨g, off + k * 4 + 2, none⟩) hg).trans q2
          have q3 := (HB.out.cell (p := ⟨g, off + k * 4 + 3, none⟩) hg).trans q3
          have hk0 : (0 : Int) ≤ (k : Int) := by omega
          have hk1 : (k : Int) < (n2 : Int) := by omega
          by_cases hsa : o.a.size ≤ 300
          · by_cases hsb : o.b.size ≤ 300
            · have hoa : okS o.a := by unfold okS; omega
              have hob : okS o.b := by unfold okS; omega
              have HRD : Hid (∀ V l lo, Trio w P p d l pr fs po d lo V → Calls Tryz.prog 20 #[.pointer (some ⟨p, 0, none⟩), .string o.a] V fun e V' => (∃ A c n, e = .returned (.tuple #[.slice A n c, .int .i64 52])) ∧ (∃ l', Trio w P p d l' pr fs po d lo V') ∧ Stay V V') := Lib.hid fun V l lo h => (readT1 h HFD.out HDD.out.tick o.a hoa).mono fun e V' ⟨⟨A, c, he, _⟩, h2⟩ => by
                rw [HDD.out.find] at he
                exact ⟨⟨A, c, _, he⟩, h2⟩
              have HWR : Hid (∀ V l lo v, Trio w P p d l pr fs po d lo V → BytesAt V v o.b → Calls Tryz.prog 16 #[.pointer (some ⟨p, 0, none⟩), .string o.a, v] V fun e V' => e = .returned (.int .i64 52) ∧ (∃ l', Trio w P p d l' pr fs po d lo V') ∧ Stay V V') := Lib.hid fun V l lo v h hv => (write_any p d l 82 o.a o.b v V h.duo.one.f HFD.out.fits (by decide) hoa hv).mono fun e V' ⟨he, ha⟩ => by
                obtain ⟨r1, r2⟩ := HDD.out.write o.a o.b
                rw [r1] at he; rw [r2] at ha
                exact ⟨he, h.onF ha, stayF h.duo.one.f ha⟩
              have HMK : Hid (∀ V l lo, Trio w P p d l pr fs po d lo V → Calls Tryz.prog 23 #[.pointer (some ⟨p, 0, none⟩), .string o.a] V fun e V' => e = .returned (.int .i64 52) ∧ (∃ l', Trio w P p d l' pr fs po d lo V') ∧ Stay V V') := Lib.hid fun V l lo h => (mkdir_any p d l 82 o.a V h.duo.one.f HFD.out.fits hoa).mono fun e V' ⟨he, ha⟩ => by
                obtain ⟨r1, r2⟩ := HDD.out.mkdir o.a
                rw [r1] at he; rw [r2] at ha
                exact ⟨he, h.onF ha, stayF h.duo.one.f ha⟩
              have HRN : Hid (∀ V l lo, Trio w P p d l pr fs po d lo V → Calls Tryz.prog 21 #[.pointer (some ⟨p, 0, none⟩), .string o.a, .string o.b] V fun e V' => e = .returned (.int .i64 52) ∧ (∃ l', Trio w P p d l' pr fs po d lo V') ∧ Stay V V') := Lib.hid fun V l lo h => (rename_any p d l 82 o.a o.b V h.duo.one.f HFD.out.fits (by decide) hoa hob).mono fun e V' ⟨he, ha⟩ => by
                obtain ⟨r1, r2⟩ := HDD.out.rename o.a o.b
                rw [r1] at he; rw [r2] at ha
                exact ⟨he, h.onF ha, stayF h.duo.one.f ha⟩
              have HRM : Hid (∀ V l lo, Trio w P p d l pr fs po d lo V → Calls Tryz.prog 27 #[.pointer (some ⟨p, 0, none⟩), .string o.a] V fun e V' => e = .returned (.int .i64 52) ∧ (∃ l', Trio w P p d l' pr fs po d lo V') ∧ Stay V V') := Lib.hid fun V l lo h => (remove_any p d l 82 o.a V h.duo.one.f HFD.out.fits (by decide) hoa).mono fun e V' ⟨he, ha⟩ => by
                have r2 := HDD.out.remove o.a
                rw [HDD.out.find] at he; rw [r2] at ha
                exact ⟨he, h.onF ha, stayF h.duo.one.f ha⟩
              have HSD : Hid (∀ V l lo, Trio w P p d l pr fs po d lo V → Calls Tryz.prog 18 #[.pointer (some ⟨p, 0, none⟩), .string o.a] V fun e V' => e = .returned (.int .i64 52) ∧ (∃ l', Trio w P p d l' pr fs po d lo V') ∧ Stay V V') := Lib.hid fun V l lo h => (syncDir_x h.duo.one.f HFD.out (by decide) o.a hoa).mono fun e V' ⟨he, ha⟩ => by
                rw [HDD.out.findDir] at he; rw [HDD.out.syncDir] at ha
                exact ⟨he, h.onF ha, stayF h.duo.one.f ha⟩
              have hcv := conv_run o.b
              go_wp2_with fail
              obtain ⟨O, hOe⟩ : ∃ O, wr.heap.size = O := ⟨_, rfl⟩
              have t1 := TT.out.keep ((Below.refl _ _).alloc (Nat.le_refl _) (.cells #[.int .u8 o.kind, .string o.a, .string o.b, .int .i64 o.n] 32))
              have hO : Hold (wr.alloc (.cells #[.int .u8 o.kind, .string o.a, .string o.b, .int .i64 o.n] 32)) wr.heap.size 32 (opCells o) := heap_alloc_new wr _
              generalize wr.alloc (.cells #[.int .u8 o.kind, .string o.a, .string o.b, .int .i64 o.n] 32) = V0 at t1 hO ⊢
              rw [hOe] at hO
              try rw [hOe]
              have b0 := t1.duo.boxF
              have o1 : V0.cell? ⟨O, 1, none⟩ = some (.string o.a) := by rw [hO.cell]; rfl
              have T0 := Lib.hid t1; have HOO := Lib.hid hO
              clear t1 hO
              refine Vf.wp_region_guard (fun z => z.cell? ⟨P, 0, none⟩ = some (.pointer (some ⟨p, 0, none⟩)) ∧ z.cell? ⟨O, 1, none⟩ = some (.string o.a)) [(0, true), (1, true), (2, true), (3, true), (4, true), (5, true), (6, false), (7, true), (8, true), (9, true), (10, true)] _ (by kernel_rfl) rfl (by kernel_rfl) (by kernel_rfl) ⟨b0, o1⟩ ?_
              simp only [permL, List.dropLast, List.getElem?_cons_zero, List.getElem?_cons_succ, List.getLast]
              repeat (apply wpMixG_free
                      · rfl
                      · intro z hz
                        try dsimp only at hz
                        go_simp
                        all_goals with_reducible rfl
                      simp only [Act.put, List.setIfInBounds_toArray, List.set_cons_zero, List.set_cons_succ])
              refine wpMixG_turn (by rfl) (fun K hK => ?_)
              have HK := Lib.hid hK; clear hK
              go_simp
              refine (HRD.out _ _ _ (T0.out.keep (Below.refl _ _).drew)).mono ?_
              rintro e V1 ⟨⟨AR, cR, nR, rfl⟩, ⟨l1, t1⟩, st1⟩
              have hO1 := st1.hold (W := V0.drew) HOO.out (by decide)
              refine HK.out _ _ ⟨t1.duo.boxF, by rw [hO1.cell]; rfl⟩ ?_
              clear HK b0 o1
              have b1 := t1.duo.boxF
              have p1 : V1.cell? ⟨O, 1, none⟩ = some (.string o.a) := by rw [hO1.cell]; rfl
              have p2 : V1.cell? ⟨O, 2, none⟩ = some (.string o.b) := by rw [hO1.cell]; rfl
              have T1 := Lib.hid t1; have HO3 := Lib.hid hO1
              clear t1 st1 hO1 HOO T0
              try simp only [Act.put, List.setIfInBounds_toArray, List.set_cons_zero, List.set_cons_succ]
              repeat (apply wpMixG_free
                      · rfl
                      · intro z hz
                        try dsimp only at hz
                        go_simp
                        all_goals with_reducible rfl
                      simp only [Act.put, List.setIfInBounds_toArray, List.set_cons_zero, List.set_cons_succ])
              refine wpMixG_end ?_
              go_simp
              go_wp2_with fail
              refine Vf.wp_region_guard (fun z => z.cell? ⟨P, 0, none⟩ = some (.pointer (some ⟨p, 0, none⟩)) ∧ z.cell? ⟨O, 1, none⟩ = some (.string o.a) ∧ z.cell? ⟨O, 2, none⟩ = some (.string o.b)) [(0, true), (1, true), (2, true), (3, true), (4, true), (5, true), (6, true), (7, true), (8, false), (9, false), (10, true), (11, true), (12, true), (13, true), (14, true), (15, true), (16, true), (17, true), (18, false), (19, true), (20, true), (21, true), (22, true), (23, true), (24, true), (25, true), (26, true), (27, true), (28, true), (29, true), (30, false), (31, true), (32, true), (33, true), (34, true), (35, true), (36, true), (37, true), (38, true), (39, true), (40, false), (41, true), (42, true), (43, true), (44, true), (45, true), (46, true), (47, true), (48, true), (49, true), (50, false), (51, true), (52, true), (53, true), (54, true), (55, true)] _ (by kernel_rfl) rfl (by kernel_rfl) (by kernel_rfl) ⟨b1, p1, p2⟩ ?_
              clear b1 p1 p2
              simp only [permL, List.dropLast, List.getElem?_cons_zero, List.getElem?_cons_succ, List.getLast]
              repeat (apply wpMixG_free
                      · rfl
                      · intro z hz
                        try dsimp only at hz
                        go_simp
                        all_goals with_reducible rfl
                      simp only [Act.put, List.setIfInBounds_toArray, List.set_cons_zero, List.set_cons_succ])
              refine wpMixG_turn (by rfl) (fun K hK => ?_)
              have HK := Lib.hid hK; clear hK
              go_simp
              have hO4 := (Stay.below (conv_below o.b V1.drew)).hold (W := V1.drew) HO3.out (by decide)
              have t0 := (T1.out.keep (Below.refl _ _).drew).keep (conv_below o.b V1.drew)
              refine HK.out _ _ ⟨t0.duo.boxF, by rw [hO4.cell]; rfl, by rw [hO4.cell]; rfl⟩ ?_
              clear HK
              have T2 := Lib.hid t0; have BC := Lib.hid (conv_at o.b V1.drew)
              clear t0
              obtain ⟨V2, hV2⟩ : ∃ V2, convW V1.drew o.b = V2 := ⟨_, rfl⟩
              obtain ⟨v3, hv3⟩ : ∃ v3, convV V1.drew o.b = v3 := ⟨_, rfl⟩
              rw [hV2] at T2 hO4 BC ⊢
              rw [hv3] at BC ⊢
              clear hV2 hv3
              try simp only [Act.put, List.setIfInBounds_toArray, List.set_cons_zero, List.set_cons_succ]
              refine wpMixG_turn (by rfl) (fun K hK => ?_)
              have HK := Lib.hid hK; clear hK
              go_simp
              refine (HWR.out _ _ _ _ T2.out BC.out).mono ?_
              rintro e X0 ⟨rfl, ⟨m0, t0⟩, st0⟩
              have hX0 := st0.hold hO4 (by decide)
              refine HK.out _ _ ⟨t0.duo.boxF, by rw [hX0.cell]; rfl, by rw [hX0.cell]; rfl⟩ ?_
              clear HK
              have TX0 := Lib.hid t0
              clear t0 st0
              try simp only [Act.put, List.setIfInBounds_toArray, List.set_cons_zero, List.set_cons_succ]
              repeat (apply wpMixG_free
                      · rfl
                      · intro z hz
                        try dsimp only at hz
                        go_simp
                        all_goals with_reducible rfl
                      simp only [Act.put, List.setIfInBounds_toArray, List.set_cons_zero, List.set_cons_succ])
              refine wpMixG_turn (by rfl) (fun K hK => ?_)
              have HK := Lib.hid hK; clear hK
              go_simp
              refine (HMK.out _ _ _ TX0.out).mono ?_
              rintro e X1 ⟨rfl, ⟨m1, t1⟩, st1⟩
              have hX1 := st1.hold hX0 (by decide)
              refine HK.out _ _ ⟨t1.duo.boxF, by rw [hX1.cell]; rfl, by rw [hX1.cell]; rfl⟩ ?_
              clear HK
              have TX1 := Lib.hid t1
              clear t1 st1
              try simp only [Act.put, List.setIfInBounds_toArray, List.set_cons_zero, List.set_cons_succ]
              repeat (apply wpMixG_free
                      · rfl
                      · intro z hz
                        try dsimp only at hz
                        go_simp
                        all_goals with_reducible rfl
                      simp only [Act.put, List.setIfInBounds_toArray, List.set_cons_zero, List.set_cons_succ])
              refine wpMixG_turn (by rfl) (fun K hK => ?_)
              have HK := Lib.hid hK; clear hK
              go_simp
              refine (HRN.out _ _ _ TX1.out).mono ?_
              rintro e X2 ⟨rfl, ⟨m2, t2⟩, st2⟩
              have hX2 := st2.hold hX1 (by decide)
              refine HK.out _ _ ⟨t2.duo.boxF, by rw [hX2.cell]; rfl, by rw [hX2.cell]; rfl⟩ ?_
              clear HK
              have TX2 := Lib.hid t2
              clear t2 st2
              try simp only [Act.put, List.setIfInBounds_toArray, List.set_cons_zero, List.set_cons_succ]
              repeat (apply wpMixG_free
                      · rfl
                      · intro z hz
                        try dsimp only at hz
                        go_simp
                        all_goals with_reducible rfl
                      simp only [Act.put, List.setIfInBounds_toArray, List.set_cons_zero, List.set_cons_succ])
              refine wpMixG_turn (by rfl) (fun K hK => ?_)
              have HK := Lib.hid hK; clear hK
              go_simp
              refine (HRM.out _ _ _ TX2.out).mono ?_
              rintro e X3 ⟨rfl, ⟨m3, t3⟩, st3⟩
              have hX3 := st3.hold hX2 (by decide)
              refine HK.out _ _ ⟨t3.duo.boxF, by rw [hX3.cell]; rfl, by rw [hX3.cell]; rfl⟩ ?_
              clear HK
              have TX3 := Lib.hid t3
              clear t3 st3
              try simp only [Act.put, List.setIfInBounds_toArray, List.set_cons_zero, List.set_cons_succ]
              repeat (apply wpMixG_free
                      · rfl
                      · intro z hz
                        try dsimp only at hz
                        go_simp
                        all_goals with_reducible rfl
                      simp only [Act.put, List.setIfInBounds_toArray, List.set_cons_zero, List.set_cons_succ])
              refine wpMixG_turn (by rfl) (fun K hK => ?_)
              have HK := Lib.hid hK; clear hK
              go_simp
              refine (HSD.out _ _ _ TX3.out).mono ?_
              rintro e X4 ⟨rfl, ⟨m4, t4⟩, st4⟩
              have hX4 := st4.hold hX3 (by decide)
              refine HK.out _ _ ⟨t4.duo.boxF, by rw [hX4.cell]; rfl, by rw [hX4.cell]; rfl⟩ ?_
              clear HK
              have TX4 := Lib.hid t4
              clear t4 st4
              try simp only [Act.put, List.setIfInBounds_toArray, List.set_cons_zero, List.set_cons_succ]
              repeat (apply wpMixG_free
                      · rfl
                      · intro z hz
                        try dsimp only at hz
                        go_simp
                        all_goals with_reducible rfl
                      simp only [Act.put, List.setIfInBounds_toArray, List.set_cons_zero, List.set_cons_succ])
              refine wpMixG_end ?_
              go_simp
              go_wp2_with fail
              exact ⟨⟨k + 1, _, _, hlt, by go_num, TX4.out⟩, by simp [intOf]; omega⟩
            · go_wp2_with (first
                | (go_at_call 10; refine (HWK.out _).mono ?_; rintro e w13 ⟨rfl, hbw⟩; have B13 := Lib.hid hbw; clear hbw)
                | fail)
              go_ret
              exact ⟨rfl, HB.out.trans ((((Below.refl wr.heap.size wr).alloc (Nat.le_refl _) (.cells #[.int .u8 o.kind, .string o.a, .string o.b, .int .i64 o.n] 32)).trans (B13.out.mono (by simp))).mono HB.out.size)⟩
          · go_wp2_with (first
              | (go_at_call 10; refine (HWK.out _).mono ?_; rintro e w13 ⟨rfl, hbw⟩; have B13 := Lib.hid hbw; clear hbw)
              | fail)
            go_ret
            exact ⟨rfl, HB.out.trans ((((Below.refl wr.heap.size wr).alloc (Nat.le_refl _) (.cells #[.int .u8 o.kind, .string o.a, .string o.b, .int .i64 o.n] 32)).trans (B13.out.mono (by simp))).mono HB.out.size)⟩
        · have bF := TT.out.duo.boxF
          obtain ⟨u, hu⟩ : ∃ u, rebootS d choice = u := ⟨_, rfl⟩
          have hul : tickS u = u := by rw [← hu]; exact (up_reboot d choice).tick
          have hud : u.down = false := by rw [← hu]; rfl
          have HR1 : Hid (∀ V l lo, Trio w P p d l pr fs po d lo V → Calls Tryz.prog 19 #[.pointer (some ⟨p, 0, none⟩), .int .i64 choice] V fun e V' => (∃ r, e = .returned r) ∧ (∃ l', Trio w P p u l' pr fs po d lo V') ∧ Fine u 82) := Lib.hid fun V l lo h => (reboot_any p d l 82 choice V h.duo.one.f HFD.out.fits (by decide) HFD.out.canon).mono fun e V' ⟨he, ha, h1, h2⟩ => by
            rw [hu] at ha h1 h2
            exact ⟨he, h.onF ha, h1, h2, by rw [← hu]; exact wapart_reboot HFD.out.apart choice⟩
          have HR2 : Hid (∀ V l lo, Trio w P p u l pr fs po d lo V → Calls Tryz.prog 19 #[.pointer (some ⟨po, 0, none⟩), .int .i64 choice] V fun e V' => (∃ r, e = .returned r) ∧ ∃ lo', Trio w P p u l pr fs po u lo' V') := Lib.hid fun V l lo h => (reboot_any po d lo 82 choice V h.old HFD.out.fits (by decide) HFD.out.canon).mono fun e V' ⟨he, ha, _, _⟩ => by
            rw [hu] at ha
            exact ⟨he, h.onOld ha⟩
          have HDN : Hid (∀ V l lo, Trio w P p u l pr fs po u lo V → Calls Tryz.prog 24 #[.pointer (some ⟨p, 0, none⟩)] V fun e V' => e = .returned (.bool false) ∧ V = V') := Lib.hid fun V l lo h => (down_any p u l V h.duo.one.f).mono fun e V' ⟨he, hv⟩ => ⟨by rw [he, hud], hv⟩
          have HA1 : Hid (∀ V l lo, Fine u 82 → Trio w P p u l pr fs po u lo V → Calls Tryz.prog 28 #[.pointer (some ⟨p, 0, none⟩), .pointer (some ⟨po, 0, none⟩), .string ⟨#[47]⟩] V fun e V' => e = .returned (.bool true) ∧ ∃ l' lo', Trio w P p u l' pr fs po u lo' V') := Lib.hid fun V l lo hf h => alike_any h hf hf (by decide) hul hul (by decide) (Like.refl hf.canon)
          have HA2 : Hid (∀ V l lo, Fine u 82 → Trio w P p u l pr fs po u lo V → Calls Tryz.prog 28 #[.pointer (some ⟨p, 0, none⟩), .pointer (some ⟨po, 0, none⟩), .string ⟨#[47, 100]⟩] V fun e V' => e = .returned (.bool true) ∧ ∃ l' lo', Trio w P p u l' pr fs po u lo' V') := Lib.hid fun V l lo hf h => alike_any h hf hf (by decide) hul hul (by decide) (Like.refl hf.canon)
          have HA3 : Hid (∀ V l lo, Fine u 82 → Trio w P p u l pr fs po u lo V → Calls Tryz.prog 28 #[.pointer (some ⟨p, 0, none⟩), .pointer (some ⟨po, 0, none⟩), .string ⟨#[47, 101]⟩] V fun e V' => e = .returned (.bool true) ∧ ∃ l' lo', Trio w P p u l' pr fs po u lo' V') := Lib.hid fun V l lo hf h => alike_any h hf hf (by decide) hul hul (by decide) (Like.refl hf.canon)
          clear hu hul hud HB
          go_wp2_with (first
            | (go_at_call 19; refine (HR1.out _ _ _ TT.out).mono ?_; clear HR1; rintro e v1 ⟨⟨rr, rfl⟩, ⟨l1, t1⟩, hf1⟩; have bF1 := t1.duo.boxF; have T1 := Lib.hid t1; have F1 := Lib.hid hf1; clear t1 hf1)
            | (go_at_call 19; refine (HR2.out _ _ _ T1.out).mono ?_; clear HR2; rintro e v2 ⟨⟨rr, rfl⟩, lo2, t2⟩; have bF2 := t2.duo.boxF; have T2 := Lib.hid t2; clear t2)
            | (go_at_call 24; refine (HDN.out _ _ _ T2.out).mono ?_; clear HDN; rintro e v3 ⟨rfl, rfl⟩)
            | (go_at_call 28; refine (HA1.out _ _ _ F1.out T2.out).mono ?_; clear HA1; rintro e v4 ⟨rfl, l4, lo4, t4⟩; have bF4 := t4.duo.boxF; have T4 := Lib.hid t4; clear t4)
            | (go_at_call 28; refine (HA2.out _ _ _ F1.out T4.out).mono ?_; clear HA2; rintro e v5 ⟨rfl, l5, lo5, t5⟩; have bF5 := t5.duo.boxF; have T5 := Lib.hid t5; clear t5)
            | (go_at_call 28; refine (HA3.out _ _ _ F1.out T5.out).mono ?_; clear HA3; rintro e v6 ⟨rfl, l6, lo6, t6⟩; have T6 := Lib.hid t6; clear t6)
            | (go_at_call 10; refine (HWK.out _).mono ?_; rintro e w13 ⟨rfl, hbw⟩; have B13 := Lib.hid hbw; clear hbw)
            | fail)
          go_ret
          exact ⟨rfl, T6.out.duo.one.below.trans (B13.out.mono T6.out.duo.one.below.size)⟩
end Go.Proofs.YtdbcjiapbehacaaGreatDoor.Vp
