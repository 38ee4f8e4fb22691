/-
  The document's file system: Reboot, walked.
-/
import Derived.Test.YtdbcjiapbehacaaGreatDoorVfQ
import Derived.Deep.DeepCutAuto
namespace Go.Proofs.YtdbcjiapbehacaaGreatDoor.Vf
open Go.RowKit

set_option maxHeartbeats 800000 in
set_option maxRecDepth 100000 in
theorem reboot_any (p gd cd : Nat) (fs : Fs) (vf : Value) (dv : List Dv) (choice : Int) (t : Nat) (w : World) (h : Owns w p fs vf gd cd dv) (hfd : FineD fs t) (ht200 : t ≤ 200) :
    Calls Tryz.prog 39 #[.pointer (some ⟨p, 0, none⟩), .int .i64 choice] w fun e w' => (∃ r, e = .returned r) ∧ ∃ dv', Owns w' p (rebootFs fs choice) vf gd cd dv' ∧ Moves w w' (Foot p gd vf dv) (Foot p gd vf dv') := by
  have ht := h.sees.top
  have hdl : fs.dirs.length ≤ 1000000 := by have := hfd.nd; omega
  have h0 : 0 < fs.dirs.length := hfd.pos
  have HFD := Lib.hid hfd
  have hc2 : w.cell? ⟨p, 2, none⟩ = some (.slice (some ⟨gd, 0, none⟩) fs.dirs.length cd) := by rw [ht.cell]; rfl
  have hc3 : w.cell? ⟨p, 3, none⟩ = some (.bool fs.down) := by rw [ht.cell]; rfl
  have hc4 : w.cell? ⟨p, 4, none⟩ = some (.int .i64 fs.crash) := by rw [ht.cell]; rfl
  have hf3 : w.frozen? ⟨p, 3, none⟩ = false := ht.frozen 3
  have hf4 : w.frozen? ⟨p, 4, none⟩ = false := ht.frozen 4
  have hpl : p < w.heap.size := ht.lt
  have hgl : gd < w.heap.size := h.sees.dirs.lt
  have H := Lib.hid h; have HT := Lib.hid ht
  clear h ht hfd
  go_enter Tryz.func39, Tryz.ntmps39
  go_wp2_with fail
  rw [wrap_u64]
  obtain ⟨ho1, hg1⟩ := reboot_up H.out
  have hls1 : w.heap.size ≤ ((w.setCell ⟨p, 3, none⟩ (.bool false)).setCell ⟨p, 4, none⟩ (.int .i64 0)).heap.size := hg1.size
  have HG1 := Lib.hid hg1
  generalize (w.setCell ⟨p, 3, none⟩ (.bool false)).setCell ⟨p, 4, none⟩ (.int .i64 0) = w1 at ho1 HG1 hls1 ⊢
  have hct : w1.cell? ⟨p, 2, none⟩ = some (.slice (some ⟨gd, 0, none⟩) fs.dirs.length cd) := by rw [ho1.sees.top.cell]; rfl
  have hplw : p < w1.heap.size := ho1.sees.top.lt
  have hglw : gd < w1.heap.size := ho1.sees.dirs.lt
  have hfit := ho1.sees.dirs.fits
  have HO1 := Lib.hid ho1
  clear ho1 hg1 hc2 hc3 hc4 hf3 hf4 HT
  go_loopw [5, 6] (fun l i wr => ∃ k : Nat, k ≤ fs.dirs.length ∧ i = .int .i64 k ∧ OwnR wr w1.heap.size 111 2 l (((idxN fs.dirs).take k).map Nm.cells) ∧ Below w1.heap.size w1 wr) (fun _ i _ => fs.dirs.length - (intOf i).toNat)
  case atStart => exact ⟨0, by omega, rfl, OwnR.nil _ _ _ _, Below.refl _ _⟩
  case round =>
    obtain ⟨k, hk, rfl, ho, hb⟩ := hrel
    have hctr := (hb.cell (p := ⟨p, 2, none⟩) hplw).trans hct
    by_cases hlt : k < fs.dirs.length
    · obtain ⟨d, u, hd, hu, hd0, _⟩ := HO1.out.sees.dir hlt
      have hdr := (hb.cell (p := ⟨gd, k * 4, none⟩) hglw).trans hd0
      have hml : ((idxN fs.dirs).take k).length = k := by rw [List.length_take, idxN_len]; omega
      have hnx : (idxN fs.dirs).take (k + 1) = (idxN fs.dirs).take k ++ [⟨d.p, k⟩] := take_snoc (idxN_at hd)
      have HA := Lib.hid (ho.alloc (.cells #[.string d.p, .int .i64 k] 111))
      have HB : Hid (Below w1.heap.size w1 (wr.alloc (.cells #[.string d.p, .int .i64 k] 111))) := Lib.hid (hb.alloc hb.size _)
      have hbs := hb.size
      have HML := Lib.hid hml; have HNX := Lib.hid hnx
      clear ho hb hd hu hd0 hnx hml
      go_wp2_with (first
        | (at_builtin; refine plain_append_one (.tmp 33) (.tmp 44) rfl 59 111 2 24 _ rfl Tryz.underlying59 name_info rfl (by decide) (by decide) w1.heap.size _ _ [.string d.p, .int .i64 k] ⟨wr.heap.size, 0, none⟩ 1 rfl rfl HA.out rfl (new_cells wr _ rfl _ _) (by simp [Value.oneCell']) (by rw [List.length_map, HML.out]; omega) (by simp; omega) ?_; intro v' w' hown hgr hat)
        | fail)
      have hgb := HA.out.below hgr (B := w1.heap.size) (Nat.le_refl _) (by simp; omega)
      refine ⟨⟨k + 1, hlt, by go_num, ?_, HB.out.trans hgb⟩, by simp [intOf]; omega⟩
      rw [HNX.out, List.map_append]
      exact hown
    · obtain rfl : k = fs.dirs.length := by omega
      have htk : (idxN fs.dirs).take fs.dirs.length = idxN fs.dirs := List.take_of_length_le (by rw [idxN_len]; omega)
      rw [htk] at ho
      have HO := Lib.hid ho; have HB := Lib.hid hb
      clear htk ho hb
      go_wp2_with fail
      refine (sorted_any _ (idxN fs.dirs) wr HO.out.reads (by rw [idxN_len]; exact hdl)).mono ?_
      rintro e w2 ⟨vL, rfl, hL, hb2⟩
      have hLl : (dirsIn fs).length = fs.dirs.length := by unfold dirsIn; rw [sortN_len, idxN_len]
      change OwnR w2 wr.heap.size _ 2 vL ((dirsIn fs).map Nm.cells) at hL
      have hLf : ∀ x ∈ dirsIn fs, x.f < fs.dirs.length := fun x hx => by
        have h1 := (sortN_perm (idxN fs.dirs)).mem_iff.1 hx
        unfold idxN at h1
        obtain ⟨y, hy, rfl⟩ := List.mem_map.1 h1
        have := (List.mem_zipIdx hy).2.1
        show y.2 < _
        omega
      obtain ⟨L, hLe⟩ : ∃ L, dirsIn fs = L := ⟨_, rfl⟩
      rw [hLe] at hL hLl hLf
      have hbw : Below w1.heap.size w1 w2 := HB.out.trans (hb2.mono HB.out.size)
      have hf0 := hL.1
      rw [List.length_map] at hf0
      obtain ⟨gl, cl, rfl, _, _⟩ := hf0.form (by rw [hLl]; exact h0)
      have hst : RbAt w1 w2 w2 p gd cd fs vf dv (.slice (some ⟨gl, 0, none⟩) L.length cl) L ⟨fs.dirs, u64 choice, []⟩ dv (.slice none 0 0) :=
        ⟨HO1.out.below (hbw), ⟨hbw.os, hbw.tape, hbw.output, hbw.size, fun g hg _ => hbw.block g hg, fun g hg => .inl hg⟩, hL.mono HB.out.size, fun b hb => (hL.lt b hb).2, OwnR.nil _ _ _ _, besides_nil _ _, Nat.le_refl _⟩
      have HW12 := Lib.hid hbw.size; have HST := Lib.hid hst; have HLE := Lib.hid hLe; have HLF := Lib.hid hLf; have HLL := Lib.hid hLl
      have hul := u64_lt choice
      clear hst hLe hLf hLl hL hb2 hbw hf0 hctr HO HB
      go_wp2_with fail
      go_loopw [4, 7, 8] (fun c vA i wz => ∃ (m : Nat) (s : Rst) (dvm : List Dv), m ≤ L.length ∧ i = .int .i64 m ∧ s = (L.take m).foldl rbDir ⟨fs.dirs, u64 choice, []⟩ ∧ c = .int .u64 s.c ∧ s.c < 18446744073709551616 ∧ s.dirs.length = fs.dirs.length ∧ RbAt w1 w2 wz p gd cd fs vf dv (.slice (some ⟨gl, 0, none⟩) L.length cl) L s dvm vA) (fun _ _ i _ => L.length - (intOf i).toNat)
      case atStart => exact ⟨0, _, _, by omega, rfl, rfl, rfl, hul, rfl, HST.out⟩
      case round =>
        obtain ⟨m, s, dvm, hm, rfl, hs, rfl, hcl, hsd, hR⟩ := hrel
        have hcp : wr.cell? ⟨p, 2, none⟩ = some (.slice (some ⟨gd, 0, none⟩) fs.dirs.length cd) := by rw [hR.owns.sees.top.cell, ← hsd]; rfl
        have hfb := fold_back (files := fs.files) (t := t) (L.take m) ⟨fs.dirs, Go.Proofs.YtdbcjiapbehacaaGreatDoor.Vf.u64 choice, []⟩ HFD.out
        rw [← hs] at hfb
        have hall : s.all.length ≤ 40000 := by
          have h1 := hfb.2.1
          have h2 : (L.take m).length ≤ 200 := by rw [List.length_take]; have := HLL.out; have := HFD.out.nd; omega
          have h3 : (L.take m).length * t ≤ 200 * 200 := Nat.mul_le_mul h2 ht200
          simp only [List.length_nil] at h1
          omega
        have hws : ∀ (i : Nat) (d : Dr), s.dirs[i]? = some d → d.dur.length + d.waits.length ≤ 200 := fun i d hd => by
          have := (hfb.1.each d (List.mem_of_getElem? hd)).2
          omega
        have HALL := Lib.hid hall
        clear hall
        by_cases hml : m < L.length
        · obtain ⟨x, hx⟩ : ∃ x, L[m]? = some x := ⟨_, List.getElem?_eq_getElem hml⟩
          have hxf : x.f < s.dirs.length := by rw [hsd]; exact HLF.out x (List.mem_of_getElem? hx)
          obtain ⟨d, u, hd, hu, hd0, hd1, hd2, hd3⟩ := hR.owns.sees.dir hxf
          change s.dirs[x.f]? = some d at hd
          obtain ⟨gl', cl', hgl', hlcl, hlcell⟩ := hR.list.reads.at_ (k := m) (cs := x.cells) (by rw [List.getElem?_map, hx]; rfl)
          rw [List.length_map] at hgl' hlcl
          injection hgl' with e1 _ e3
          injection e1 with e1
          injection e1 with e1
          subst e1; subst e3
          have hlx : wr.cell? ⟨gl, m * 2 + 1, none⟩ = some (.int .i64 x.f) := hlcell 1 _ rfl
          have hea := hR.owns.sees.each x.f d u hd hu
          obtain ⟨An, cn, hun⟩ := hea.1.len
          obtain ⟨Ad, cdd, hud⟩ := hea.2.1.len
          obtain ⟨As, cs, hus⟩ := hea.2.2.len
          rw [List.length_map] at hun hud hus
          rw [hun, hud, hus] at hea
          rw [hun] at hd1; rw [hud] at hd2; rw [hus] at hd3
          have hfx : (x.f : Int) < (fs.dirs.length : Int) := by omega
          have hgdl : gd < wr.heap.size := hR.owns.sees.dirs.lt
          have hpl2 : p < wr.heap.size := hR.owns.sees.top.lt
          have HX := Lib.hid hx; have HD := Lib.hid hd; have HU := Lib.hid hu; have HLX := Lib.hid hlx; have HDC := Lib.hid (And.intro hd0 (And.intro hd1 (And.intro hd2 hd3))); have HEA := Lib.hid hea; have HR := Lib.hid hR; have HS := Lib.hid hs; have HSD := Lib.hid hsd
          clear hx hd hu hea hR hs hsd hun hud hus hlcell hfb
          go_wp2_with fail
          refine wp_region_mix (fun z => z.cell? ⟨p, 2, none⟩ = some (.slice (some ⟨gd, 0, none⟩) fs.dirs.length cd) ∧ z.cell? ⟨gl, m * 2 + 1, none⟩ = some (.int .i64 x.f) ∧ z.cell? ⟨gd, x.f * 4, none⟩ = some (.string d.p) ∧ z.cell? ⟨gd, x.f * 4 + 1, none⟩ = some (.slice An d.names.length cn) ∧ z.cell? ⟨gd, x.f * 4 + 2, none⟩ = some (.slice Ad d.dur.length cdd) ∧ z.cell? ⟨gd, x.f * 4 + 3, none⟩ = some (.slice As d.waits.length cs))
            [true, true, true, true, true, true, true, true, true, true, true, false] _ (by kernel_rfl) rfl (by kernel_rfl) ⟨hcp, hlx, hd0, hd1, hd2, hd3⟩ ?_
          dsimp only [List.dropLast, List.zip, List.zipWith, List.getLast]
          repeat (apply wpMix_free
                  · intro z hz
                    try dsimp only at hz
                    go_simp
                    all_goals with_reducible rfl
                  simp only [Act.put, List.setIfInBounds_toArray, List.set_cons_zero, List.set_cons_succ])
          refine wpMix_turn (fun K hK => ?_)
          have HK := Lib.hid hK; clear hK
          go_simp
          have hal : ∀ (a : Addr) (y : Value), a.block < wr.heap.size → wr.cell? a = some y → (wr.alloc (.cells #[.string ⟨#[]⟩, .slice none 0 0, .slice none 0 0, .slice none 0 0] 62)).drew.cell? a = some y := fun a y ha hy => (World.cell?_alloc_lt wr _ a ha).trans hy
          have hgll : gl < wr.heap.size := by
            rcases Nat.lt_or_ge gl wr.heap.size with h | h
            · exact h
            · simp [World.cell?, Array.getElem?_eq_none h] at hlx
          refine HK.out _ _ ⟨hal _ _ hpl2 hcp, hal _ _ hgll hlx, hal _ _ hgdl hd0, hal _ _ hgdl hd1, hal _ _ hgdl hd2, hal _ _ hgdl hd3⟩ ?_
          clear HK hal
          refine wpMix_end ?_
          go_simp
          have hwl := hws x.f d HD.out
          have hWh : Hold (wr.alloc (.cells #[.string d.p, .slice An d.names.length cn, .slice Ad d.dur.length cdd, .slice As d.waits.length cs] 62)).drew wr.heap.size 62 [.string d.p, .slice An d.names.length cn, .slice Ad d.dur.length cdd, .slice As d.waits.length cs] := heap_alloc_new wr _
          have hWb : Below wr.heap.size wr (wr.alloc (.cells #[.string d.p, .slice An d.names.length cn, .slice Ad d.dur.length cdd, .slice As d.waits.length cs] 62)).drew := ((Below.refl _ _).alloc (Nat.le_refl _) _).drew
          generalize (wr.alloc (.cells #[.string d.p, .slice An d.names.length cn, .slice Ad d.dur.length cdd, .slice As d.waits.length cs] 62)).drew = W at hWh hWb ⊢
          obtain ⟨wO, rfl⟩ : ∃ wo : World, wo = wr := ⟨_, rfl⟩
          obtain ⟨q, hq⟩ : ∃ q, wO.heap.size = q := ⟨_, rfl⟩
          rw [hq] at hWh ⊢
          have hB0 : W.cell? ⟨q, 0, none⟩ = some (.string d.p) := by rw [hWh.cell]; rfl
          have hB2 : W.cell? ⟨q, 2, none⟩ = some (.slice Ad d.dur.length cdd) := by rw [hWh.cell]; rfl
          have hB3 : W.cell? ⟨q, 3, none⟩ = some (.slice As d.waits.length cs) := by rw [hWh.cell]; rfl
          have hqW : q < W.heap.size := hWh.lt
          obtain ⟨K, hK⟩ : ∃ K, s.c % (d.waits.length + 1) = K := ⟨_, rfl⟩
          obtain ⟨C, hC⟩ : ∃ C, s.c / (d.waits.length + 1) = C := ⟨_, rfl⟩
          have hKl : K < d.waits.length + 1 := by rw [← hK]; exact Nat.mod_lt _ (by omega)
          have hCl : C < 18446744073709551616 := by rw [← hC]; exact Nat.lt_of_le_of_lt (Nat.div_le_self _ _) hcl
          have hN1 : d.waits.length + 1 ≤ 4294967299 := by omega
          have hKK : wrap64 ((s.c : Int) % ((d.waits.length : Int) + 1)) = (K : Int) := by
            rw [← Int.natCast_succ, ← hK]
            exact pick_K s.c (d.waits.length + 1) (Nat.succ_pos _) hN1
          have hCC : IntKind.u64.wrap ((s.c : Int) / ((d.waits.length : Int) + 1)) = (C : Int) := by
            rw [← Int.natCast_succ, ← hC]
            exact pick_C s.c (d.waits.length + 1) hcl
          have HK0 := Lib.hid hK; have HC0 := Lib.hid hC; have HWB := Lib.hid hWb
          have HRD : Hid (Reads W 111 2 (.slice Ad d.dur.length cdd) (d.dur.map Nm.cells)) := Lib.hid (HEA.out.2.1.keep fun g cur hg => hWb.block g (Array.getElem?_eq_some_iff.1 hg).1)
          have HRS : Hid (Reads W 114 3 (.slice As d.waits.length cs) (d.waits.map St.cells)) := Lib.hid (HEA.out.2.2.keep fun g cur hg => hWb.block g (Array.getElem?_eq_some_iff.1 hg).1)
          have HKL := Lib.hid hKl; have HCL := Lib.hid hCl; have HKK := Lib.hid hKK; have HCC := Lib.hid hCC; have HWL := Lib.hid hwl; have HQ := Lib.hid hq; have HQW := Lib.hid hqW
          clear hK hC hws hcl hWb hWh hcp hlx hd0 hd1 hd2 hd3 hKl hCl hKK hCC hwl hq hqW
          go_wp2_with fail
          rw [HKK.out, HCC.out]
          clear HKK HCC
          have hqW := HQW.out
          go_loopw [11, 12] (fun v i wz => ∃ j : Nat, j ≤ K ∧ i = .int .i64 j ∧ Reads wz 111 2 v (((d.waits.take j).foldl takenOf d.dur).map Nm.cells) ∧ Below W.heap.size W wz) (fun _ i _ => K - (intOf i).toNat)
          case atStart => exact ⟨0, Nat.zero_le _, rfl, HRD.out, Below.refl _ _⟩
          case round =>
            obtain ⟨j, hj, rfl, hrd, hbz⟩ := hrel
            obtain ⟨nm, hnm⟩ : ∃ nm, (d.waits.take j).foldl takenOf d.dur = nm := ⟨_, rfl⟩
            have hlnm : nm.length ≤ 200 := by
              have h1 := taken_lens (d.waits.take j) d.dur
              have h2 := HWL.out
              have h3 := HKL.out
              rw [hnm, List.length_take] at h1
              omega
            rw [hnm] at hrd
            obtain ⟨Av, cv, hv⟩ := hrd.len
            rw [List.length_map] at hv
            subst hv
            by_cases hjl : j < K
            · obtain ⟨x', hx'⟩ : ∃ x', d.waits[j]? = some x' := ⟨_, List.getElem?_eq_getElem (by have := HKL.out; omega)⟩
              obtain ⟨ga, ca, hsa, hca, hcella⟩ := HRS.out.at_ (k := j) (cs := x'.cells) (by rw [List.getElem?_map, hx']; rfl)
              rw [List.length_map] at hsa hca
              injection hsa with e1 _ e3
              subst e1; subst e3
              have hb3 : wr.cell? ⟨q, 3, none⟩ = some (.slice (some ⟨ga, 0, none⟩) d.waits.length cs) := (hbz.cell (p := ⟨q, 3, none⟩) hqW).trans hB3
              have hgaW : ga < W.heap.size := block_lt_of_cell (hcella 0 _ rfl)
              have hs0 : wr.cell? ⟨ga, j * 3, none⟩ = some (.string x'.p) := (hbz.cell (p := ⟨ga, j * 3, none⟩) hgaW).trans (hcella 0 _ rfl)
              have hs1 : wr.cell? ⟨ga, j * 3 + 1, none⟩ = some (.int .i64 x'.f) := (hbz.cell (p := ⟨ga, j * 3 + 1, none⟩) hgaW).trans (hcella 1 _ rfl)
              have hs2 : wr.cell? ⟨ga, j * 3 + 2, none⟩ = some (.string x'.g) := (hbz.cell (p := ⟨ga, j * 3 + 2, none⟩) hgaW).trans (hcella 2 _ rfl)
              have hj0 : (0 : Int) ≤ (j : Int) := by omega
              have hj1 : (j : Int) < (d.waits.length : Int) := by have := HKL.out; omega
              have hnx : (d.waits.take (j + 1)).foldl takenOf d.dur = takenOf nm x' := by rw [take_snoc hx', List.foldl_append, hnm]; rfl
              have HT := Lib.hid (taken_any (.slice Av nm.length cv) nm x' wr hrd (by omega))
              unfold stVal at HT
              have HNX := Lib.hid hnx; have HBZ := Lib.hid hbz
              have hbzs := hbz.size
              clear hrd hnm hlnm hnx hbz hx' hcella
              go_wp2_with (first
                | (go_at_call 69; refine HT.out.mono ?_; clear HT; rintro e w3 ⟨v3, rfl, ho3, hb3'⟩; have HO3 := Lib.hid ho3; have HB3 := Lib.hid hb3'; clear ho3 hb3')
                | fail)
              refine ⟨⟨j + 1, hjl, by go_num, ?_, HBZ.out.trans (HB3.out.mono hbzs)⟩, by simp [intOf]; omega⟩
              rw [HNX.out]
              exact HO3.out.reads
            · obtain rfl : j = K := by omega
              have hWs : wO.heap.size ≤ W.heap.size := HWB.out.size
              have hbOr : Below wO.heap.size wO wr := HWB.out.trans (hbz.mono hWs)
              have hR := HR.out
              have hg2 : wr.cell? ⟨p, 2, none⟩ = some (.slice (some ⟨gd, 0, none⟩) fs.dirs.length cd) := by
                refine (hbOr.cell (p := ⟨p, 2, none⟩) hpl2).trans ?_
                rw [hR.owns.sees.top.cell, ← HSD.out]; rfl
              have hgll : gl < wO.heap.size := (hR.list.lt gl rfl).2
              have hglx : wr.cell? ⟨gl, m * 2 + 1, none⟩ = some (.int .i64 x.f) := (hbOr.cell (p := ⟨gl, m * 2 + 1, none⟩) hgll).trans (HLX.out)
              have hq0 : wr.cell? ⟨q, 0, none⟩ = some (.string d.p) := (hbz.cell (p := ⟨q, 0, none⟩) hqW).trans hB0
              have hqr : q < wr.heap.size := Nat.lt_of_lt_of_le hqW hbz.size
              have hplr : p < wr.heap.size := Nat.lt_of_lt_of_le hpl2 hbOr.size
              have hgllr : gl < wr.heap.size := Nat.lt_of_lt_of_le hgll hbOr.size
              have HRD2 := Lib.hid hrd; have HBOR := Lib.hid hbOr; have HNM := Lib.hid hnm
              clear hrd hbOr hnm hR hbz
              go_wp2_with fail
              refine wp_region_copies (fun z => z.cell? ⟨p, 2, none⟩ = some (.slice (some ⟨gd, 0, none⟩) fs.dirs.length cd) ∧ z.cell? ⟨gl, m * 2 + 1, none⟩ = some (.int .i64 x.f) ∧ z.cell? ⟨q, 0, none⟩ = some (.string d.p))
                [0, 1, 2, 3, 4, 5, 6, 7, 8, 9, 10, 12, 15] [11, 13, 14, 16] [(17, true), (18, true)] _ (by kernel_rfl) rfl (by kernel_rfl) (fun w' hb => ⟨(hb.cell (p := ⟨p, 2, none⟩) hplr).trans hg2, (hb.cell (p := ⟨gl, m * 2 + 1, none⟩) hgllr).trans hglx, (hb.cell (p := ⟨q, 0, none⟩) hqr).trans hq0⟩) ?_
              simp only [pickL, List.dropLast, List.getElem?_cons_zero, List.getElem?_cons_succ, List.getLast]
              repeat (apply wpFree_take
                      · intro z hz
                        try dsimp only at hz
                        go_simp
                        all_goals with_reducible rfl
                      simp only [Act.put, List.setIfInBounds_toArray, List.set_cons_zero, List.set_cons_succ])
              refine wpFree_end ?_
              refine ⟨[{ b := 11, c := 13, db := 105, dc := 107, T := 59, X := 106, e := 111, sz := 2, bytes := 24, z := .agg #[.string ⟨#[]⟩, .int .i64 0], x := .slice Av nm.length cv, xs := nm.map Nm.cells },
                { b := 14, c := 16, db := 108, dc := 110, T := 59, X := 109, e := 111, sz := 2, bytes := 24, z := .agg #[.string ⟨#[]⟩, .int .i64 0], x := .slice Av nm.length cv, xs := nm.map Nm.cells }], rfl, ⟨?_, ?_, ?_, ?_⟩, ?_, ?_⟩
              · intro x hx y hy
                simp only [List.mem_cons, List.not_mem_nil, or_false] at hx hy
                rcases hx with rfl | rfl <;> rcases hy with rfl | rfl <;> simp
              · intro x hx y hy
                simp only [List.mem_cons, List.not_mem_nil, or_false] at hx hy
                rcases hx with rfl | rfl <;> rcases hy with rfl | rfl <;> simp
              · intro x hx y hy
                simp only [List.mem_cons, List.not_mem_nil, or_false] at hx hy
                rcases hx with rfl | rfl <;> rcases hy with rfl | rfl <;> simp
              · intro x hx y hy
                simp only [List.mem_cons, List.not_mem_nil, or_false] at hx hy
                rcases hx with rfl | rfl <;> rcases hy with rfl | rfl <;> simp
              · intro x hx
                simp only [List.mem_cons, List.not_mem_nil, or_false] at hx
                rcases hx with rfl | rfl
                · exact ⟨⟨_, rfl, rfl, rfl, rfl⟩, ⟨_, rfl, rfl, rfl, rfl, _, Array.mem_of_getElem? (i := 0) rfl, rfl, rfl⟩, Tryz.underlying59, name_info, rfl, by show 0 < 2; decide, by show 24 ≤ 100; decide, rfl, HRD2.out.keep fun _ _ _ => rfl, (nm_cells_one _).1, (nm_cells_one _).2, by rw [List.length_map]; omega, by show 105 < 177; decide⟩
                · exact ⟨⟨_, rfl, rfl, rfl, rfl⟩, ⟨_, rfl, rfl, rfl, rfl, _, Array.mem_of_getElem? (i := 0) rfl, rfl, rfl⟩, Tryz.underlying59, name_info, rfl, by show 0 < 2; decide, by show 24 ≤ 100; decide, rfl, HRD2.out.keep fun _ _ _ => rfl, (nm_cells_one _).1, (nm_cells_one _).2, by rw [List.length_map]; omega, by show 108 < 177; decide⟩
              intro vs w4 hb4 hown hap
              clear hap
              have hn1 := hown _ (List.mem_cons_self ..)
              have hn2 := hown _ (List.mem_cons_of_mem _ (List.mem_cons_self ..))
              dsimp only at hn1 hn2
              clear hown
              show wpMix _ _ _ _ (fill vs [105, 107, 108, 110] _) _
              simp only [fill, fillT, List.setIfInBounds_toArray, List.set_cons_zero, List.set_cons_succ]
              generalize vs 107 = x1 at hn1 ⊢
              generalize vs 110 = x2 at hn2 ⊢
              generalize vs 105 = y1
              generalize vs 108 = y2
              clear vs
              have hS4 := (fun (a : Addr) (y : Value) (ha : a.block < wr.heap.size) (hy : wr.cell? a = some y) => (hb4.cell (p := a) ha).trans hy)
              have k2 := hS4 ⟨p, 2, none⟩ _ hplr hg2
              have kx := hS4 ⟨gl, m * 2 + 1, none⟩ _ hgllr hglx
              have k0 := hS4 ⟨q, 0, none⟩ _ hqr hq0
              have hb4s : wr.heap.size ≤ w4.heap.size := hb4.size
              have hfz : ∀ k, w4.frozen? ⟨gd, k, none⟩ = false := fun k => by
                have hgdr : gd < wr.heap.size := Nat.lt_of_lt_of_le hgdl HBOR.out.size
                exact (hb4.frozen (p := ⟨gd, k, none⟩) hgdr).trans ((HBOR.out.frozen (p := ⟨gd, k, none⟩) hgdl).trans (HR.out.owns.dirs.frozen k))
              have hcz : ∀ k y, wO.cell? ⟨gd, k, none⟩ = some y → w4.cell? ⟨gd, k, none⟩ = some y := fun k y hy => by
                have hgdr : gd < wr.heap.size := Nat.lt_of_lt_of_le hgdl HBOR.out.size
                exact (hb4.cell (p := ⟨gd, k, none⟩) hgdr).trans ((HBOR.out.cell (p := ⟨gd, k, none⟩) hgdl).trans hy)
              have hy0 := hcz _ _ HDC.out.1; have hy1 := hcz _ _ HDC.out.2.1; have hy2 := hcz _ _ HDC.out.2.2.1; have hy3 := hcz _ _ HDC.out.2.2.2
              have hz0 := hfz (x.f * 4); have hz1 := hfz (x.f * 4 + 1); have hz2 := hfz (x.f * 4 + 2); have hz3 := hfz (x.f * 4 + 3)
              obtain ⟨B1, b1, hx1⟩ := hn1.reads.len
              obtain ⟨B2, b2, hx2⟩ := hn2.reads.len
              rw [List.length_map] at hx1 hx2
              subst hx1 hx2
              have HN1 := Lib.hid hn1; have HN2 := Lib.hid hn2; have HB4 := Lib.hid hb4
              clear hn1 hn2 hb4 hS4 hfz hcz
              simp only [permL, List.getElem?_cons_zero, List.getElem?_cons_succ]
              repeat (apply wpMix_free
                      · intro z hz
                        try dsimp only at hz
                        go_simp
                        all_goals with_reducible rfl
                      simp only [Act.put, List.setIfInBounds_toArray, List.set_cons_zero, List.set_cons_succ])
              refine wpMix_end ?_
              go_simp
              have hb4O : Below wO.heap.size wO w4 := HBOR.out.drew.trans (HB4.out.mono (show wO.heap.size ≤ wr.drew.heap.size from HBOR.out.size))
              have hlnm' : nm.length ≤ 4294967296 := by omega
              have hgr4 : w4.grownBy ((((w4.setCell ⟨gd, x.f * 4, none⟩ (.string d.p)).setCell ⟨gd, x.f * 4 + 1, none⟩ (.slice B1 nm.length b1)).setCell ⟨gd, x.f * 4 + 2, none⟩ (.slice B2 nm.length b2)).setCell ⟨gd, x.f * 4 + 3, none⟩ (.slice none 0 0)) (some gd) := gb_set (gb_set (gb_set (gb_set (World.grownBy.refl w4 _) _ _) _ _) _ _) _ _
              obtain ⟨hoP, hmP⟩ := dir_put HR.out.owns HD.out HU.out hb4O hlnm' (HN1.out.mono HBOR.out.size) (HN2.out.mono HBOR.out.size)
              have hP1 : ∀ b, (Value.slice B1 nm.length b1).ownBlock = some b → wO.heap.size ≤ b := fun b hb => Nat.le_trans HBOR.out.size (HN1.out.lt b hb).1
              have hP2 : ∀ b, (Value.slice B2 nm.length b2).ownBlock = some b → wO.heap.size ≤ b := fun b hb => Nat.le_trans HBOR.out.size (HN2.out.lt b hb).1
              generalize (((w4.setCell ⟨gd, x.f * 4, none⟩ (.string d.p)).setCell ⟨gd, x.f * 4 + 1, none⟩ (.slice B1 nm.length b1)).setCell ⟨gd, x.f * 4 + 2, none⟩ (.slice B2 nm.length b2)).setCell ⟨gd, x.f * 4 + 3, none⟩ (.slice none 0 0) = WP at hgr4 hoP hmP ⊢
              obtain ⟨curD, hkD⟩ := HR.out.owns.sees.dirs.kind
              have hkD4 := (hb4O.block gd hgdl).trans hkD
              have hSN : Same 111 w4 WP := fun g cur hg => hgr4.block g (Array.getElem?_eq_some_iff.1 hg).1 (fun e => by
                injection e with e
                exact kind_ne hg hkD4 (by decide) e)
              have HAL := Lib.hid (own_ty (HR.out.all.keep hb4O) hSN)
              have HNP := Lib.hid ((HRD2.out.keep (fun g cur hg => HB4.out.block g (Array.getElem?_eq_some_iff.1 hg).1)).keep hSN)
              have hPs : w2.heap.size ≤ WP.heap.size := Nat.le_trans HR.out.more hmP.size
              have HRB : Hid (rbDir s x = ⟨s.dirs.set x.f ⟨d.p, nm, nm, []⟩, C, s.all ++ nm⟩) := Lib.hid (by
                unfold rbDir backNames
                rw [HD.out]
                dsimp only
                rw [HK0.out, HC0.out, HNM.out])
              have HP := Lib.hid (And.intro hb4O (And.intro hgr4 (And.intro hoP (And.intro hmP (And.intro hP1 hP2)))))
              have HLA := HALL.out
              have hLb : L.length ≤ 1000000 := Nat.le_trans (Nat.le_of_eq HLL.out) hdl
              clear hb4O hgr4 hoP hmP hP1 hP2 hSN hkD hkD4 hy0 hy1 hy2 hy3 hz0 hz1 hz2 hz3 k2 kx k0 hg2 hglx hq0
              go_wp2_with (first
                | (at_builtin; refine wpList_append_row rfl (.tmp 113) (.tmp 114) rfl Tryz.underlying59 name_info rfl (by decide) (by decide) rfl rfl HAL.out HNP.out (nm_cells_one _).1 (nm_cells_one _).2 (by rw [List.length_map, List.length_map]; omega) hPs ?_; intro v' V hown hgrV hat)
                | fail)
              obtain ⟨hb4O, hgr4, hoP, hmP, hP1, hP2⟩ := HP.out
              refine ⟨⟨m + 1, rbDir s x, _, hml, by go_num, ?_, ?_, ?_, ?_, rb_next HW12.out HR.out hb4O hgr4 hoP hmP hgrV hat hown hP1 hP2 HRB.out⟩, by simp [intOf]; omega⟩
              · rw [take_snoc HX.out, List.foldl_append, ← HS.out]; rfl
              · rw [HRB.out]
              · rw [HRB.out]; exact HCL.out
              · rw [rbDir_many]; exact HSD.out
        · obtain rfl : m = L.length := by omega
          rw [List.take_length] at hs
          have hrs : rbDirs fs choice = s := by unfold rbDirs; rw [HLE.out]; exact hs.symm
          obtain ⟨hfin1, hfin2, hfin3⟩ := HFD.out.dirsRound choice
          rw [hrs] at hfin1 hfin2 hfin3
          obtain ⟨AL, hAL⟩ : ∃ AL, sortN s.all = AL := ⟨_, rfl⟩
          have hALl : AL.length ≤ 40000 := by rw [← hAL, sortN_len]; exact HALL.out
          have hALf : ∀ x ∈ AL, x.f < fs.files.length := fun x hx => hfin3 x ((sortN_perm s.all).mem_iff.1 (by rw [hAL]; exact hx))
          have HSO := Lib.hid (sorted_any u7 s.all wr hR.all.reads (by have := HALL.out; omega))
          have hfl : fs.files.length ≤ 200 := by have := HFD.out.nf; omega
          have HR := Lib.hid hR; have HAL := Lib.hid hAL; have HALF := Lib.hid hALf; have HRS := Lib.hid hrs; have HFI := Lib.hid hfin1
          clear hR hs hrs hAL hALf hfin1 hfin2 hfin3 hfb hws hcp
          obtain ⟨wO, rfl⟩ : ∃ wo : World, wo = wr := ⟨_, rfl⟩
          go_wp2_with (first
            | (go_at_call 68; refine HSO.out.mono ?_; clear HSO; rintro e w3 ⟨v3, rfl, ho3, hb3⟩; rw [HAL.out] at ho3; obtain ⟨A3, c3, hv3⟩ := ho3.reads.len; rw [List.length_map] at hv3; subst hv3; have HO3 := Lib.hid ho3; have HB3 := Lib.hid hb3; clear ho3 hb3)
            | fail)
          have HF0 : Hid (FlAt w1 w3 p gd cd fs s.dirs vf dv dvm (.slice A3 AL.length c3) AL (fs.files, s.c)) := Lib.hid ⟨HR.out.owns.below HB3.out, HR.out.moves.below HB3.out, HO3.out.reads⟩
          go_loopw [4, 13] (fun c i wz => ∃ (m : Nat) (y : List Fl × Nat), m ≤ AL.length ∧ i = .int .i64 m ∧ y = (AL.take m).foldl rbFile (fs.files, s.c) ∧ c = .int .u64 y.2 ∧ y.2 < 18446744073709551616 ∧ y.1.length = fs.files.length ∧ FlAt w1 wz p gd cd fs s.dirs vf dv dvm (.slice A3 AL.length c3) AL y) (fun _ i _ => AL.length - (intOf i).toNat)
          case atStart => exact ⟨0, (fs.files, s.c), Nat.zero_le _, rfl, rfl, rfl, hcl, rfl, HF0.out⟩
          case round =>
            obtain ⟨m, y, hm, rfl, hy, rfl, hyc, hyl, hF⟩ := hrel
            by_cases hml : m < AL.length
            · obtain ⟨x, hx⟩ : ∃ x, AL[m]? = some x := ⟨_, List.getElem?_eq_getElem hml⟩
              have hxf : x.f < fs.files.length := HALF.out x (List.mem_of_getElem? hx)
              have hxy : x.f < y.1.length := by rw [hyl]; exact hxf
              obtain ⟨f, hf⟩ : ∃ f, y.1[x.f]? = some f := ⟨_, List.getElem?_eq_getElem hxy⟩
              obtain ⟨g, cf, hvf, hcf⟩ := owns_vf hF.owns (by show 0 < y.1.length; omega)
              change vf = .slice (some ⟨g, 0, none⟩) y.1.length cf at hvf
              change y.1.length ≤ cf at hcf
              obtain ⟨g', cf', hvf', _, hfc⟩ := hF.owns.sees.files.at_ (k := x.f) (cs := f.cells) (by show (y.1.map Fl.cells)[x.f]? = _; rw [List.getElem?_map, hf]; rfl)
              have hgg : g' = g := by rw [hvf] at hvf'; injection hvf' with e1 _ _; injection e1 with e1; injection e1 with e1 _ _; exact e1.symm
              subst hgg
              obtain ⟨ga, ca, hva, hca, hac⟩ := hF.list.at_ (k := m) (cs := x.cells) (by rw [List.getElem?_map, hx]; rfl)
              rw [List.length_map] at hva hca
              injection hva with e1 _ e3
              subst e1; subst e3
              have h1 : wr.cell? ⟨p, 1, none⟩ = some (.slice (some ⟨g', 0, none⟩) y.1.length cf) := by rw [hF.owns.sees.top.cell, ← hvf]; rfl
              have hax : wr.cell? ⟨ga, m * 2 + 1, none⟩ = some (.int .i64 x.f) := hac 1 _ rfl
              have hf0 : wr.cell? ⟨g', x.f * 2, none⟩ = some (.string f.b) := hfc 0 _ rfl
              have hf1 : wr.cell? ⟨g', x.f * 2 + 1, none⟩ = some (.string f.d) := hfc 1 _ rfl
              have hown := hF.owns.files
              rw [hvf] at hown
              have hz0 := hown.frozen (x.f * 2); have hz1 := hown.frozen (x.f * 2 + 1)
              have hm0 : (0 : Int) ≤ (m : Int) := by omega
              have hm1 : (m : Int) < (AL.length : Int) := by omega
              have hx0 : (0 : Int) ≤ (x.f : Int) := by omega
              have hx1 : (x.f : Int) < (y.1.length : Int) := by omega
              have hyb : y.1.length ≤ 200 := by omega
              have hplw : p < wr.heap.size := hF.owns.sees.top.lt
              have hgl : g' < wr.heap.size := block_lt_of_cell hf0
              have hgal : ga < wr.heap.size := block_lt_of_cell hax
              have hfs : f.b.size ≤ 65536 := by
                obtain ⟨_, hsz⟩ := fold_files HFD.out.sizes (AL.take m) (fs.files, s.c) rfl HFD.out.sizes
                rw [← hy] at hsz
                exact (hsz f (List.mem_of_getElem? hf)).1
              have HX := Lib.hid hx; have HF := Lib.hid hf; have HVF := Lib.hid hvf; have HFL := Lib.hid hF; have HY := Lib.hid hy; have HYL := Lib.hid hyl; have HYC := Lib.hid hyc
              clear hx hf hvf hF hy hyl hfc hac hvf' hown
              go_wp2_with fail
              refine wp_region_mix (fun z => z.cell? ⟨p, 1, none⟩ = some (.slice (some ⟨g', 0, none⟩) y.1.length cf) ∧ z.cell? ⟨ga, m * 2 + 1, none⟩ = some (.int .i64 x.f) ∧ z.cell? ⟨g', x.f * 2, none⟩ = some (.string f.b) ∧ z.cell? ⟨g', x.f * 2 + 1, none⟩ = some (.string f.d))
                [true, true, true, true, true, true, true, true, true, true, true, false] _ (by kernel_rfl) rfl (by kernel_rfl) ⟨h1, hax, hf0, hf1⟩ ?_
              dsimp only [List.dropLast, List.zip, List.zipWith, List.getLast]
              repeat (apply wpMix_free
                      · intro z hz
                        try dsimp only at hz
                        go_simp
                        all_goals with_reducible rfl
                      simp only [Act.put, List.setIfInBounds_toArray, List.set_cons_zero, List.set_cons_succ])
              refine wpMix_turn (fun K hK => ?_)
              have HK := Lib.hid hK; clear hK
              go_simp
              have hal : ∀ (a : Addr) (y : Value), a.block < wr.heap.size → wr.cell? a = some y → (wr.alloc (.cells #[.string ⟨#[]⟩, .string ⟨#[]⟩] 109)).drew.cell? a = some y := fun a y ha hy => (World.cell?_alloc_lt wr _ a ha).trans hy
              refine HK.out _ _ ⟨hal _ _ hplw h1, hal _ _ hgal hax, hal _ _ hgl hf0, hal _ _ hgl hf1⟩ ?_
              clear HK hal
              refine wpMix_end ?_
              go_simp
              have hWh : Hold (wr.alloc (.cells #[.string f.b, .string f.d] 109)).drew wr.heap.size 109 [.string f.b, .string f.d] := heap_alloc_new wr _
              have hWb : Below wr.heap.size wr (wr.alloc (.cells #[.string f.b, .string f.d] 109)).drew := ((Below.refl _ _).alloc (Nat.le_refl _) _).drew
              generalize (wr.alloc (.cells #[.string f.b, .string f.d] 109)).drew = W at hWh hWb ⊢
              obtain ⟨q, hq⟩ : ∃ q, wr.heap.size = q := ⟨_, rfl⟩
              rw [hq] at hWh ⊢
              have hB0 : W.cell? ⟨q, 0, none⟩ = some (.string f.b) := by rw [hWh.cell]; rfl
              have hB1 : W.cell? ⟨q, 1, none⟩ = some (.string f.d) := by rw [hWh.cell]; rfl
              have hfq0 : W.frozen? ⟨q, 0, none⟩ = false := hWh.frozen 0
              have hfq1 : W.frozen? ⟨q, 1, none⟩ = false := hWh.frozen 1
              have HQ := Lib.hid hq; have HWH := Lib.hid hWh; have HWB := Lib.hid hWb
              have H1 := Lib.hid h1; have HAX := Lib.hid hax; have HF01 := Lib.hid (And.intro hf0 hf1); have HZ01 := Lib.hid (And.intro hz0 hz1)
              clear hq hWh hWb h1 hax hf0 hf1 hz0 hz1
              cases heq : (f.b.toList == f.d.toList)
              case true =>
                have HEQ := Lib.hid heq
                have HRF : Hid (rbFile y x = y) := Lib.hid (by
                  unfold rbFile
                  rw [HF.out]
                  dsimp only
                  rw [HEQ.out]; rfl)
                go_wp2_with fail
                refine ⟨⟨m + 1, y, hml, by go_num, ?_, rfl, HYC.out, HYL.out, HFL.out.below HWB.out⟩, by simp [intOf]; omega⟩
                rw [take_snoc HX.out, List.foldl_append, ← HY.out]
                exact HRF.out.symm
              case false =>
                have HEQ := Lib.hid heq
                obtain ⟨K, hK⟩ : ∃ K, y.2 % (f.b.size + 2) = K := ⟨_, rfl⟩
                obtain ⟨C, hC⟩ : ∃ C, y.2 / (f.b.size + 2) = C := ⟨_, rfl⟩
                have hKl : K < f.b.size + 2 := by rw [← hK]; exact Nat.mod_lt _ (Nat.succ_pos _)
                have hCl : C < 18446744073709551616 := by rw [← hC]; exact Nat.lt_of_le_of_lt (Nat.div_le_self _ _) hyc
                have hN1 : f.b.size + 2 ≤ 4294967299 := by omega
                have e2 : ((f.b.size + 2 : Nat) : Int) = (f.b.size : Int) + 2 := Int.natCast_add _ _
                have hKK : wrap64 ((y.2 : Int) % ((f.b.size : Int) + 2)) = (K : Int) := by
                  rw [← e2, ← hK]
                  exact pick_K y.2 (f.b.size + 2) (Nat.succ_pos _) hN1
                have hCC : IntKind.u64.wrap ((y.2 : Int) / ((f.b.size : Int) + 2)) = (C : Int) := by
                  rw [← e2, ← hC]
                  exact pick_C y.2 (f.b.size + 2) hyc
                have HK0 := Lib.hid hK; have HC0 := Lib.hid hC; have HCL := Lib.hid hCl; have HKK := Lib.hid hKK; have HCC := Lib.hid hCC
                clear e2 hK hC hCl hyc hKK hCC
                go_upto_region 31 with (fail)
                rw [HKK.out, HCC.out]
                clear HKK HCC
                by_cases hK0 : 0 < K
                · obtain ⟨k, rfl⟩ : ∃ k, K = k + 1 := ⟨K - 1, by omega⟩
                  have hk1 : (k : Int) ≤ (f.b.size : Int) := by omega
                  have hk0 : (0 : Int) ≤ (k : Int) := by omega
                  have HRF : Hid (rbFile y x = (y.1.set x.f ⟨f.b.extract 0 k, f.b.extract 0 k⟩, C)) := Lib.hid (by
                    unfold rbFile backText
                    rw [HF.out]
                    dsimp only
                    rw [HEQ.out, HK0.out, HC0.out]
                    simp)
                  go_wp2_with fail
                  have hZh : Hold ((W.setCell ⟨q, 1, none⟩ (.string (f.b.extract 0 k))).setCell ⟨q, 0, none⟩ (.string (f.b.extract 0 k))) q 109 [.string (f.b.extract 0 k), .string (f.b.extract 0 k)] := (HWH.out.set 1 (.string (f.b.extract 0 k))).set 0 (.string (f.b.extract 0 k))
                  have hZb : Below wr.heap.size wr ((W.setCell ⟨q, 1, none⟩ (.string (f.b.extract 0 k))).setCell ⟨q, 0, none⟩ (.string (f.b.extract 0 k))) := (HWB.out.setCell (p := ⟨q, 1, none⟩) (Nat.le_of_eq HQ.out) (.string (f.b.extract 0 k))).setCell (p := ⟨q, 0, none⟩) (Nat.le_of_eq HQ.out) (.string (f.b.extract 0 k))
                  generalize (W.setCell ⟨q, 1, none⟩ (.string (f.b.extract 0 k))).setCell ⟨q, 0, none⟩ (.string (f.b.extract 0 k)) = Z at hZh hZb ⊢
                  generalize f.b.extract 0 k = dd at hZh HRF ⊢
                  have z1 := (hZb.cell (p := ⟨p, 1, none⟩) hplw).trans H1.out
                  have zx := (hZb.cell (p := ⟨ga, m * 2 + 1, none⟩) hgal).trans HAX.out
                  have zf0 := (hZb.cell (p := ⟨g', x.f * 2, none⟩) hgl).trans HF01.out.1
                  have zf1 := (hZb.cell (p := ⟨g', x.f * 2 + 1, none⟩) hgl).trans HF01.out.2
                  have zz0 := (hZb.frozen (p := ⟨g', x.f * 2, none⟩) hgl).trans HZ01.out.1
                  have zz1 := (hZb.frozen (p := ⟨g', x.f * 2 + 1, none⟩) hgl).trans HZ01.out.2
                  have zq0 : Z.cell? ⟨q, 0, none⟩ = some (.string dd) := by rw [hZh.cell]; rfl
                  have zq1 : Z.cell? ⟨q, 1, none⟩ = some (.string dd) := by rw [hZh.cell]; rfl
                  have HFZ := Lib.hid (HFL.out.below hZb)
                  clear hZh hZb hB0 hB1 hfq0 hfq1
                  refine wp_region_mix (fun z => z.cell? ⟨p, 1, none⟩ = some (.slice (some ⟨g', 0, none⟩) y.1.length cf) ∧ z.cell? ⟨ga, m * 2 + 1, none⟩ = some (.int .i64 x.f) ∧ z.cell? ⟨q, 0, none⟩ = some (.string dd) ∧ z.cell? ⟨q, 1, none⟩ = some (.string dd))
                    [true, true, true, true, true, true, true, true, true, true, true] _ (by kernel_rfl) rfl (by kernel_rfl) ⟨z1, zx, zq0, zq1⟩ ?_
                  dsimp only [List.dropLast, List.zip, List.zipWith, List.getLast]
                  repeat (apply wpMix_free
                          · intro z hz
                            try dsimp only at hz
                            go_simp
                            all_goals with_reducible rfl
                          simp only [Act.put, List.setIfInBounds_toArray, List.set_cons_zero, List.set_cons_succ])
                  refine wpMix_end ?_
                  go_simp
                  go_wp2_with fail
                  refine ⟨⟨m + 1, rbFile y x, hml, by go_num, ?_, ?_, ?_, ?_, (HFZ.out.put HVF.out HF.out (by rw [HRF.out])).below (Below.refl _ _).drew⟩, by simp [intOf]; omega⟩
                  · rw [take_snoc HX.out, List.foldl_append, ← HY.out]; rfl
                  · rw [HRF.out]
                  · rw [HRF.out]; exact HCL.out
                  · rw [rbFile_many]; exact HYL.out
                · obtain rfl : K = 0 := by omega
                  have HRF : Hid (rbFile y x = (y.1.set x.f ⟨f.d, f.d⟩, C)) := Lib.hid (by
                    unfold rbFile backText
                    rw [HF.out]
                    dsimp only
                    rw [HEQ.out, HK0.out, HC0.out]
                    simp)
                  go_wp2_with fail
                  have hZh : Hold (W.setCell ⟨q, 0, none⟩ (.string f.d)) q 109 [.string f.d, .string f.d] := HWH.out.set 0 (.string f.d)
                  have hZb : Below wr.heap.size wr (W.setCell ⟨q, 0, none⟩ (.string f.d)) := HWB.out.setCell (p := ⟨q, 0, none⟩) (Nat.le_of_eq HQ.out) (.string f.d)
                  generalize W.setCell ⟨q, 0, none⟩ (.string f.d) = Z at hZh hZb ⊢
                  obtain ⟨dd, hdd⟩ : ∃ dd, f.d = dd := ⟨_, rfl⟩
                  rw [hdd] at hZh HRF ⊢
                  have z1 := (hZb.cell (p := ⟨p, 1, none⟩) hplw).trans H1.out
                  have zx := (hZb.cell (p := ⟨ga, m * 2 + 1, none⟩) hgal).trans HAX.out
                  have zf0 := (hZb.cell (p := ⟨g', x.f * 2, none⟩) hgl).trans HF01.out.1
                  have zf1 := (hZb.cell (p := ⟨g', x.f * 2 + 1, none⟩) hgl).trans HF01.out.2
                  have zz0 := (hZb.frozen (p := ⟨g', x.f * 2, none⟩) hgl).trans HZ01.out.1
                  have zz1 := (hZb.frozen (p := ⟨g', x.f * 2 + 1, none⟩) hgl).trans HZ01.out.2
                  have zq0 : Z.cell? ⟨q, 0, none⟩ = some (.string dd) := by rw [hZh.cell]; rfl
                  have zq1 : Z.cell? ⟨q, 1, none⟩ = some (.string dd) := by rw [hZh.cell]; rfl
                  have HFZ := Lib.hid (HFL.out.below hZb)
                  clear hZh hZb hB0 hB1 hfq0 hfq1
                  refine wp_region_mix (fun z => z.cell? ⟨p, 1, none⟩ = some (.slice (some ⟨g', 0, none⟩) y.1.length cf) ∧ z.cell? ⟨ga, m * 2 + 1, none⟩ = some (.int .i64 x.f) ∧ z.cell? ⟨q, 0, none⟩ = some (.string dd) ∧ z.cell? ⟨q, 1, none⟩ = some (.string dd))
                    [true, true, true, true, true, true, true, true, true, true, true] _ (by kernel_rfl) rfl (by kernel_rfl) ⟨z1, zx, zq0, zq1⟩ ?_
                  dsimp only [List.dropLast, List.zip, List.zipWith, List.getLast]
                  repeat (apply wpMix_free
                          · intro z hz
                            try dsimp only at hz
                            go_simp
                            all_goals with_reducible rfl
                          simp only [Act.put, List.setIfInBounds_toArray, List.set_cons_zero, List.set_cons_succ])
                  refine wpMix_end ?_
                  go_simp
                  go_wp2_with fail
                  refine ⟨⟨m + 1, rbFile y x, hml, by go_num, ?_, ?_, ?_, ?_, (HFZ.out.put HVF.out HF.out (by rw [HRF.out])).below (Below.refl _ _).drew⟩, by simp [intOf]; omega⟩
                  · rw [take_snoc HX.out, List.foldl_append, ← HY.out]; rfl
                  · rw [HRF.out]
                  · rw [HRF.out]; exact HCL.out
                  · rw [rbFile_many]; exact HYL.out
            · obtain rfl : m = AL.length := by omega
              rw [List.take_length] at hy
              have hfs : rebootFs fs choice = { fs with dirs := s.dirs, files := y.1, down := false, crash := 0 } := by
                unfold rebootFs rbFiles
                rw [HRS.out, HAL.out, ← hy]
              have HFS := Lib.hid hfs; have HFL := Lib.hid hF
              clear hfs hF hy
              go_wp2_with fail
              go_end0
              refine ⟨⟨_, rfl⟩, dvm, ?_, (Moves.of_gb HG1.out).trans HFL.out.moves⟩
              rw [HFS.out]
              exact HFL.out.owns
end Go.Proofs.YtdbcjiapbehacaaGreatDoor.Vf
