/-
  The document's file system: Copy.
-/
import Derived.Test.YtdbcjiapbehacaaGreatDoorVfH
import Derived.Test.YtdbcjiapbehacaaGreatDoorVfN
namespace Go.Proofs.YtdbcjiapbehacaaGreatDoor.Vf
open Go.RowKit

/-- The copies of the first directories, and where they lie. -/
structure Copied (w wr : World) (q : Nat) (fs : Fs) (k : Nat) (vF vD : Value) (dvs : List Dv) : Prop where
  many : dvs.length = k
  top : Hold wr q 66 [.int .i64 fs.most, vF, vD, .bool fs.down, .int .i64 fs.crash]
  mine : w.heap.size ≤ q
  files : OwnR wr w.heap.size 109 2 vF (fs.files.map Fl.cells)
  dirs : OwnR wr w.heap.size 62 4 vD (List.zipWith drCells (fs.dirs.take k) dvs)
  each : ∀ (i : Nat) (d : Dr) (v : Dv), (fs.dirs.take k)[i]? = some d → dvs[i]? = some v → OwnR wr w.heap.size 111 2 v.n (d.names.map Nm.cells) ∧ OwnR wr w.heap.size 111 2 v.d (d.dur.map Nm.cells) ∧ OwnR wr w.heap.size 114 3 v.s (d.waits.map St.cells)
  apart : ∀ (i j : Nat) (v u : Dv), dvs[i]? = some v → dvs[j]? = some u → i ≠ j → v.s.ownBlock = none ∨ v.s.ownBlock ≠ u.s.ownBlock
  below : Below w.heap.size w wr

/-- One directory more. -/
theorem copied_next {w wr w2 V : World} {q k : Nat} {fs : Fs} {vF vD vD' : Value} {dvs : List Dv} {d : Dr} {u : Dv} (hC : Copied w wr q fs k vF vD dvs) (hd : fs.dirs[k]? = some d) (hb : Below wr.heap.size wr w2)
    (hn : OwnR w2 wr.heap.size 111 2 u.n (d.names.map Nm.cells)) (hu : OwnR w2 wr.heap.size 111 2 u.d (d.dur.map Nm.cells)) (hs : OwnR w2 wr.heap.size 114 3 u.s (d.waits.map St.cells))
    (hg : w2.grownBy V vD.ownBlock) (hown : OwnR V w.heap.size 62 4 vD' (List.zipWith drCells (fs.dirs.take k) dvs ++ [drCells d u])) :
    Copied w (V.setCell ⟨q, 2, none⟩ vD') q fs (k + 1) vF vD' (dvs ++ [u]) := by
  have hw : w.heap.size ≤ wr.heap.size := hC.below.size
  have hD2 := hC.dirs.keep hb
  have hS1 : ∀ t, Same t wr w2 := fun t g cur hg => hb.block g (Array.getElem?_eq_some_iff.1 hg).1
  have hS2 : ∀ t, t ≠ 62 → Same t w2 V := fun t ht g cur hg' => hg.block g (Array.getElem?_eq_some_iff.1 hg').1 (fun e => by
    obtain ⟨cur', hc⟩ := hD2.kind e.symm
    exact kind_ne hg' hc ht rfl)
  have htV : Hold V q 66 [.int .i64 fs.most, vF, vD, .bool fs.down, .int .i64 fs.crash] := hold_ty (hold_ty hC.top (hS1 _)) (hS2 _ (by decide))
  have hS3 : ∀ t, t ≠ 66 → Same t V (V.setCell ⟨q, 2, none⟩ vD') := fun t ht => Same.of_gb (gb_set (World.grownBy.refl V _) 2 _) htV ht
  have hkl := lt_of_get hd
  have htk : fs.dirs.take (k + 1) = fs.dirs.take k ++ [d] := by
    rw [List.take_succ_eq_append_getElem hkl]
    rw [List.getElem?_eq_getElem hkl] at hd
    injection hd with hd
    rw [hd]
  have hlen : (fs.dirs.take k).length = dvs.length := by rw [List.length_take, hC.many]; omega
  refine ⟨by rw [List.length_append, hC.many]; rfl, htV.set 2 vD', hC.mine, ?_, ?_, fun i e v he hv => ?_, fun i j v z hv hz hne => ?_, ?_⟩
  · exact own_ty (own_ty (own_ty hC.files (hS1 _)) (hS2 _ (by decide))) (hS3 _ (by decide))
  · rw [htk, List.zipWith_append hlen]
    exact own_ty hown (hS3 _ (by decide))
  · rw [htk] at he
    have far : ∀ {t : TypeId} {b s : Nat} {x : Value} {xs : List (List Value)}, OwnR w2 b t s x xs → t ≠ 62 → t ≠ 66 → OwnR (V.setCell ⟨q, 2, none⟩ vD') b t s x xs := fun h h1 h2 => own_ty (own_ty h (hS2 _ h1)) (hS3 _ h2)
    rcases get_snoc he with he | ⟨hi, rfl⟩
    · rcases get_snoc hv with hv | ⟨hi, _⟩
      · obtain ⟨a, b, c⟩ := hC.each i e v he hv
        exact ⟨far (a.keep hb) (by decide) (by decide), far (b.keep hb) (by decide) (by decide), far (c.keep hb) (by decide) (by decide)⟩
      · have := lt_of_get he; omega
    · rcases get_snoc hv with hv | ⟨_, rfl⟩
      · have := lt_of_get hv; omega
      · exact ⟨(far hn (by decide) (by decide)).mono hw, (far hu (by decide) (by decide)).mono hw, (far hs (by decide) (by decide)).mono hw⟩
  · have old : ∀ {i : Nat} {v : Dv}, dvs[i]? = some v → ∀ b, v.s.ownBlock = some b → b < wr.heap.size := fun {i v} hv b hb' => by
      have hi := lt_of_get hv
      have hi2 : i < (fs.dirs.take k).length := by omega
      exact ((hC.each i _ v (List.getElem?_eq_getElem hi2) hv).2.2.lt b hb').2
    rcases get_snoc hv with hv1 | ⟨hi, hvu⟩
    · rcases get_snoc hz with hz1 | ⟨hj, hzu⟩
      · exact hC.apart i j v z hv1 hz1 hne
      · cases hvb : v.s.ownBlock with
        | none => exact .inl rfl
        | some b =>
          rw [hzu]
          refine .inr fun e => ?_
          have h1 := old hv1 b hvb
          have h2 := (hs.lt b e.symm).1
          omega
    · rw [hvu]
      rcases get_snoc hz with hz1 | ⟨hj, _⟩
      · cases hvb : u.s.ownBlock with
        | none => exact .inl rfl
        | some b =>
          refine .inr fun e => ?_
          have h1 := old hz1 b e.symm
          have h2 := (hs.lt b hvb).1
          omega
      · omega
  · refine ((hC.below.trans (hb.mono hw)).grown hg (Nat.le_trans hw hb.size) (fun b hb' => (hC.dirs.lt b hb').1)).setCell (p := ⟨q, 2, none⟩) hC.mine _

set_option maxHeartbeats 4000000 in
set_option maxRecDepth 100000 in
theorem copy_any (p gd cd : Nat) (fs : Fs) (vf : Value) (dv : List Dv) (w : World) (h : Owns w p fs vf gd cd dv) (hl : fs.files.length ≤ 1000000) (hdl : fs.dirs.length ≤ 1000000) (h0 : 0 < fs.dirs.length) (hsm : ∀ d ∈ fs.dirs, d.names.length ≤ 1000000 ∧ d.dur.length ≤ 1000000 ∧ d.waits.length ≤ 1000000) :
    Calls Tryz.prog 40 #[.pointer (some ⟨p, 0, none⟩)] w fun e w' => ∃ q vF gd' cd' dvs, e = .returned (.pointer (some ⟨q, 0, none⟩)) ∧ Copied w w' q fs fs.dirs.length vF (.slice (some ⟨gd', 0, none⟩) fs.dirs.length cd') dvs := by
  have ht := h.sees.top
  have hc0 : w.cell? ⟨p, 0, none⟩ = some (.int .i64 fs.most) := by rw [ht.cell]; rfl
  have hc1 : w.cell? ⟨p, 1, none⟩ = some vf := by rw [ht.cell]; rfl
  have hc2 : w.cell? ⟨p, 2, none⟩ = some (.slice (some ⟨gd, 0, none⟩) fs.dirs.length cd) := by rw [ht.cell]; rfl
  have hc3 : w.cell? ⟨p, 3, none⟩ = some (.bool fs.down) := by rw [ht.cell]; rfl
  have hc4 : w.cell? ⟨p, 4, none⟩ = some (.int .i64 fs.crash) := by rw [ht.cell]; rfl
  have hpl : p < w.heap.size := ht.lt
  have hgl : gd < w.heap.size := h.sees.dirs.lt
  obtain ⟨A, c, hvf⟩ := h.sees.files.len
  rw [List.length_map] at hvf
  have hrF := h.sees.files
  rw [hvf] at hc1 hrF
  have H := Lib.hid h; have HT := Lib.hid ht; have HRF := Lib.hid hrF
  clear h ht hrF hvf
  go_enter Tryz.func40, Tryz.ntmps40
  go_wp2_with fail
  refine wp_region_mix (fun z => z.cell? ⟨p, 0, none⟩ = some (.int .i64 fs.most) ∧ z.cell? ⟨p, 3, none⟩ = some (.bool fs.down) ∧ z.cell? ⟨p, 4, none⟩ = some (.int .i64 fs.crash))
    [true, true, true, true, true, true, true, true, true, true, true, true, true, false] _ (by kernel_rfl) rfl (by kernel_rfl) ⟨hc0, hc3, hc4⟩ ?_
  dsimp only [List.dropLast, List.zip, List.zipWith, List.getLast]
  repeat (apply wpMix_free
          · intro z hz
            try dsimp only at hz
            go_simp
            all_goals with_reducible rfl
          simp only [Act.put, List.setIfInBounds_toArray, List.set_cons_zero, List.set_cons_succ])
  refine wpMix_turn (fun K hK => ?_)
  have HK := Lib.hid hK; clear hK
  go_simp
  have hal : ∀ (q : Addr) (y : Value), q.block < w.heap.size → w.cell? q = some y → (w.alloc (.cells #[.int .i64 fs.most, .slice none 0 0, .slice none 0 0, .bool fs.down, .int .i64 fs.crash] 66)).drew.cell? q = some y := fun q y hq hy => (World.cell?_alloc_lt w _ q hq).trans hy
  refine HK.out _ _ ⟨hal _ _ hpl hc0, hal _ _ hpl hc3, hal _ _ hpl hc4⟩ ?_
  clear HK
  refine wpMix_end ?_
  go_simp
  have hb1 : Below w.heap.size w (w.alloc (.cells #[.int .i64 fs.most, .slice none 0 0, .slice none 0 0, .bool fs.down, .int .i64 fs.crash] 66)).drew := ((Below.refl _ _).alloc (Nat.le_refl _) _).drew
  have hq1 : Hold (w.alloc (.cells #[.int .i64 fs.most, .slice none 0 0, .slice none 0 0, .bool fs.down, .int .i64 fs.crash] 66)).drew w.heap.size 66 [.int .i64 fs.most, .slice none 0 0, .slice none 0 0, .bool fs.down, .int .i64 fs.crash] := heap_alloc_new w _
  generalize hw1 : (w.alloc (.cells #[.int .i64 fs.most, .slice none 0 0, .slice none 0 0, .bool fs.down, .int .i64 fs.crash] 66)).drew = w1 at hal hb1 hq1 ⊢
  clear hw1
  obtain ⟨q, hq⟩ : ∃ q, w.heap.size = q := ⟨_, rfl⟩
  have hk1 := hal _ _ hpl hc1
  have hk2 := hal _ _ hpl hc2
  have hkq : w1.cell? ⟨q, 1, none⟩ = some (.slice none 0 0) := by rw [← hq, hq1.cell]; rfl
  have hkz : w1.frozen? ⟨q, 1, none⟩ = false := by rw [← hq]; exact hq1.frozen 1
  have HB1 := Lib.hid hb1; have HQ1 := Lib.hid hq1; have HAL := Lib.hid hal; have HQ := Lib.hid hq
  try rw [hq]
  clear hb1 hq1 hal hq
  go_wp2_with fail
  refine wp_region_mix (fun z => z.cell? ⟨q, 1, none⟩ = some (.slice none 0 0) ∧ z.cell? ⟨p, 1, none⟩ = some (.slice A fs.files.length c))
    [true, true, true, true, true, true, true, true, true, false, true, true] _ (by kernel_rfl) rfl (by kernel_rfl) ⟨hkq, hk1⟩ ?_
  dsimp only [List.dropLast, List.zip, List.zipWith, List.getLast]
  repeat (apply wpMix_free
          · intro z hz
            try dsimp only at hz
            go_simp
            all_goals with_reducible rfl
          simp only [Act.put, List.setIfInBounds_toArray, List.set_cons_zero, List.set_cons_succ])
  refine wpMix_turn (fun K hK => ?_)
  have HK := Lib.hid hK; clear hK
  refine wp_append_row (.tmp 24) (.tmp 28) rfl Tryz.underlying64 file_info rfl (by decide) (by decide) (v := .slice none 0 0) (x := .slice A fs.files.length c) rfl rfl (OwnR.nil w1.drew q _ 2) (HRF.out.keep fun g cur hg' => HB1.out.block g (Array.getElem?_eq_some_iff.1 hg').1) (fl_cells_one _).1 (fl_cells_one _).2 (by rw [List.length_map]; simp; omega) (by have := HB1.out.size; rw [HQ.out] at this; exact this) ?_
  intro v' V hown hgr hat
  rw [List.nil_append] at hown
  have hql : q < w1.heap.size := by have := HQ1.out.lt; rw [HQ.out] at this; exact this
  have hwq : w.heap.size = q := HQ.out
  have hVb : Below w1.heap.size w1 V := ⟨hgr.os, hgr.tape, hgr.output, hgr.size, fun k hk => hgr.block k hk (by simp [Value.ownBlock])⟩
  have hkqV : V.cell? ⟨q, 1, none⟩ = some (.slice none 0 0) := (hVb.cell (p := ⟨q, 1, none⟩) hql).trans hkq
  have hkzV : V.frozen? ⟨q, 1, none⟩ = false := (hVb.frozen (p := ⟨q, 1, none⟩) hql).trans hkz
  have hpl1 : p < w1.heap.size := Nat.lt_of_lt_of_le hpl HB1.out.size
  refine HK.out _ _ ⟨hkqV, (hVb.cell (p := ⟨p, 1, none⟩) hpl1).trans hk1⟩ ?_
  clear HK
  try simp only [Act.put, List.setIfInBounds_toArray, List.set_cons_zero, List.set_cons_succ]
  obtain ⟨A2, c2, hv2⟩ := hown.reads.len
  rw [List.length_map] at hv2
  subst hv2
  repeat (apply wpMix_free
          · intro z hz
            try dsimp only at hz
            go_simp
            all_goals with_reducible rfl
          simp only [Act.put, List.setIfInBounds_toArray, List.set_cons_zero, List.set_cons_succ])
  refine wpMix_end ?_
  go_simp
  have hst : Copied w (V.setCell ⟨q, 1, none⟩ (.slice A2 fs.files.length c2)) q fs 0 (.slice A2 fs.files.length c2) (.slice none 0 0) [] := by
    have hqV : Hold V q 66 [.int .i64 fs.most, .slice none 0 0, .slice none 0 0, .bool fs.down, .int .i64 fs.crash] := (hVb.block q hql).trans (by rw [← hwq]; exact HQ1.out)
    refine ⟨rfl, ?_, by omega, ?_, OwnR.nil _ _ _ _, fun i d v hd hv => by simp at hv, fun i j v u hv => by simp at hv, ?_⟩
    · exact hqV.set 1 _
    · rw [hwq]
      exact own_ty hown (Same.of_gb (gb_set (World.grownBy.refl V _) 1 _) hqV (by decide))
    · refine ((HB1.out.trans (hVb.mono HB1.out.size))).setCell (p := ⟨q, 1, none⟩) (by show w.heap.size ≤ q; omega) _
  have HST := Lib.hid hst
  generalize V.setCell ⟨q, 1, none⟩ (.slice A2 fs.files.length c2) = w2 at HST ⊢
  generalize hvF : Value.slice A2 fs.files.length c2 = vF at HST ⊢
  clear hst hown hgr hat hVb hkqV hkzV hql hkq hkz hk1 hk2 hwq HB1 HQ1 HAL HQ hvF
  go_wp2_with fail
  go_loopw [4] (fun i wr => ∃ (k : Nat) (vD : Value) (dvs : List Dv), k ≤ fs.dirs.length ∧ i = .int .i64 k ∧ Copied w wr q fs k vF vD dvs) (fun i _ => fs.dirs.length - (intOf i).toNat)
  case atStart => exact ⟨0, .slice none 0 0, [], by omega, rfl, HST.out⟩
  case round =>
    obtain ⟨k, vD, dvs, hk, rfl, hC⟩ := hrel
    have h := H.out
    have hC2 : wr.cell? ⟨p, 2, none⟩ = some (.slice (some ⟨gd, 0, none⟩) fs.dirs.length cd) := (hC.below.cell (p := ⟨p, 2, none⟩) hpl).trans hc2
    by_cases hlt : k < fs.dirs.length
    · obtain ⟨d, u, hd, hu, hd0, hd1, hd2, hd3⟩ := h.sees.dir hlt
      have he0 : wr.cell? ⟨gd, k * 4, none⟩ = some (.string d.p) := (hC.below.cell (p := ⟨gd, k * 4, none⟩) hgl).trans hd0
      have he1 : wr.cell? ⟨gd, k * 4 + 1, none⟩ = some u.n := (hC.below.cell (p := ⟨gd, k * 4 + 1, none⟩) hgl).trans hd1
      have he2 : wr.cell? ⟨gd, k * 4 + 2, none⟩ = some u.d := (hC.below.cell (p := ⟨gd, k * 4 + 2, none⟩) hgl).trans hd2
      have he3 : wr.cell? ⟨gd, k * 4 + 3, none⟩ = some u.s := (hC.below.cell (p := ⟨gd, k * 4 + 3, none⟩) hgl).trans hd3
      have hq2 : wr.cell? ⟨q, 2, none⟩ = some vD := by rw [hC.top.cell]; rfl
      have hqz : wr.frozen? ⟨q, 2, none⟩ = false := hC.top.frozen 2
      have hql : q < wr.heap.size := hC.top.lt
      have hplr : p < wr.heap.size := Nat.lt_of_lt_of_le hpl hC.below.size
      have hglr : gd < wr.heap.size := Nat.lt_of_lt_of_le hgl hC.below.size
      have hfit := h.sees.dirs.fits
      have hea := h.sees.each k d u hd hu
      obtain ⟨An, cn, hun⟩ := hea.1.len
      obtain ⟨Ad, cdd, hud⟩ := hea.2.1.len
      obtain ⟨As, cs, hus⟩ := hea.2.2.len
      rw [List.length_map] at hun hud hus
      rw [hun, hud, hus] at hea
      rw [hun] at he1; rw [hud] at he2; rw [hus] at he3
      have hZ : (List.zipWith drCells (fs.dirs.take k) dvs).length = k := by rw [List.length_zipWith, List.length_take, hC.many]; omega
      obtain ⟨AD, cD, hvD⟩ := hC.dirs.reads.len
      rw [hZ] at hvD
      subst hvD
      have HEA := Lib.hid hea; have HZ := Lib.hid hZ
      clear hea hun hud hus hZ
      have HC := Lib.hid hC; have HD := Lib.hid hd; have HU := Lib.hid hu
      clear h hC hd hu hd0 hd1 hd2 hd3
      go_wp2_with fail
      have hcC : ∀ (a : Addr) (y : Value), a.block < wr.heap.size → wr.cell? a = some y → (wr.alloc (.cells #[.string d.p, .slice An d.names.length cn, .slice Ad d.dur.length cdd, .slice As d.waits.length cs] 62)).cell? a = some y := fun a y ha hy => (World.cell?_alloc_lt wr _ a ha).trans hy
      have hWq := hcC ⟨q, 2, none⟩ _ hql hq2
      have hWz : (wr.alloc (.cells #[.string d.p, .slice An d.names.length cn, .slice Ad d.dur.length cdd, .slice As d.waits.length cs] 62)).frozen? ⟨q, 2, none⟩ = false := (World.frozen?_of_block (w := wr) (a := ⟨q, 2, none⟩) (Below.heap_alloc wr _ q hql)).trans hqz
      have hWh : Hold (wr.alloc (.cells #[.string d.p, .slice An d.names.length cn, .slice Ad d.dur.length cdd, .slice As d.waits.length cs] 62)) wr.heap.size 62 [.string d.p, .slice An d.names.length cn, .slice Ad d.dur.length cdd, .slice As d.waits.length cs] := heap_alloc_new wr _
      have hWb : Below wr.heap.size wr (wr.alloc (.cells #[.string d.p, .slice An d.names.length cn, .slice Ad d.dur.length cdd, .slice As d.waits.length cs] 62)) := (Below.refl _ _).alloc (Nat.le_refl _) _
      have hWS : wr.heap.size < (wr.alloc (.cells #[.string d.p, .slice An d.names.length cn, .slice Ad d.dur.length cdd, .slice As d.waits.length cs] 62)).heap.size := hWh.lt
      generalize wr.alloc (.cells #[.string d.p, .slice An d.names.length cn, .slice Ad d.dur.length cdd, .slice As d.waits.length cs] 62) = W at hWq hWz hWh hWb hWS ⊢
      have hB0 : W.cell? ⟨wr.heap.size, 0, none⟩ = some (.string d.p) := by rw [hWh.cell]; rfl
      have hB1 : W.cell? ⟨wr.heap.size, 1, none⟩ = some (.slice An d.names.length cn) := by rw [hWh.cell]; rfl
      have hB2 : W.cell? ⟨wr.heap.size, 2, none⟩ = some (.slice Ad d.dur.length cdd) := by rw [hWh.cell]; rfl
      have hB3 : W.cell? ⟨wr.heap.size, 3, none⟩ = some (.slice As d.waits.length cs) := by rw [hWh.cell]; rfl
      have HWB := Lib.hid hWb
      clear hcC hWh hWb he0 he1 he2 he3 hq2 hqz hC2
      refine wp_region_copies (fun z => z.cell? ⟨q, 2, none⟩ = some (.slice AD k cD) ∧ z.cell? ⟨wr.heap.size, 0, none⟩ = some (.string d.p) ∧ z.cell? ⟨wr.heap.size, 1, none⟩ = some (.slice An d.names.length cn) ∧ z.cell? ⟨wr.heap.size, 2, none⟩ = some (.slice Ad d.dur.length cdd) ∧ z.cell? ⟨wr.heap.size, 3, none⟩ = some (.slice As d.waits.length cs))
        [0, 1, 2, 3, 4, 5, 6, 8, 9, 12, 13, 16, 17] [7, 10, 11, 14, 15, 18] [(19, true), (20, false), (21, false), (22, true), (23, true)] _ (by kernel_rfl) rfl (by kernel_rfl) (fun w' hb => ⟨(hb.cell (p := ⟨q, 2, none⟩) (Nat.lt_trans hql hWS)).trans hWq, (hb.cell (p := ⟨wr.heap.size, 0, none⟩) hWS).trans hB0, (hb.cell (p := ⟨wr.heap.size, 1, none⟩) hWS).trans hB1, (hb.cell (p := ⟨wr.heap.size, 2, none⟩) hWS).trans hB2, (hb.cell (p := ⟨wr.heap.size, 3, none⟩) hWS).trans hB3⟩) ?_
      simp only [pickL, List.dropLast, List.getElem?_cons_zero, List.getElem?_cons_succ, List.getLast]
      repeat (apply wpFree_take
              · intro z hz
                try dsimp only at hz
                go_simp
                all_goals with_reducible rfl
              simp only [Act.put, List.setIfInBounds_toArray, List.set_cons_zero, List.set_cons_succ])
      refine wpFree_end ?_
      have hrn : ∀ {t : TypeId} {s : Nat} {v : Value} {xs : List (List Value)}, Reads w t s v xs → Reads W.drew t s v xs := fun h => h.keep fun g cur hg => by
        have hgl := (Array.getElem?_eq_some_iff.1 hg).1
        exact (HWB.out.block g (Nat.lt_of_lt_of_le hgl HC.out.below.size)).trans (HC.out.below.block g hgl)
      have hdm := hsm d (List.mem_of_getElem? HD.out)
      refine ⟨[{ b := 7, c := 10, db := 55, dc := 58, T := 59, X := 57, e := 111, sz := 2, bytes := 24, z := .agg #[.string ⟨#[]⟩, .int .i64 0], x := .slice An d.names.length cn, xs := d.names.map Nm.cells },
        { b := 11, c := 14, db := 59, dc := 62, T := 59, X := 61, e := 111, sz := 2, bytes := 24, z := .agg #[.string ⟨#[]⟩, .int .i64 0], x := .slice Ad d.dur.length cdd, xs := d.dur.map Nm.cells },
        { b := 15, c := 18, db := 63, dc := 66, T := 60, X := 65, e := 114, sz := 3, bytes := 40, z := .agg #[.string ⟨#[]⟩, .int .i64 0, .string ⟨#[]⟩], x := .slice As d.waits.length cs, xs := d.waits.map St.cells }], rfl, ⟨?_, ?_, ?_, ?_⟩, ?_, ?_⟩
      · intro x hx y hy
        simp only [List.mem_cons, List.not_mem_nil, or_false] at hx hy
        rcases hx with rfl | rfl | rfl <;> rcases hy with rfl | rfl | rfl <;> simp
      · intro x hx y hy
        simp only [List.mem_cons, List.not_mem_nil, or_false] at hx hy
        rcases hx with rfl | rfl | rfl <;> rcases hy with rfl | rfl | rfl <;> simp
      · intro x hx y hy
        simp only [List.mem_cons, List.not_mem_nil, or_false] at hx hy
        rcases hx with rfl | rfl | rfl <;> rcases hy with rfl | rfl | rfl <;> simp
      · intro x hx y hy
        simp only [List.mem_cons, List.not_mem_nil, or_false] at hx hy
        rcases hx with rfl | rfl | rfl <;> rcases hy with rfl | rfl | rfl <;> simp
      · intro x hx
        simp only [List.mem_cons, List.not_mem_nil, or_false] at hx
        rcases hx with rfl | rfl | rfl
        · exact ⟨⟨_, rfl, rfl, rfl, rfl⟩, ⟨_, rfl, rfl, rfl, rfl, _, Array.mem_of_getElem? (i := 0) rfl, rfl, rfl⟩, Tryz.underlying59, name_info, rfl, by show 0 < 2; decide, by show 24 ≤ 100; decide, rfl, hrn HEA.out.1, (nm_cells_one _).1, (nm_cells_one _).2, by rw [List.length_map]; exact Nat.le_trans hdm.1 (by decide), by show 55 < 73; decide⟩
        · exact ⟨⟨_, rfl, rfl, rfl, rfl⟩, ⟨_, rfl, rfl, rfl, rfl, _, Array.mem_of_getElem? (i := 0) rfl, rfl, rfl⟩, Tryz.underlying59, name_info, rfl, by show 0 < 2; decide, by show 24 ≤ 100; decide, rfl, hrn HEA.out.2.1, (nm_cells_one _).1, (nm_cells_one _).2, by rw [List.length_map]; exact Nat.le_trans hdm.2.1 (by decide), by show 59 < 73; decide⟩
        · exact ⟨⟨_, rfl, rfl, rfl, rfl⟩, ⟨_, rfl, rfl, rfl, rfl, _, Array.mem_of_getElem? (i := 0) rfl, rfl, rfl⟩, Tryz.underlying60, step_info, rfl, by show 0 < 3; decide, by show 40 ≤ 100; decide, rfl, hrn HEA.out.2.2, (st_cells_one _).1, (st_cells_one _).2, by rw [List.length_map]; exact Nat.le_trans hdm.2.2 (by decide), by show 63 < 73; decide⟩
      intro vs w1 hb1 hown hap
      clear hap
      have hn := hown _ (List.mem_cons_self ..)
      have hu := hown _ (List.mem_cons_of_mem _ (List.mem_cons_self ..))
      have hs := hown _ (List.mem_cons_of_mem _ (List.mem_cons_of_mem _ (List.mem_cons_self ..)))
      dsimp only at hn hu hs
      clear hown hrn
      show wpMix _ _ _ _ (fill vs [55, 58, 59, 62, 63, 66] _) _
      simp only [fill, fillT, List.setIfInBounds_toArray, List.set_cons_zero, List.set_cons_succ]
      generalize vs 58 = x1 at hn ⊢
      generalize vs 62 = x2 at hu ⊢
      generalize vs 66 = x3 at hs ⊢
      generalize vs 55 = y1
      generalize vs 59 = y2
      generalize vs 63 = y3
      clear vs
      have hS1 := (fun (a : Addr) (y : Value) (ha : a.block < W.heap.size) (hy : W.cell? a = some y) => (hb1.cell (p := a) ha).trans hy)
      have hq1 := hS1 ⟨q, 2, none⟩ _ (Nat.lt_trans hql hWS) hWq
      have hz1 : w1.frozen? ⟨q, 2, none⟩ = false := (hb1.frozen (p := ⟨q, 2, none⟩) (Nat.lt_trans hql hWS)).trans hWz
      have hc0' := hS1 ⟨wr.heap.size, 0, none⟩ _ hWS hB0
      have hc1' := hS1 ⟨wr.heap.size, 1, none⟩ _ hWS hB1
      have hc2' := hS1 ⟨wr.heap.size, 2, none⟩ _ hWS hB2
      have hc3' := hS1 ⟨wr.heap.size, 3, none⟩ _ hWS hB3
      have hWw : W.heap.size ≤ w1.heap.size := hb1.size
      obtain ⟨B1, b1, hx1⟩ := hn.reads.len
      obtain ⟨B2, b2, hx2⟩ := hu.reads.len
      obtain ⟨B3, b3, hx3⟩ := hs.reads.len
      rw [List.length_map] at hx1 hx2 hx3
      subst hx1 hx2 hx3
      have HN := Lib.hid hn; have HU2 := Lib.hid hu; have HS2 := Lib.hid hs; have HB := Lib.hid hb1
      clear hn hu hs hb1 hS1
      simp only [permL, List.getElem?_cons_zero, List.getElem?_cons_succ]
      repeat (apply wpMix_free
              · intro z hz
                try dsimp only at hz
                go_simp
                all_goals with_reducible rfl
              simp only [Act.put, List.setIfInBounds_toArray, List.set_cons_zero, List.set_cons_succ])
      refine wpMix_turn (fun K hK => ?_)
      have HK := Lib.hid hK; clear hK
      go_simp
      have hb2 : Below w1.heap.size w1 (w1.alloc (.cells #[.string d.p, .slice B1 d.names.length b1, .slice B2 d.dur.length b2, .slice B3 d.waits.length b3] 62)) := (Below.refl _ _).alloc (Nat.le_refl _) _
      have hr2 := reads_one w1 62 (drCells d ⟨.slice B1 d.names.length b1, .slice B2 d.dur.length b2, .slice B3 d.waits.length b3⟩) w1.heap.size rfl
      change Reads (w1.alloc (.cells #[.string d.p, .slice B1 d.names.length b1, .slice B2 d.dur.length b2, .slice B3 d.waits.length b3] 62)) _ 4 _ _ at hr2
      generalize w1.alloc (.cells #[.string d.p, .slice B1 d.names.length b1, .slice B2 d.dur.length b2, .slice B3 d.waits.length b3] 62) = w2 at hb2 hr2 ⊢
      have hWw2 : W.heap.size ≤ w2.heap.size := Nat.le_trans hWw hb2.size
      have hS2 := (fun (a : Addr) (y : Value) (ha : a.block < W.heap.size) (hy : w1.cell? a = some y) => (hb2.cell (p := a) (Nat.lt_of_lt_of_le ha hWw)).trans hy)
      have hq2 := hS2 ⟨q, 2, none⟩ _ (Nat.lt_trans hql hWS) hq1
      have hz2 : w2.frozen? ⟨q, 2, none⟩ = false := (hb2.frozen (p := ⟨q, 2, none⟩) (Nat.lt_of_lt_of_le (Nat.lt_trans hql hWS) hWw)).trans hz1
      have hm0 := hS2 ⟨wr.heap.size, 0, none⟩ _ hWS hc0'
      have hm1 := hS2 ⟨wr.heap.size, 1, none⟩ _ hWS hc1'
      have hm2 := hS2 ⟨wr.heap.size, 2, none⟩ _ hWS hc2'
      have hm3 := hS2 ⟨wr.heap.size, 3, none⟩ _ hWS hc3'
      refine HK.out _ _ ⟨hq2, hm0, hm1, hm2, hm3⟩ ?_
      clear HK
      try simp only [Act.put, List.setIfInBounds_toArray, List.set_cons_zero, List.set_cons_succ]
      have hbr : Below wr.heap.size wr w2 := ((HWB.out.drew.trans ((HB.out.mono (by show wr.heap.size ≤ W.heap.size; omega)))).trans (hb2.mono (by omega)))
      have hDo : OwnR w2 w.heap.size 62 4 (.slice AD k cD) (List.zipWith drCells (fs.dirs.take k) dvs) := HC.out.dirs.keep hbr
      have HR2 := Lib.hid hr2; have HB2 := Lib.hid hb2; have HBR := Lib.hid hbr; have HDO := Lib.hid hDo
      have hwl : w.heap.size ≤ w2.heap.size := Nat.le_trans HC.out.below.size hbr.size
      clear hr2 hb2 hbr hDo hS2
      refine wpMix_turn (fun K hK => ?_)
      have HK := Lib.hid hK; clear hK
      refine wp_append_row (.tmp 52) (.tmp 68) rfl Tryz.underlying63 dir_info rfl (by decide) (by decide) (v := .slice AD k cD) (x := .slice (some ⟨w1.heap.size, 0, none⟩) 1 1) rfl rfl HDO.out HR2.out (fun y hy => by rw [List.mem_singleton.1 hy]; rfl) (fun y hy x hx => by
        rw [List.mem_singleton.1 hy] at hx
        simp only [drCells, List.mem_cons, List.not_mem_nil, or_false] at hx
        rcases hx with rfl | rfl | rfl | rfl <;> rfl) (by rw [HZ.out]; simp; omega) hwl ?_
      intro v' V3 hown3 hgr3 _
      obtain ⟨A3, c3, hv3⟩ := hown3.reads.len
      have hk1 : (List.zipWith drCells (fs.dirs.take k) dvs ++ [drCells d ⟨.slice B1 d.names.length b1, .slice B2 d.dur.length b2, .slice B3 d.waits.length b3⟩]).length = k + 1 := by rw [List.length_append, HZ.out]; rfl
      rw [hk1] at hv3
      subst hv3
      have hnq : ∀ b, (Value.slice AD k cD).ownBlock = some b → b ≠ q ∧ b < wr.heap.size := fun b hb => by
        obtain ⟨cur, hcur⟩ := HC.out.dirs.kind hb
        refine ⟨fun e => ?_, (HC.out.dirs.lt b hb).2⟩
        subst e
        exact kind_ne HC.out.top hcur (by decide) rfl
      have hblk : ∀ g, g < W.heap.size → g = q ∨ g = wr.heap.size → V3.heap[g]? = w2.heap[g]? := fun g hg hor => hgr3.block g (by omega) (fun e => by
        have h1 := hnq g e.symm
        rcases hor with e1 | e1
        · exact h1.1 e1
        · omega)
      have hqW : q < W.heap.size := Nat.lt_trans hql hWS
      have hq3 : V3.cell? ⟨q, 2, none⟩ = some (.slice AD k cD) := (World.cell?_of_block (a := ⟨q, 2, none⟩) (hblk q hqW (.inl rfl))).trans hq2
      have hz3 : V3.frozen? ⟨q, 2, none⟩ = false := (World.frozen?_of_block (a := ⟨q, 2, none⟩) (hblk q hqW (.inl rfl))).trans hz2
      have hbB := hblk wr.heap.size hWS (.inr rfl)
      refine HK.out _ _ ⟨hq3, (World.cell?_of_block (a := ⟨wr.heap.size, 0, none⟩) hbB).trans hm0, (World.cell?_of_block (a := ⟨wr.heap.size, 1, none⟩) hbB).trans hm1, (World.cell?_of_block (a := ⟨wr.heap.size, 2, none⟩) hbB).trans hm2, (World.cell?_of_block (a := ⟨wr.heap.size, 3, none⟩) hbB).trans hm3⟩ ?_
      clear HK hbB hblk hnq
      try simp only [Act.put, List.setIfInBounds_toArray, List.set_cons_zero, List.set_cons_succ]
      have hWr : wr.heap.size ≤ W.drew.heap.size := Nat.le_of_lt hWS
      have HNX := Lib.hid (copied_next (u := ⟨.slice B1 d.names.length b1, .slice B2 d.dur.length b2, .slice B3 d.waits.length b3⟩) HC.out HD.out HBR.out ((HN.out.keep HB2.out).mono hWr) ((HU2.out.keep HB2.out).mono hWr) ((HS2.out.keep HB2.out).mono hWr) hgr3 hown3)
      clear hgr3 hown3
      repeat (apply wpMix_free
              · intro z hz
                try dsimp only at hz
                go_simp
                all_goals with_reducible rfl
              simp only [Act.put, List.setIfInBounds_toArray, List.set_cons_zero, List.set_cons_succ])
      refine wpMix_end ?_
      go_simp
      go_wp2_with fail
      refine ⟨⟨k + 1, _, _, hlt, by go_num, HNX.out⟩, by simp [intOf]; omega⟩
    · have hC' := hC
      obtain rfl : k = fs.dirs.length := by omega
      go_wp2_with fail
      go_ret
      have hZ : (List.zipWith drCells (fs.dirs.take fs.dirs.length) dvs).length = fs.dirs.length := by rw [List.length_zipWith, List.length_take, hC'.many]; omega
      have hf := hC'.dirs.1
      rw [hZ] at hf
      obtain ⟨g', c', rfl, _, _⟩ := hf.form h0
      exact ⟨q, vF, g', c', dvs, rfl, hC'⟩

theorem copied_owns {w w' : World} {p gd cd q gd' cd' : Nat} {fs : Fs} {vf vF : Value} {dv dvs : List Dv} (h : Owns w p fs vf gd cd dv) (h0 : 0 < fs.dirs.length) (hC : Copied w w' q fs fs.dirs.length vF (.slice (some ⟨gd', 0, none⟩) fs.dirs.length cd') dvs) :
    Owns w' q fs vF gd' cd' dvs ∧ Below w.heap.size w w' ∧ ∀ g, Foot q gd' vF dvs g → w.heap.size ≤ g := by
  have htk : fs.dirs.take fs.dirs.length = fs.dirs := List.take_length
  have hD := hC.dirs
  have hE := hC.each
  rw [htk] at hD hE
  have hD0 := hD.mono (Nat.zero_le w.heap.size)
  have hlen : (List.zipWith drCells fs.dirs dvs).length = fs.dirs.length := by rw [List.length_zipWith, hC.many]; omega
  refine ⟨⟨⟨hC.top, hC.files.reads, hC.many, own_elems hD0 hlen h0, fun i d v hd hv => ?_, h.sees.ticks, h.sees.small⟩, hC.files.mono (Nat.zero_le _), hD0, fun i d v hd hv => (hE i d v hd hv).2.2.mono (Nat.zero_le _), hC.apart⟩, hC.below, fun g hg => ?_⟩
  · obtain ⟨a, b, c⟩ := hE i d v hd hv
    exact ⟨a.reads, b.reads, c.reads⟩
  · rcases hg with rfl | rfl | hg | ⟨v, hv, hg⟩
    · exact hC.mine
    · exact (hD.lt _ rfl).1
    · exact (hC.files.lt g hg).1
    · obtain ⟨i, hi⟩ := List.getElem?_of_mem hv
      have hil := lt_of_get hi
      have hl2 : i < fs.dirs.length := by rw [← hC.many]; exact hil
      exact ((hE i _ v (List.getElem?_eq_getElem hl2) hi).2.2.lt g hg).1
end Go.Proofs.YtdbcjiapbehacaaGreatDoor.Vf
