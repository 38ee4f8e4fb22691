/-
  The document's file system: Write: its walk.
-/
import Derived.Test.YtdbcjiapbehacaaGreatDoorVfG
import Derived.BigQuiet
namespace Go.Proofs.YtdbcjiapbehacaaGreatDoor.Vf
open Go.RowKit

theorem dirAt_is {fs : Fs} {path : ByteArray} (h : ¬ dirAt fs path < 0) : ∃ (a : Nat) (d : Dr), dirAt fs path = (a : Int) ∧ fs.dirs[a]? = some d := by
  unfold dirAt at h ⊢
  split
  · rename_i h4
    exact ⟨_, _, rfl, List.getElem?_eq_getElem h4⟩
  · rename_i h4
    rw [if_neg h4] at h; omega
theorem begin_most (fs : Fs) : (beginFs fs).most = fs.most := by
  unfold beginFs
  split
  · rfl
  · split <;> rfl
/-- A row of bytes that reads as a text, wherever rows of bytes are as they were. -/
def Text (w : World) (v : Value) (b : ByteArray) : Prop := (∃ A c, v = .slice A b.size c) ∧ ∀ z : World, (∀ (g : Nat) (cur : Array Value) (fr : Nat × Nat), w.heap[g]? = some (.cells cur 5 fr) → z.heap[g]? = w.heap[g]?) → (convert 38 9 v).run Tryz.prog z = .ok (.string b) z
set_option maxRecDepth 100000 in
set_option maxHeartbeats 8000000 in
theorem write_any (p gd cd : Nat) (fs : Fs) (vf : Value) (dv : List Dv) (path b : ByteArray) (v : Value) (w : World) (h : Owns w p fs vf gd cd dv) (hs : path.size ≤ 4294967296) (hrf : RFit fs) (hb : b.size ≤ 4294967296) (hm : -9223372036854775808 ≤ fs.most ∧ fs.most ≤ 9223372036854775807) (ht : Text w v b) :
    Calls Tryz.prog 31 #[.pointer (some ⟨p, 0, none⟩), .string path, v] w fun e w' => e = .returned (.int .i64 (writeRes fs path b)) ∧ ∃ vf' dv', Owns w' p (writeFs fs path b) vf' gd cd dv' ∧ Moves w w' (Foot p gd vf dv) (Foot p gd vf' dv') := by
  obtain ⟨⟨A0, c0, hv0⟩, htx⟩ := ht
  subst hv0
  obtain ⟨⟨B1, B2⟩, hB⟩ : ∃ B, beginRes fs path.data.toList false = B := ⟨_, rfl⟩
  obtain ⟨R, hR⟩ : ∃ R, writeRes fs path b = R := ⟨_, rfl⟩
  have hbad : R ≠ 0 → writeFs fs path b = beginFs fs := fun hr => by unfold writeFs; rw [if_pos (by rw [hR]; exact hr)]
  have hgood : R = 0 → writeFs fs path b = match findIn path fs.dirs with
    | some x => { beginFs fs with files := fs.files.modify (fileAt fs x) fun y => ⟨b, y.d⟩ }
    | none => { beginFs fs with files := fs.files ++ [⟨b, ⟨#[]⟩⟩], dirs := fs.dirs.modify (dirAt fs (upB fs path)).toNat fun d => stepD d ⟨path, fs.files.length, ⟨#[]⟩⟩ } := fun hr => by unfold writeFs; rw [if_neg (by rw [hR, hr]; simp)]; cases findIn path fs.dirs <;> rfl
  rw [hR]
  unfold writeRes at hR
  unfold upB at hR hgood
  rw [hB] at hR hgood
  have HR := Lib.hid hR; have HBAD := Lib.hid hbad; have HGOOD := Lib.hid hgood
  clear hR hbad hgood
  go_enter Tryz.func31, Tryz.ntmps31
  go_wp2_with fail
  refine (rbegin_any p gd cd fs vf dv path false w h.sees hs).mono ?_
  rintro e w1 ⟨rfl, h1, hg⟩
  have ho1 := h.turn h1 hg (beginFs_dirs fs) (beginFs_files fs)
  have htop := h.sees.top
  have HTX : Hid (∀ z : World, (∀ (g : Nat) (cur : Array Value) (fr : Nat × Nat), w1.heap[g]? = some (.cells cur 5 fr) → z.heap[g]? = w1.heap[g]?) → (convert 38 9 (.slice A0 b.size c0)).run Tryz.prog z = .ok (.string b) z) := Lib.hid fun z hz => htx z fun g cur fr hg' => by
    have hp : w.heap[p]? = _ := htop
    have e1 : w1.heap[g]? = w.heap[g]? := hg.block g (Array.getElem?_eq_some_iff.1 hg').1 (fun e => by injection e with e; subst e; rw [hp] at hg'; injection hg' with hg'; injection hg' with _ h2; revert h2; decide)
    exact (hz g cur fr (e1.trans hg')).trans e1
  clear htx htop
  have hrb : RFit (beginFs fs) := ⟨by unfold Short; rw [beginFs_dirs]; exact hrf.short, named_begin hrf.named, by rw [beginFs_files]; exact hrf.files, by rw [beginFs_dirs]; exact hrf.dirs, by rw [used_begin]; exact hrf.used⟩
  rw [hB]
  unfold pairVal
  dsimp only
  by_cases hb2 : B2 = 0
  · subst hb2
    have hr1 := HR.out
    rw [if_neg (by simp)] at hr1
    clear HR
    have HR := Lib.hid hr1
    clear hr1
    go_wp2_with fail
    refine (rdir_any p gd cd (beginFs fs) vf dv ⟨B1.toArray⟩ w1 h1).mono ?_
    rintro e w3 ⟨rfl, rfl⟩
    rw [dirAt_begin]
    obtain ⟨D1, hD1⟩ : ∃ D, dirAt fs ⟨B1.toArray⟩ = D := ⟨_, rfl⟩
    have hr1 := HR.out
    have hgd := HGOOD.out
    rw [hD1] at hr1 hgd ⊢
    clear HR HGOOD
    have HGOOD := Lib.hid hgd
    clear hgd
    by_cases hd1 : D1 < 0
    · rw [if_pos hd1] at hr1
      clear hD1
      have hfs := HBAD.out (by rw [← hr1]; decide)
      have HFS := Lib.hid hfs
      subst hr1
      clear HBAD HGOOD hfs
      go_wp2_with fail
      go_ret
      exact ⟨rfl, vf, dv, by rw [HFS.out]; exact ho1, Moves.of_gb hg⟩
    · rw [if_neg hd1] at hr1
      have HAT := Lib.hid (dirAt_is (fs := fs) (path := ⟨B1.toArray⟩) (by rw [hD1]; exact hd1))
      rw [hD1] at HAT
      clear hD1
      have HR := Lib.hid hr1
      clear hr1
      go_wp2_with fail
      refine (rdir_any p gd cd (beginFs fs) vf dv path w1 h1).mono ?_
      rintro e w4 ⟨rfl, rfl⟩
      rw [dirAt_begin]
      obtain ⟨D2, hD2⟩ : ∃ D, dirAt fs path = D := ⟨_, rfl⟩
      have hr1 := HR.out
      rw [hD2] at hr1 ⊢
      clear HR hD2
      by_cases hd2 : 0 ≤ D2
      · rw [if_pos hd2] at hr1
        have hfs := HBAD.out (by rw [← hr1]; decide)
        have HFS := Lib.hid hfs
        subst hr1
        clear HBAD HGOOD hfs
        go_wp2_with fail
        go_ret
        exact ⟨rfl, vf, dv, by rw [HFS.out]; exact ho1, Moves.of_gb hg⟩
      · rw [if_neg hd2] at hr1
        have HR := Lib.hid hr1
        clear hr1
        go_wp2_with fail
        refine (rfind_any p gd cd (beginFs fs) vf dv path w1 h1).mono ?_
        rintro e w5 ⟨rfl, rfl⟩
        rw [beginFs_dirs]
        have hmo : w1.cell? ⟨p, 0, none⟩ = some (.int .i64 fs.most) := by rw [h1.top.cell]; show some (Value.int .i64 (beginFs fs).most) = _; rw [begin_most]
        have hus : usedD (beginFs fs) (beginFs fs).dirs = usedD fs fs.dirs := used_begin fs
        obtain ⟨U, hU⟩ : ∃ U, usedD fs fs.dirs = U := ⟨_, rfl⟩
        have hU4 : U ≤ 4294967296 := by rw [← hU]; exact hrf.used
        obtain ⟨M, hM⟩ : ∃ M, fs.most = M := ⟨_, rfl⟩
        rw [hM] at hm hmo
        have HRB := Lib.hid hrb; have HO := Lib.hid ho1
        have HUS : Hid (∀ W : World, Below w1.heap.size w1 W → ∀ n : Nat, Calls Tryz.prog 41 #[.pointer (some ⟨p, 0, none⟩)] (W.drewN n) fun e w'' => e = .returned (.int .i64 U) ∧ ∃ m, w'' = W.drewN m) := Lib.hid fun W hW n => by
          have hq := rused_any p gd cd (beginFs fs) vf dv (W.drewN n) ((HO.out.below (bl_drewN hW _)).sees) HRB.out.named HRB.out.used
          rw [hus, hU] at hq
          exact Calls.quiet_of hq
        have HUS1 := Lib.hid (HUS.out w1 (Below.refl _ _))
        have hr1 := HR.out
        rw [hU, hM] at hr1
        have HUU : Hid (usedD (beginFs fs) (beginFs fs).dirs = U) := Lib.hid (hus.trans hU)
        clear HR hus hU hM
        cases hf : findIn path fs.dirs with
        | none =>
          rw [hf] at hr1
          obtain ⟨Y, hY⟩ : ∃ Y, manyOf fs.dirs = Y := ⟨_, rfl⟩
          have hwas : wasOf fs none = 0 := rfl
          rw [hwas, hY] at hr1
          have HMY : Hid (Calls Tryz.prog 63 #[.pointer (some ⟨p, 0, none⟩)] w1 fun e w' => e = .returned (.int .i64 Y) ∧ w1 = w') := Lib.hid (by
            have hq := rmany_any p gd cd (beginFs fs) vf dv w1 h1 HRB.out.dirs
            rw [beginFs_dirs, hY] at hq; exact hq)
          clear hY hwas
          unfold findVal
          dsimp only
          by_cases hsz : 65536 < b.size
          · rw [if_pos (.inl hsz)] at hr1
            have hfs := HBAD.out (by rw [← hr1]; decide)
            have HFS := Lib.hid hfs
            subst hr1
            clear HBAD HGOOD hfs
            go_wp2_with fail
            go_ret
            exact ⟨rfl, vf, dv, by rw [HFS.out]; exact ho1, Moves.of_gb hg⟩
          · by_cases hmy : 256 ≤ Y
            · rw [if_pos (.inr ⟨rfl, hmy⟩)] at hr1
              have hfs := HBAD.out (by rw [← hr1]; decide)
              have HFS := Lib.hid hfs
              subst hr1
              clear HBAD HGOOD hfs
              go_wp2_with (first
                | (go_at_call 63; refine HMY.out.mono ?_; rintro e w6 ⟨rfl, rfl⟩)
                | fail)
              go_ret
              exact ⟨rfl, vf, dv, by rw [HFS.out]; exact ho1, Moves.of_gb hg⟩
            · rw [if_neg (by rintro (e | ⟨_, e⟩) <;> omega)] at hr1
              by_cases hsp : (U : Int) - ((0 : Nat) : Int) + b.size > M
              · rw [if_pos hsp] at hr1
                have hfs := HBAD.out (by rw [← hr1]; decide)
                have HFS := Lib.hid hfs
                subst hr1
                have hsp2 : M < (U : Int) + b.size := by omega
                clear HBAD HGOOD hfs
                go_wp2_with (first
                  | (go_at_call 63; refine HMY.out.mono ?_; rintro e w6 ⟨rfl, rfl⟩)
                  | fail)
                go_quiet (first
                  | (go_at_call 41; exact HUS1.out _)
                  | fail)
                go_wp2_with fail
                go_ret
                exact ⟨rfl, vf, dv, by rw [HFS.out]; exact ho1.below (bl_drewN (Below.refl _ _) _), (Moves.of_gb hg).below (bl_drewN (Below.refl _ _) _)⟩
              · rw [if_neg hsp] at hr1
                obtain ⟨at_, d, hat, hd⟩ := HAT.out
                have hfs := HGOOD.out hr1.symm
                rw [hf] at hfs
                dsimp only at hfs
                rw [hat] at hfs
                have hat2 : ((at_ : Nat) : Int).toNat = at_ := by omega
                rw [hat2, ← beginFs_dirs fs, ← beginFs_files fs, mod_set (show (beginFs fs).dirs[at_]? = some d by rw [beginFs_dirs]; exact hd)] at hfs
                have HFS := Lib.hid hfs
                subst hr1
                subst hat
                have hsp2 : ¬ M < (U : Int) + b.size := by omega
                have hdb : (beginFs fs).dirs[at_]? = some d := by rw [beginFs_dirs]; exact hd
                have hshd := hrf.short d (List.mem_of_getElem? hd)
                have hfl := HRB.out.files
                have hc1 : w1.cell? ⟨p, 1, none⟩ = some vf := by rw [h1.top.cell]; rfl
                have hfz1 := h1.top.frozen 1
                have hpl : p < w1.heap.size := h1.top.lt
                obtain ⟨A1, c1, hvf⟩ := HO.out.files.reads.len
                rw [List.length_map] at hvf
                have HVF := Lib.hid hvf
                clear hvf
                have htxt := HTX.out
                have HDB := Lib.hid hdb
                clear HBAD HGOOD hfs hd hat2 hdb
                go_wp2_with (first
                  | (go_at_call 63; refine HMY.out.mono ?_; rintro e w6 ⟨rfl, rfl⟩)
                  | fail)
                go_quiet (first
                  | (go_at_call 41; exact HUS1.out _)
                  | fail)
                obtain ⟨W, hW⟩ : ∃ W, w1.drewN nq = W := ⟨_, rfl⟩
                have hbW : Below w1.heap.size w1 W := by rw [← hW]; exact bl_drewN (Below.refl _ _) _
                rw [hW]
                clear hW HUS HUS1 HMY
                have HOW := Lib.hid (ho1.below hbW)
                have hcW : W.cell? ⟨p, 1, none⟩ = some (.slice A1 (beginFs fs).files.length c1) := by rw [← HVF.out]; exact (hbW.cell (p := ⟨p, 1, none⟩) hpl).trans hc1
                have hfzW : W.frozen? ⟨p, 1, none⟩ = false := (hbW.frozen (p := ⟨p, 1, none⟩) hpl).trans hfz1
                have hpW : p < W.heap.size := Nat.lt_of_lt_of_le hpl hbW.size
                have HTW : Hid (∀ z : World, (∀ (g : Nat) (cur : Array Value) (fr : Nat × Nat), W.heap[g]? = some (.cells cur 5 fr) → z.heap[g]? = W.heap[g]?) → (convert 38 9 (.slice A0 b.size c0)).run Tryz.prog z = .ok (.string b) z) := Lib.hid fun z hz => htxt z fun g cur fr hg' => by
                  have e := hbW.block g (Array.getElem?_eq_some_iff.1 hg').1
                  exact (hz g cur fr (e.trans hg')).trans e
                clear htxt hc1 hfz1 hmo
                go_wp2_with fail
                refine wp_region_mix (fun z => z.cell? ⟨p, 1, none⟩ = some (.slice A1 (beginFs fs).files.length c1) ∧ (convert 38 9 (.slice A0 b.size c0)).run Tryz.prog z = .ok (.string b) z) [true, true, true, true, true, true, true, true, false, false, true, true] _ (by kernel_rfl) rfl (by kernel_rfl) ⟨hcW, HTW.out _ (fun _ _ _ _ => rfl)⟩ ?_
                dsimp only [List.dropLast, List.zip, List.zipWith, List.getLast]
                repeat (apply wpMix_free
                        · intro z hz
                          try dsimp only at hz
                          go_simp
                          all_goals with_reducible rfl
                        simp only [Act.put, List.setIfInBounds_toArray, List.set_cons_zero, List.set_cons_succ])
                refine wpMix_turn (fun K hK => ?_)
                have HK := Lib.hid hK; clear hK
                go_simp
                have hal : Below W.heap.size W (W.drew.alloc (.cells #[.string b, .string ⟨#[]⟩] 109)) := (Below.refl _ _).drew.alloc (Nat.le_refl _) _
                refine HK.out _ _ ⟨(hal.cell (p := ⟨p, 1, none⟩) hpW).trans hcW, HTW.out _ (fun g _ _ hg' => hal.block g (Array.getElem?_eq_some_iff.1 hg').1)⟩ ?_
                clear HK
                try simp only [Act.put, List.setIfInBounds_toArray, List.set_cons_zero, List.set_cons_succ]
                refine wpMix_turn (fun K hK => ?_)
                have HK := Lib.hid hK; clear hK
                have hfl0 := (HOW.out.files).keep hal
                rw [HVF.out] at hfl0
                have hone : ∀ y ∈ [[Value.string b, Value.string ⟨#[]⟩]], ∀ u ∈ y, u.oneCell' = true := by
                  intro y hy u hu
                  rw [List.mem_singleton.1 hy] at hu
                  simp at hu
                  rcases hu with rfl | rfl <;> rfl
                refine wp_append_row (v := .slice A1 (beginFs fs).files.length c1) (.tmp 109) (.tmp 113) rfl Tryz.underlying64 file_info rfl (by decide) (by decide) rfl rfl hfl0 (reads_one W.drew 109 [.string b, .string ⟨#[]⟩] _ rfl) (fun y hy => by rw [List.mem_singleton.1 hy]; rfl) hone (by rw [List.length_map]; simp; omega) (Nat.zero_le _) ?_
                intro v' V hown hgr hat
                rw [show (beginFs fs).files.map Fl.cells ++ [[Value.string b, Value.string ⟨#[]⟩]] = ((beginFs fs).files ++ [(⟨b, ⟨#[]⟩⟩ : Fl)]).map Fl.cells by rw [List.map_append]; rfl] at hown
                obtain ⟨A9, c9, hv9⟩ := hown.reads.len
                rw [List.length_map, List.length_append, List.length_singleton] at hv9
                subst hv9
                have hgV : W.grownBy V (Value.slice A1 (beginFs fs).files.length c1).ownBlock := (show W.grownBy (W.drew.alloc (.cells #[.string b, .string ⟨#[]⟩] 109)) _ from ⟨hal.os, hal.tape, hal.output, hal.size, fun k hk _ => hal.block k hk⟩).trans hgr
                have hown' := hown
                rw [← HVF.out] at hgV
                have hFA := file_added (x := ⟨b, ⟨#[]⟩⟩) HOW.out hgV (by
                  rcases hat with e | e
                  · exact .inl (by rw [HVF.out]; exact e)
                  · exact .inr ⟨_, e, by simp⟩) hown'
                have hkind : ∀ k, vf.ownBlock = some k → ∃ cur, W.heap[k]? = some (.cells cur 109 (0, 0)) := fun k hk => HOW.out.files.kind hk
                have hty : ∀ (t : TypeId) (g : Nat) (cur : Array Value) (fr : Nat × Nat), t ≠ 109 → W.heap[g]? = some (.cells cur t fr) → V.heap[g]? = W.heap[g]? := fun t g cur fr ht hg' => hgV.block g (Array.getElem?_eq_some_iff.1 hg').1 (fun e => by
                  obtain ⟨cur2, hc⟩ := hkind g e.symm
                  rw [hg'] at hc
                  injection hc with hc; injection hc with _ h2; exact ht h2)
                have hpV : V.heap[p]? = W.heap[p]? := hty _ p _ _ (by decide) HOW.out.sees.top
                have hcV : V.cell? ⟨p, 1, none⟩ = some (.slice A1 (beginFs fs).files.length c1) := (World.cell?_of_block (a := ⟨p, 1, none⟩) hpV).trans hcW
                have hfV : V.frozen? ⟨p, 1, none⟩ = false := (World.frozen?_of_block (a := ⟨p, 1, none⟩) hpV).trans hfzW
                refine HK.out _ _ ⟨hcV, HTW.out V (fun g cur fr hg' => hty _ g cur fr (by decide) hg')⟩ ?_
                clear HK
                try simp only [Act.put, List.setIfInBounds_toArray, List.set_cons_zero, List.set_cons_succ]
                repeat (apply wpMix_free
                        · intro z hz
                          try dsimp only at hz
                          go_simp
                          all_goals with_reducible rfl
                        simp only [Act.put, List.setIfInBounds_toArray, List.set_cons_zero, List.set_cons_succ])
                obtain ⟨Z, hZ⟩ : ∃ Z, V.setCell ⟨p, 1, none⟩ (.slice A9 ((beginFs fs).files.length + 1) c9) = Z := ⟨_, rfl⟩
                rw [hZ] at hFA
                have HFA := Lib.hid hFA
                have HST : Hid (∀ Z', Below Z.heap.size Z Z' → Calls Tryz.prog 64 #[.pointer (some ⟨p, 0, none⟩), .int .i64 at_, .agg #[.string path, .int .i64 (beginFs fs).files.length, .string ⟨#[]⟩]] Z' fun e w' => (∃ r, e = .returned r) ∧ ∃ dv', Owns w' p { beginFs fs with files := (beginFs fs).files ++ [⟨b, ⟨#[]⟩⟩], dirs := (beginFs fs).dirs.set at_ (stepD d ⟨path, (beginFs fs).files.length, ⟨#[]⟩⟩) } (.slice A9 ((beginFs fs).files.length + 1) c9) gd cd dv' ∧ Moves Z w' (Foot p gd (.slice A9 ((beginFs fs).files.length + 1) c9) dv) (Foot p gd (.slice A9 ((beginFs fs).files.length + 1) c9) dv')) := Lib.hid fun Z' hZ' => (step_any p gd cd { beginFs fs with files := (beginFs fs).files ++ [⟨b, ⟨#[]⟩⟩] } _ dv at_ d ⟨path, (beginFs fs).files.length, ⟨#[]⟩⟩ Z' (HFA.out.1.below hZ') HDB.out hshd.1 hshd.2).mono fun e w' ⟨he, dv', hO, hM⟩ => ⟨he, dv', hO, (show Moves Z Z' (Foot p gd (.slice A9 ((beginFs fs).files.length + 1) c9) dv) (Foot p gd (.slice A9 ((beginFs fs).files.length + 1) c9) dv) from (Moves.refl Z _).below hZ').trans hM⟩
                have hcZ : Z.cell? ⟨p, 1, none⟩ = some (.slice A9 ((beginFs fs).files.length + 1) c9) := by rw [HFA.out.1.sees.top.cell]; rfl
                have HMV := Lib.hid (((Moves.of_gb hg).below hbW).trans hFA.2)
                clear hown hown' hgr hat hgV hFA hty hkind hpV hal hfl0 hone hcW hfzW
                refine wpMix_end ?_
                go_simp
                try rw [hZ]
                go_wp2_with (first
                  | (go_at_call 64; refine (HST.out _ (Below.refl _ _)).mono ?_; rintro e w8 ⟨⟨r, rfl⟩, dv', hO8, hM8⟩; have HO8 := Lib.hid hO8; have HM8 := Lib.hid hM8; clear hO8 hM8)
                  | fail)
                go_ret
                exact ⟨rfl, _, dv', by rw [HFS.out]; exact HO8.out, HMV.out.trans HM8.out⟩
        | some y =>
          obtain ⟨i, k⟩ := y
          rw [hf] at hr1
          obtain ⟨d, y, n, g, c, gn, cn, hvf, hy, hfa, hyu, hled⟩ := led ho1 hrb (path := path) (by rw [beginFs_dirs]; exact hf)
          have hfa2 : fileAt fs (i, k) = n := by rw [← hfa]; unfold fileAt; rw [beginFs_dirs]
          have hy2 : fs.files[n]? = some y := by rw [← beginFs_files]; exact hy
          have hwas : wasOf fs (some (i, k)) = y.b.size := by
            show ((fs.files[fileAt fs (i, k)]?).map fun y => y.b.size).getD 0 = _
            rw [hfa2, hy2]; rfl
          rw [hwas] at hr1
          have hysz : y.b.size ≤ U := HUU.out ▸ hyu
          have hi0 : (0 : Int) ≤ (i : Int) := by omega
          have hic := hled.ic; have hkc := hled.kc; have hnc := hled.nc; have hsm := hled.small; have hc1 := hled.c1; have hc2 := hled.c2; have hcn := hled.cn; have hcf := hled.cf; have hcb := hled.cb; have hfz := hled.fz
          have hi1 : (i : Int) < ((beginFs fs).dirs.length : Int) := by omega
          have hk0 : (0 : Int) ≤ (k : Int) := by omega
          have hk1 : (k : Int) < (d.names.length : Int) := by omega
          have hn0 : (0 : Int) ≤ (n : Int) := by omega
          have hn1 : (n : Int) < ((beginFs fs).files.length : Int) := by omega
          have HVF := Lib.hid hvf
          clear hled hvf
          unfold findVal
          dsimp only
          by_cases hsz : 65536 < b.size
          · rw [if_pos (.inl hsz)] at hr1
            have hfs := HBAD.out (by rw [← hr1]; decide)
            have HFS := Lib.hid hfs
            subst hr1
            clear HBAD HGOOD hfs
            go_wp2_with fail
            go_ret
            exact ⟨rfl, vf, dv, by rw [HFS.out]; exact ho1, Moves.of_gb hg⟩
          · rw [if_neg (by rintro (e | ⟨e, _⟩) <;> first | omega | cases e)] at hr1
            by_cases hsp : (U : Int) - ((y.b.size : Nat) : Int) + b.size > M
            · rw [if_pos hsp] at hr1
              have hfs := HBAD.out (by rw [← hr1]; decide)
              have HFS := Lib.hid hfs
              subst hr1
              have hsp2 : M < (U : Int) - y.b.size + b.size := by omega
              clear HBAD HGOOD hfs
              go_wp2_with fail
              go_quiet (fail)
              obtain ⟨W, hW⟩ : ∃ W, w1.drewN nq = W := ⟨_, rfl⟩
              have hbW : Below w1.heap.size w1 W := by rw [← hW]; exact bl_drewN (Below.refl _ _) _
              rw [hW]
              have hmo2 : W.cell? ⟨p, 0, none⟩ = some (.int .i64 M) := by rw [← hW]; exact hmo
              have HUSW := Lib.hid (HUS.out W hbW)
              clear hW hmo HUS HUS1 hc1 hc2 hcn hcf hcb hfz
              go_wp2_with fail
              go_quiet (first
                | (go_at_call 41; exact HUSW.out _)
                | fail)
              go_wp2_with fail
              go_ret
              exact ⟨rfl, vf, dv, by rw [HFS.out]; exact ho1.below (bl_drewN hbW _), (Moves.of_gb hg).below (bl_drewN hbW _)⟩
            · rw [if_neg hsp] at hr1
              have hfs := HGOOD.out hr1.symm
              rw [hf] at hfs
              dsimp only at hfs
              rw [hfa2, ← beginFs_files fs, mod_set hy] at hfs
              have HFS := Lib.hid hfs
              subst hr1
              have hsp2 : ¬ M < (U : Int) - y.b.size + b.size := by omega
              clear HBAD HGOOD hfs
              go_wp2_with fail
              go_quiet (fail)
              obtain ⟨W, hW⟩ : ∃ W, w1.drewN nq = W := ⟨_, rfl⟩
              have hbW : Below w1.heap.size w1 W := by rw [← hW]; exact bl_drewN (Below.refl _ _) _
              rw [hW]
              have hmo2 : W.cell? ⟨p, 0, none⟩ = some (.int .i64 M) := by rw [← hW]; exact hmo
              have HUSW := Lib.hid (HUS.out W hbW)
              have hd1' : W.cell? ⟨p, 1, none⟩ = some (.slice (some ⟨g, 0, none⟩) (beginFs fs).files.length c) := by rw [← hW]; exact hc1
              have hd2' : W.cell? ⟨p, 2, none⟩ = some (.slice (some ⟨gd, 0, none⟩) (beginFs fs).dirs.length cd) := by rw [← hW]; exact hc2
              have hdn : W.cell? ⟨gd, i * 4 + 1, none⟩ = some (.slice (some ⟨gn, 0, none⟩) d.names.length cn) := by rw [← hW]; exact hcn
              have hdf : W.cell? ⟨gn, k * 2 + 1, none⟩ = some (.int .i64 n) := by rw [← hW]; exact hcf
              have hdb : W.cell? ⟨g, n * 2, none⟩ = some (.string y.b) := by rw [← hW]; exact hcb
              have hdz : W.frozen? ⟨g, n * 2, none⟩ = false := by rw [← hW]; exact hfz
              have htW : ∀ z : World, (∀ g, g < W.heap.size → z.heap[g]? = W.heap[g]?) → (convert 38 9 (.slice A0 b.size c0)).run Tryz.prog z = .ok (.string b) z := fun z hz => HTX.out z fun g cur fr hg' => by
                have hlt := (Array.getElem?_eq_some_iff.1 hg').1
                exact (hz g (Nat.lt_of_lt_of_le hlt hbW.size)).trans (hbW.block g hlt)
              have HTW := Lib.hid htW
              have HSF := Lib.hid (file_set (ho1.below (bl_drewN hbW 0)) HVF.out hy (j := 0) (x' := ⟨b, y.d⟩) (v := .string b) (by decide) rfl)
              clear hW hmo HUS HUS1 hc1 hc2 hcn hcf hcb hfz htW
              go_wp2_with fail
              go_quiet (first
                | (go_at_call 41; exact HUSW.out _)
                | fail)
              go_wp2_with fail
              refine wp_region_mix (fun z => z.cell? ⟨p, 1, none⟩ = some (.slice (some ⟨g, 0, none⟩) (beginFs fs).files.length c) ∧ z.cell? ⟨p, 2, none⟩ = some (.slice (some ⟨gd, 0, none⟩) (beginFs fs).dirs.length cd) ∧ z.cell? ⟨gd, i * 4 + 1, none⟩ = some (.slice (some ⟨gn, 0, none⟩) d.names.length cn) ∧ z.cell? ⟨gn, k * 2 + 1, none⟩ = some (.int .i64 n) ∧ (convert 38 9 (.slice A0 b.size c0)).run Tryz.prog z = .ok (.string b) z) [true, true, true, true, true, true, true, true, true, true, true, true, true, true, true, true, true, true, true, true] _ (by kernel_rfl) rfl (by kernel_rfl) ⟨hd1', hd2', hdn, hdf, HTW.out _ (fun _ _ => rfl)⟩ ?_
              dsimp only [List.dropLast, List.zip, List.zipWith, List.getLast]
              repeat (apply wpMix_free
                      · intro z hz
                        try dsimp only at hz
                        go_simp
                        all_goals with_reducible rfl
                      simp only [Act.put, List.setIfInBounds_toArray, List.set_cons_zero, List.set_cons_succ])
              refine wpMix_end ?_
              go_simp
              go_wp2_with fail
              go_ret
              have hk := HSF.out
              refine ⟨rfl, vf, dv, ?_, ?_⟩
              · rw [HFS.out]
                exact hk.1.below (bl_drewN (Below.refl _ _) _)
              · exact ((Moves.of_gb hg).below hbW).trans (hk.2.below (bl_drewN (Below.refl _ _) _))
  · have hr1 := HR.out
    rw [if_pos hb2] at hr1
    have hfs := HBAD.out (by rw [← hr1]; exact hb2)
    have HFS := Lib.hid hfs
    subst hr1
    clear HR HBAD HGOOD hfs
    go_wp2_with fail
    go_ret
    exact ⟨rfl, vf, dv, by rw [HFS.out]; exact ho1, Moves.of_gb hg⟩
end Go.Proofs.YtdbcjiapbehacaaGreatDoor.Vf
