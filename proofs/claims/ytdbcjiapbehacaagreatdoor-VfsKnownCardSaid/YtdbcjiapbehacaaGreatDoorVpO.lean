/-
  Layer 5: the pair's do: CrashAt and Reboot (written by gen_do2.py).
-/
import Derived.Test.YtdbcjiapbehacaaGreatDoorVpN
namespace Go.Proofs.YtdbcjiapbehacaaGreatDoor.Vp
open Go.RowKit Go.Maps
open Go.Proofs.YtdbcjiapbehacaaGreatDoor.Vf (Hold OwnR Owns Fs FineD Moves ret_int wp_region_perm wpMix_free wpMix_turn wpMix_end permL gb_set)

section
variable {w W : World} {P p pr : Nat} {s : Pf} {l : Loc} {fs : Fs}
/-- The document's count is set. -/
theorem crashG (h : Duo w P p s l pr fs W) (n : Int) (hn : -9223372036854775808 ≤ n ∧ n ≤ 9223372036854775807) : LeftG w P p s l pr { fs with crash := n } W (W.setCell ⟨pr, 4, none⟩ (.int .i64 n)) := by
  obtain ⟨vf, gd, cd, dv, hO, hb⟩ := h.doc
  have hg : W.grownBy (W.setCell ⟨pr, 4, none⟩ (.int .i64 n)) (some pr) := gb_set (World.grownBy.refl W _) 4 _
  have hs := hO.sees.turn fs.down n hn hg (hO.sees.top.set 4 (.int .i64 n))
  exact h.leftG hO hb (hO.turn hs hg rfl rfl) (Moves.of_gb hg)
theorem docCrash (h : Duo w P p s l pr fs W) : W.cell? ⟨pr, 4, none⟩ = some (.int .i64 fs.crash) ∧ W.frozen? ⟨pr, 4, none⟩ = false := by
  obtain ⟨vf, gd, cd, dv, hO, hb⟩ := h.doc
  exact ⟨by rw [hO.sees.top.cell]; rfl, hO.sees.top.frozen 4⟩

set_option maxRecDepth 100000 in
set_option maxHeartbeats 2000000 in
theorem do_crash (o : Op) (hk : o.kind.tmod 11 = 8) (hn : -9223372036854775808 ≤ o.n ∧ o.n ≤ 9223372036854775807) (h : Duo w P p s l pr fs W) :
    Calls Tryz.prog 13 #[.pointer (some ⟨P, 0, none⟩), opV o] W fun e W' => e = .returned (.bool true) ∧ (∃ l', Duo w P p { s with left := max o.n 0 } l' pr { fs with crash := max o.n 0 } W') ∧ Stay W W' := by
  have HF : Hid (∀ V l, Duo w P p s l pr fs V → Calls Tryz.prog 15 #[.pointer (some ⟨p, 0, none⟩), .int .i64 o.n] V fun e V' => (∃ r, e = .returned r) ∧ LeftF w P p { s with left := max o.n 0 } pr fs V V') := Lib.hid fun V l h => crashF h o.n
  have hq : IntKind.u8.wrap 8 = 8 := by kernel_rfl
  obtain ⟨h1, hO, hs1⟩ := box_op h o
  obtain ⟨O, hOe⟩ : ∃ O, W.heap.size = O := ⟨_, rfl⟩
  unfold opV
  clear h
  go_enter Tryz.func13, Tryz.ntmps13
  go_wp2_with fail
  generalize W.alloc (.cells #[.int .u8 o.kind, .string o.a, .string o.b, .int .i64 o.n] 32) = W1 at h1 hO hs1 ⊢
  rw [hOe] at hO
  try rw [hOe]
  have b0 := h1.boxF; have b1 := h1.boxG
  have o3 : W1.cell? ⟨O, 3, none⟩ = some (.int .i64 o.n) := by rw [hO.cell]; rfl
  have H1 := Lib.hid h1; have HO := Lib.hid hO; have HS := Lib.hid hs1
  clear h1 hO hs1
  refine wp_region_perm (fun z => z.cell? ⟨P, 0, none⟩ = some (.pointer (some ⟨p, 0, none⟩)) ∧ z.cell? ⟨P, 1, none⟩ = some (.pointer (some ⟨pr, 0, none⟩)) ∧ z.cell? ⟨O, 3, none⟩ = some (.int .i64 o.n)) [(0, true), (1, true), (2, true), (3, true), (4, true), (5, true)] _ (by kernel_rfl) rfl (by kernel_rfl) (by kernel_rfl) ⟨b0, b1, o3⟩ ?_
  simp only [permL, List.dropLast, List.getElem?_cons_zero, List.getElem?_cons_succ, List.getLast]
  repeat (apply wpMix_free
          · intro z hz
            try dsimp only at hz
            go_simp
            all_goals with_reducible rfl
          simp only [Act.put, List.setIfInBounds_toArray, List.set_cons_zero, List.set_cons_succ])
  refine wpMix_end ?_
  go_simp
  refine (HF.out _ _ (H1.out.keep (Below.refl _ _).drew)).mono ?_
  rintro e V1 ⟨⟨r, rfl⟩, ⟨l1, d1⟩, st1⟩
  have hO1 := st1.hold (W := W1.drew) HO.out (by decide)
  have b0 := d1.boxF; have b1 := d1.boxG
  have o3 : V1.cell? ⟨O, 3, none⟩ = some (.int .i64 o.n) := by rw [hO1.cell]; rfl
  obtain ⟨c4, z4⟩ := docCrash d1
  have hm : max 0 o.n = max o.n 0 := Int.max_comm _ _
  obtain ⟨m, hme⟩ : ∃ m, max o.n 0 = m := ⟨_, rfl⟩
  have hmr : -9223372036854775808 ≤ m ∧ m ≤ 9223372036854775807 := by omega
  have D1 := Lib.hid d1; have ST1 := Lib.hid st1; have HM := Lib.hid hm; have HME := Lib.hid hme
  clear d1 st1 hm hme
  go_wp2_with fail
  refine wp_region_perm (fun z => z.cell? ⟨P, 1, none⟩ = some (.pointer (some ⟨pr, 0, none⟩)) ∧ z.cell? ⟨O, 3, none⟩ = some (.int .i64 o.n)) [(0, true), (1, true), (2, true), (3, true), (4, true), (5, true), (6, false), (7, true), (8, true)] _ (by kernel_rfl) rfl (by kernel_rfl) (by kernel_rfl) ⟨b1, o3⟩ ?_
  simp only [permL, List.dropLast, List.getElem?_cons_zero, List.getElem?_cons_succ, List.getLast]
  repeat (apply wpMix_free
          · intro z hz
            try dsimp only at hz
            go_simp
            all_goals with_reducible rfl
          simp only [Act.put, List.setIfInBounds_toArray, List.set_cons_zero, List.set_cons_succ])
  refine wpMix_turn (fun K hK => ?_)
  have HK := Lib.hid hK; clear hK
  go_simp
  refine HK.out _ _ ⟨b1, o3⟩ ?_
  clear HK
  try simp only [Act.put, List.setIfInBounds_toArray, List.set_cons_zero, List.set_cons_succ]
  repeat (apply wpMix_free
          · intro z hz
            try dsimp only at hz
            go_simp
            all_goals with_reducible rfl
          simp only [Act.put, List.setIfInBounds_toArray, List.set_cons_zero, List.set_cons_succ])
  refine wpMix_end ?_
  go_simp
  go_wp2_with fail
  go_ret
  try rw [HM.out]
  rw [HME.out]
  have hG := crashG (D1.out.keep (Below.refl _ _).drew) m hmr
  exact ⟨rfl, ⟨l1, by rw [HME.out] at hG; exact hG.1⟩, (HS.out.trans (Stay.below (Below.refl _ _).drew)).trans (ST1.out.trans ((Stay.below (Below.refl _ _).drew).trans hG.2))⟩

set_option maxRecDepth 100000 in
set_option maxHeartbeats 2000000 in
theorem do_reboot {T t : Nat} (o : Op) (hk : o.kind.tmod 11 = 9) (h : Duo w P p s l pr fs W) (hf : Fine s T) (hT : T ≤ 100000) (hfd : FineD fs t) (ht : t ≤ 200) :
    Calls Tryz.prog 13 #[.pointer (some ⟨P, 0, none⟩), opV o] W fun e W' => e = .returned (.bool true) ∧ (∃ l', Duo w P p (rebootS s o.n) l' pr (Vf.rebootFs fs o.n) W') ∧ Stay W W' ∧ Fine (rebootS s o.n) T := by
  have HF : Hid (∀ V l, Duo w P p s l pr fs V → Calls Tryz.prog 19 #[.pointer (some ⟨p, 0, none⟩), .int .i64 o.n] V fun e V' => (∃ r, e = .returned r) ∧ LeftF w P p (rebootS s o.n) pr fs V V' ∧ Fine (rebootS s o.n) T) := Lib.hid fun V l h => rebootF h hf hT o.n
  have HG : Hid (∀ V l, Duo w P p (rebootS s o.n) l pr fs V → Calls Tryz.prog 39 #[.pointer (some ⟨pr, 0, none⟩), .int .i64 o.n] V fun e V' => (∃ r, e = .returned r) ∧ LeftG w P p (rebootS s o.n) l pr (Vf.rebootFs fs o.n) V V') := Lib.hid fun V l h => rebootG h hfd ht o.n
  have hq : IntKind.u8.wrap 9 = 9 := by kernel_rfl
  obtain ⟨h1, hO, hs1⟩ := box_op h o
  obtain ⟨O, hOe⟩ : ∃ O, W.heap.size = O := ⟨_, rfl⟩
  unfold opV
  clear h hf hfd
  go_enter Tryz.func13, Tryz.ntmps13
  go_wp2_with fail
  generalize W.alloc (.cells #[.int .u8 o.kind, .string o.a, .string o.b, .int .i64 o.n] 32) = W1 at h1 hO hs1 ⊢
  rw [hOe] at hO
  try rw [hOe]
  have b0 := h1.boxF; have b1 := h1.boxG
  have o3 : W1.cell? ⟨O, 3, none⟩ = some (.int .i64 o.n) := by rw [hO.cell]; rfl
  have H1 := Lib.hid h1; have HO := Lib.hid hO; have HS := Lib.hid hs1
  clear h1 hO hs1
  refine wp_region_perm (fun z => z.cell? ⟨P, 0, none⟩ = some (.pointer (some ⟨p, 0, none⟩)) ∧ z.cell? ⟨P, 1, none⟩ = some (.pointer (some ⟨pr, 0, none⟩)) ∧ z.cell? ⟨O, 3, none⟩ = some (.int .i64 o.n)) [(0, true), (1, true), (2, true), (3, true), (4, true), (5, true)] _ (by kernel_rfl) rfl (by kernel_rfl) (by kernel_rfl) ⟨b0, b1, o3⟩ ?_
  simp only [permL, List.dropLast, List.getElem?_cons_zero, List.getElem?_cons_succ, List.getLast]
  repeat (apply wpMix_free
          · intro z hz
            try dsimp only at hz
            go_simp
            all_goals with_reducible rfl
          simp only [Act.put, List.setIfInBounds_toArray, List.set_cons_zero, List.set_cons_succ])
  refine wpMix_end ?_
  go_simp
  refine (HF.out _ _ (H1.out.keep (Below.refl _ _).drew)).mono ?_
  rintro e V1 ⟨⟨r, rfl⟩, ⟨⟨l1, d1⟩, st1⟩, hfine⟩
  have hO1 := st1.hold (W := W1.drew) HO.out (by decide)
  have b0 := d1.boxF; have b1 := d1.boxG
  have o3 : V1.cell? ⟨O, 3, none⟩ = some (.int .i64 o.n) := by rw [hO1.cell]; rfl
  have D1 := Lib.hid d1; have ST1 := Lib.hid st1; have HFI := Lib.hid hfine
  clear d1 st1 hfine
  go_wp2_with fail
  refine wp_region_perm (fun z => z.cell? ⟨P, 0, none⟩ = some (.pointer (some ⟨p, 0, none⟩)) ∧ z.cell? ⟨P, 1, none⟩ = some (.pointer (some ⟨pr, 0, none⟩)) ∧ z.cell? ⟨O, 3, none⟩ = some (.int .i64 o.n)) [(0, true), (1, true), (2, true), (3, true), (4, true), (5, true)] _ (by kernel_rfl) rfl (by kernel_rfl) (by kernel_rfl) ⟨b0, b1, o3⟩ ?_
  simp only [permL, List.dropLast, List.getElem?_cons_zero, List.getElem?_cons_succ, List.getLast]
  repeat (apply wpMix_free
          · intro z hz
            try dsimp only at hz
            go_simp
            all_goals with_reducible rfl
          simp only [Act.put, List.setIfInBounds_toArray, List.set_cons_zero, List.set_cons_succ])
  refine wpMix_end ?_
  go_simp
  refine (HG.out _ _ (D1.out.keep (Below.refl _ _).drew)).mono ?_
  rintro e V2 ⟨⟨r2, rfl⟩, d2, st2⟩
  have D2 := Lib.hid d2; have ST2 := Lib.hid st2
  clear d2 st2
  go_wp2_with fail
  go_ret
  exact ⟨rfl, ⟨l1, D2.out⟩, (HS.out.trans (Stay.below (Below.refl _ _).drew)).trans (ST1.out.trans ((Stay.below (Below.refl _ _).drew).trans ST2.out)), HFI.out⟩
end
end Go.Proofs.YtdbcjiapbehacaaGreatDoor.Vp
