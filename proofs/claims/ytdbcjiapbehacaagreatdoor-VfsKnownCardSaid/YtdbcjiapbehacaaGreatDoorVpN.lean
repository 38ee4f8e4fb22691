/-
  Layer 5: the pair's do: kinds of two calls whose answers are compared (written by gen_do.py).
-/
import Derived.Test.YtdbcjiapbehacaaGreatDoorVpM
namespace Go.Proofs.YtdbcjiapbehacaaGreatDoor.Vp
open Go.RowKit Go.Maps
open Go.Proofs.YtdbcjiapbehacaaGreatDoor.Vf (Hold OwnR Owns Fs FineD Moves ret_int wp_region_perm wpMix_free wpMix_turn wpMix_end permL)

def opCells (o : Op) : List Value := [.int .u8 o.kind, .string o.a, .string o.b, .int .i64 o.n]
def opV (o : Op) : Value := .agg #[.int .u8 o.kind, .string o.a, .string o.b, .int .i64 o.n]
theorem ret_bool {a b : Bool} (h : a = b) : Ending.returned (.bool a) = .returned (.bool b) := by rw [h]
section
variable {w W : World} {P p pr : Nat} {s : Pf} {l : Loc} {fs : Fs}
theorem box_op (h : Duo w P p s l pr fs W) (o : Op) : Duo w P p s l pr fs (W.alloc (.cells #[.int .u8 o.kind, .string o.a, .string o.b, .int .i64 o.n] 32)) ∧ Hold (W.alloc (.cells #[.int .u8 o.kind, .string o.a, .string o.b, .int .i64 o.n] 32)) W.heap.size 32 (opCells o) ∧ Stay W (W.alloc (.cells #[.int .u8 o.kind, .string o.a, .string o.b, .int .i64 o.n] 32)) := by
  have hb : Below W.heap.size W (W.alloc (.cells #[.int .u8 o.kind, .string o.a, .string o.b, .int .i64 o.n] 32)) := (Below.refl _ _).alloc (Nat.le_refl _) _
  exact ⟨h.keep hb, heap_alloc_new W _, Stay.below hb⟩

set_option maxRecDepth 100000 in
set_option maxHeartbeats 2000000 in
theorem do_mkdir {T t : Nat} (o : Op) (hk : o.kind.tmod 11 = 0) (ha : okS o.a) (h : Duo w P p s l pr fs W) (hf : Fine s T) (hfd : FineD fs t) (ht : t ≤ 200) :
    Calls Tryz.prog 13 #[.pointer (some ⟨P, 0, none⟩), opV o] W fun e W' => e = .returned (.bool (decide (mkdirRes s o.a = Vf.mkdirRes fs o.a))) ∧ (∃ l', Duo w P p (mkdirS s o.a) l' pr (Vf.mkdirFs fs o.a) W') ∧ Stay W W' := by
  obtain ⟨R, hR⟩ : ∃ R, mkdirRes s o.a = R := ⟨_, rfl⟩
  obtain ⟨Q, hQ⟩ : ∃ Q, Vf.mkdirRes fs o.a = Q := ⟨_, rfl⟩
  have HF : Hid (∀ V l, Duo w P p s l pr fs V → Calls Tryz.prog 23 #[.pointer (some ⟨p, 0, none⟩), .string o.a] V fun e V' => e = .returned (.int .i64 R) ∧ LeftF w P p (mkdirS s o.a) pr fs V V') := Lib.hid fun V l h => by have := mkdirF h hf o.a ha; rwa [hR] at this
  have HG : Hid (∀ V l, Duo w P p (mkdirS s o.a) l pr fs V → Calls Tryz.prog 30 #[.pointer (some ⟨pr, 0, none⟩), .string o.a] V fun e V' => e = .returned (.int .i64 Q) ∧ LeftG w P p (mkdirS s o.a) l pr (Vf.mkdirFs fs o.a) V V') := Lib.hid fun V l h => by have := mkdirG h hfd ht o.a ha; rwa [hQ] at this
  rw [hR, hQ]
  have hq : IntKind.u8.wrap 0 = 0 := by kernel_rfl
  obtain ⟨h1, hO, hs1⟩ := box_op h o
  obtain ⟨O, hOe⟩ : ∃ O, W.heap.size = O := ⟨_, rfl⟩
  unfold opV
  clear h hf hfd hR hQ
  go_enter Tryz.func13, Tryz.ntmps13
  go_wp2_with fail
  generalize W.alloc (.cells #[.int .u8 o.kind, .string o.a, .string o.b, .int .i64 o.n] 32) = W1 at h1 hO hs1 ⊢
  rw [hOe] at hO
  try rw [hOe]
  have b0 := h1.boxF; have b1 := h1.boxG
  have o1 : W1.cell? ⟨O, 1, none⟩ = some (.string o.a) := by rw [hO.cell]; rfl
  have o2 : W1.cell? ⟨O, 2, none⟩ = some (.string o.b) := by rw [hO.cell]; rfl
  have H1 := Lib.hid h1; have HO := Lib.hid hO; have HS := Lib.hid hs1
  clear h1 hO hs1
  refine wp_region_perm (fun z => z.cell? ⟨P, 0, none⟩ = some (.pointer (some ⟨p, 0, none⟩)) ∧ z.cell? ⟨P, 1, none⟩ = some (.pointer (some ⟨pr, 0, none⟩)) ∧ z.cell? ⟨O, 1, none⟩ = some (.string o.a) ∧ z.cell? ⟨O, 2, none⟩ = some (.string o.b)) [(0, true), (1, true), (2, true), (3, true), (4, true), (5, true), (7, true), (8, true), (9, true), (10, true), (11, true), (12, true), (6, false), (13, false), (14, true)] _ (by kernel_rfl) rfl (by kernel_rfl) (by kernel_rfl) ⟨b0, b1, o1, o2⟩ ?_
  simp only [permL, List.dropLast, List.getElem?_cons_zero, List.getElem?_cons_succ, List.getLast]
  repeat (apply wpMix_free
          · intro z hz
            try dsimp only at hz
            go_simp
            all_goals with_reducible rfl
          simp only [Act.put, List.setIfInBounds_toArray, List.set_cons_zero, List.set_cons_succ])
  refine wpMix_turn (fun K hK => ?_)
  have HK := Lib.hid hK; clear hK
  go_simp
  refine (HF.out _ _ (H1.out.keep (Below.refl _ _).drew)).mono ?_
  rintro e V1 ⟨rfl, ⟨l1, d1⟩, st1⟩
  have hO1 := st1.hold (W := W1.drew) HO.out (by decide)
  refine HK.out _ _ ⟨d1.boxF, d1.boxG, by rw [hO1.cell]; rfl, by rw [hO1.cell]; rfl⟩ ?_
  clear HK
  have D1 := Lib.hid d1; have ST1 := Lib.hid st1
  clear d1 st1
  try simp only [Act.put, List.setIfInBounds_toArray, List.set_cons_zero, List.set_cons_succ]
  refine wpMix_turn (fun K hK => ?_)
  have HK := Lib.hid hK; clear hK
  go_simp
  refine (HG.out _ _ D1.out).mono ?_
  rintro e V2 ⟨rfl, d2, st2⟩
  have hO2 := st2.hold hO1 (by decide)
  refine HK.out _ _ ⟨d2.boxF, d2.boxG, by rw [hO2.cell]; rfl, by rw [hO2.cell]; rfl⟩ ?_
  clear HK
  have D2 := Lib.hid d2; have ST2 := Lib.hid st2
  clear d2 st2
  try simp only [Act.put, List.setIfInBounds_toArray, List.set_cons_zero, List.set_cons_succ]
  repeat (apply wpMix_free
          · intro z hz
            try dsimp only at hz
            go_simp
            all_goals with_reducible rfl
          simp only [Act.put, List.setIfInBounds_toArray, List.set_cons_zero, List.set_cons_succ])
  refine wpMix_end ?_
  go_simp
  go_wp2_with fail
  go_ret
  exact ⟨rfl, ⟨l1, D2.out⟩, (HS.out.trans (Stay.below (Below.refl _ _).drew)).trans (ST1.out.trans ST2.out)⟩

set_option maxRecDepth 100000 in
set_option maxHeartbeats 2000000 in
theorem do_sync {T t : Nat} (o : Op) (hk : o.kind.tmod 11 = 2) (ha : okS o.a) (h : Duo w P p s l pr fs W) (hf : Fine s T) (hfd : FineD fs t) (ht : t ≤ 200) :
    Calls Tryz.prog 13 #[.pointer (some ⟨P, 0, none⟩), opV o] W fun e W' => e = .returned (.bool (decide ((findRes s o.a).2 = (Vf.fileRes fs o.a).2))) ∧ (∃ l', Duo w P p (syncS s o.a) l' pr (Vf.syncFs fs o.a) W') ∧ Stay W W' := by
  obtain ⟨R, hR⟩ : ∃ R, (findRes s o.a).2 = R := ⟨_, rfl⟩
  obtain ⟨Q, hQ⟩ : ∃ Q, (Vf.fileRes fs o.a).2 = Q := ⟨_, rfl⟩
  have HF : Hid (∀ V l, Duo w P p s l pr fs V → Calls Tryz.prog 17 #[.pointer (some ⟨p, 0, none⟩), .string o.a] V fun e V' => e = .returned (.int .i64 R) ∧ LeftF w P p (syncS s o.a) pr fs V V') := Lib.hid fun V l h => by have := syncF h hf o.a ha; rwa [hR] at this
  have HG : Hid (∀ V l, Duo w P p (syncS s o.a) l pr fs V → Calls Tryz.prog 32 #[.pointer (some ⟨pr, 0, none⟩), .string o.a] V fun e V' => e = .returned (.int .i64 Q) ∧ LeftG w P p (syncS s o.a) l pr (Vf.syncFs fs o.a) V V') := Lib.hid fun V l h => by have := syncG h hfd ht o.a ha; rwa [hQ] at this
  rw [hR, hQ]
  have hq : IntKind.u8.wrap 2 = 2 := by kernel_rfl
  obtain ⟨h1, hO, hs1⟩ := box_op h o
  obtain ⟨O, hOe⟩ : ∃ O, W.heap.size = O := ⟨_, rfl⟩
  unfold opV
  clear h hf hfd hR hQ
  go_enter Tryz.func13, Tryz.ntmps13
  go_wp2_with fail
  generalize W.alloc (.cells #[.int .u8 o.kind, .string o.a, .string o.b, .int .i64 o.n] 32) = W1 at h1 hO hs1 ⊢
  rw [hOe] at hO
  try rw [hOe]
  have b0 := h1.boxF; have b1 := h1.boxG
  have o1 : W1.cell? ⟨O, 1, none⟩ = some (.string o.a) := by rw [hO.cell]; rfl
  have o2 : W1.cell? ⟨O, 2, none⟩ = some (.string o.b) := by rw [hO.cell]; rfl
  have H1 := Lib.hid h1; have HO := Lib.hid hO; have HS := Lib.hid hs1
  clear h1 hO hs1
  refine wp_region_perm (fun z => z.cell? ⟨P, 0, none⟩ = some (.pointer (some ⟨p, 0, none⟩)) ∧ z.cell? ⟨P, 1, none⟩ = some (.pointer (some ⟨pr, 0, none⟩)) ∧ z.cell? ⟨O, 1, none⟩ = some (.string o.a) ∧ z.cell? ⟨O, 2, none⟩ = some (.string o.b)) [(0, true), (1, true), (2, true), (3, true), (4, true), (5, true), (7, true), (8, true), (9, true), (10, true), (11, true), (12, true), (6, false), (13, false), (14, true)] _ (by kernel_rfl) rfl (by kernel_rfl) (by kernel_rfl) ⟨b0, b1, o1, o2⟩ ?_
  simp only [permL, List.dropLast, List.getElem?_cons_zero, List.getElem?_cons_succ, List.getLast]
  repeat (apply wpMix_free
          · intro z hz
            try dsimp only at hz
            go_simp
            all_goals with_reducible rfl
          simp only [Act.put, List.setIfInBounds_toArray, List.set_cons_zero, List.set_cons_succ])
  refine wpMix_turn (fun K hK => ?_)
  have HK := Lib.hid hK; clear hK
  go_simp
  refine (HF.out _ _ (H1.out.keep (Below.refl _ _).drew)).mono ?_
  rintro e V1 ⟨rfl, ⟨l1, d1⟩, st1⟩
  have hO1 := st1.hold (W := W1.drew) HO.out (by decide)
  refine HK.out _ _ ⟨d1.boxF, d1.boxG, by rw [hO1.cell]; rfl, by rw [hO1.cell]; rfl⟩ ?_
  clear HK
  have D1 := Lib.hid d1; have ST1 := Lib.hid st1
  clear d1 st1
  try simp only [Act.put, List.setIfInBounds_toArray, List.set_cons_zero, List.set_cons_succ]
  refine wpMix_turn (fun K hK => ?_)
  have HK := Lib.hid hK; clear hK
  go_simp
  refine (HG.out _ _ D1.out).mono ?_
  rintro e V2 ⟨rfl, d2, st2⟩
  have hO2 := st2.hold hO1 (by decide)
  refine HK.out _ _ ⟨d2.boxF, d2.boxG, by rw [hO2.cell]; rfl, by rw [hO2.cell]; rfl⟩ ?_
  clear HK
  have D2 := Lib.hid d2; have ST2 := Lib.hid st2
  clear d2 st2
  try simp only [Act.put, List.setIfInBounds_toArray, List.set_cons_zero, List.set_cons_succ]
  repeat (apply wpMix_free
          · intro z hz
            try dsimp only at hz
            go_simp
            all_goals with_reducible rfl
          simp only [Act.put, List.setIfInBounds_toArray, List.set_cons_zero, List.set_cons_succ])
  refine wpMix_end ?_
  go_simp
  go_wp2_with fail
  go_ret
  exact ⟨rfl, ⟨l1, D2.out⟩, (HS.out.trans (Stay.below (Below.refl _ _).drew)).trans (ST1.out.trans ST2.out)⟩

set_option maxRecDepth 100000 in
set_option maxHeartbeats 2000000 in
theorem do_syncDir {T t : Nat} (o : Op) (hk : o.kind.tmod 11 = 3) (ha : okS o.a) (h : Duo w P p s l pr fs W) (hf : Fine s T) (hT : T ≤ 100000) (hfd : FineD fs t) (ht : t ≤ 200) :
    Calls Tryz.prog 13 #[.pointer (some ⟨P, 0, none⟩), opV o] W fun e W' => e = .returned (.bool (decide (findDirRes s o.a = (Vf.dirRes fs o.a).2))) ∧ (∃ l', Duo w P p (syncDirS s o.a) l' pr (Vf.syncDirFs fs o.a) W') ∧ Stay W W' := by
  obtain ⟨R, hR⟩ : ∃ R, findDirRes s o.a = R := ⟨_, rfl⟩
  obtain ⟨Q, hQ⟩ : ∃ Q, (Vf.dirRes fs o.a).2 = Q := ⟨_, rfl⟩
  have HF : Hid (∀ V l, Duo w P p s l pr fs V → Calls Tryz.prog 18 #[.pointer (some ⟨p, 0, none⟩), .string o.a] V fun e V' => e = .returned (.int .i64 R) ∧ LeftF w P p (syncDirS s o.a) pr fs V V') := Lib.hid fun V l h => by have := syncDirF h hf hT o.a ha; rwa [hR] at this
  have HG : Hid (∀ V l, Duo w P p (syncDirS s o.a) l pr fs V → Calls Tryz.prog 33 #[.pointer (some ⟨pr, 0, none⟩), .string o.a] V fun e V' => e = .returned (.int .i64 Q) ∧ LeftG w P p (syncDirS s o.a) l pr (Vf.syncDirFs fs o.a) V V') := Lib.hid fun V l h => by have := syncDirG h hfd ht o.a ha; rwa [hQ] at this
  rw [hR, hQ]
  have hq : IntKind.u8.wrap 3 = 3 := by kernel_rfl
  obtain ⟨h1, hO, hs1⟩ := box_op h o
  obtain ⟨O, hOe⟩ : ∃ O, W.heap.size = O := ⟨_, rfl⟩
  unfold opV
  clear h hf hfd hR hQ
  go_enter Tryz.func13, Tryz.ntmps13
  go_wp2_with fail
  generalize W.alloc (.cells #[.int .u8 o.kind, .string o.a, .string o.b, .int .i64 o.n] 32) = W1 at h1 hO hs1 ⊢
  rw [hOe] at hO
  try rw [hOe]
  have b0 := h1.boxF; have b1 := h1.boxG
  have o1 : W1.cell? ⟨O, 1, none⟩ = some (.string o.a) := by rw [hO.cell]; rfl
  have o2 : W1.cell? ⟨O, 2, none⟩ = some (.string o.b) := by rw [hO.cell]; rfl
  have H1 := Lib.hid h1; have HO := Lib.hid hO; have HS := Lib.hid hs1
  clear h1 hO hs1
  refine wp_region_perm (fun z => z.cell? ⟨P, 0, none⟩ = some (.pointer (some ⟨p, 0, none⟩)) ∧ z.cell? ⟨P, 1, none⟩ = some (.pointer (some ⟨pr, 0, none⟩)) ∧ z.cell? ⟨O, 1, none⟩ = some (.string o.a) ∧ z.cell? ⟨O, 2, none⟩ = some (.string o.b)) [(0, true), (1, true), (2, true), (3, true), (4, true), (5, true), (7, true), (8, true), (9, true), (10, true), (11, true), (12, true), (6, false), (13, false), (14, true)] _ (by kernel_rfl) rfl (by kernel_rfl) (by kernel_rfl) ⟨b0, b1, o1, o2⟩ ?_
  simp only [permL, List.dropLast, List.getElem?_cons_zero, List.getElem?_cons_succ, List.getLast]
  repeat (apply wpMix_free
          · intro z hz
            try dsimp only at hz
            go_simp
            all_goals with_reducible rfl
          simp only [Act.put, List.setIfInBounds_toArray, List.set_cons_zero, List.set_cons_succ])
  refine wpMix_turn (fun K hK => ?_)
  have HK := Lib.hid hK; clear hK
  go_simp
  refine (HF.out _ _ (H1.out.keep (Below.refl _ _).drew)).mono ?_
  rintro e V1 ⟨rfl, ⟨l1, d1⟩, st1⟩
  have hO1 := st1.hold (W := W1.drew) HO.out (by decide)
  refine HK.out _ _ ⟨d1.boxF, d1.boxG, by rw [hO1.cell]; rfl, by rw [hO1.cell]; rfl⟩ ?_
  clear HK
  have D1 := Lib.hid d1; have ST1 := Lib.hid st1
  clear d1 st1
  try simp only [Act.put, List.setIfInBounds_toArray, List.set_cons_zero, List.set_cons_succ]
  refine wpMix_turn (fun K hK => ?_)
  have HK := Lib.hid hK; clear hK
  go_simp
  refine (HG.out _ _ D1.out).mono ?_
  rintro e V2 ⟨rfl, d2, st2⟩
  have hO2 := st2.hold hO1 (by decide)
  refine HK.out _ _ ⟨d2.boxF, d2.boxG, by rw [hO2.cell]; rfl, by rw [hO2.cell]; rfl⟩ ?_
  clear HK
  have D2 := Lib.hid d2; have ST2 := Lib.hid st2
  clear d2 st2
  try simp only [Act.put, List.setIfInBounds_toArray, List.set_cons_zero, List.set_cons_succ]
  repeat (apply wpMix_free
          · intro z hz
            try dsimp only at hz
            go_simp
            all_goals with_reducible rfl
          simp only [Act.put, List.setIfInBounds_toArray, List.set_cons_zero, List.set_cons_succ])
  refine wpMix_end ?_
  go_simp
  go_wp2_with fail
  go_ret
  exact ⟨rfl, ⟨l1, D2.out⟩, (HS.out.trans (Stay.below (Below.refl _ _).drew)).trans (ST1.out.trans ST2.out)⟩

set_option maxRecDepth 100000 in
set_option maxHeartbeats 2000000 in
theorem do_rename {T t : Nat} (o : Op) (hk : o.kind.tmod 11 = 4) (ha : okS o.a) (hb : okS o.b) (h : Duo w P p s l pr fs W) (hf : Fine s T) (hT : T ≤ 100000) (hfd : FineD fs t) (ht : t ≤ 200) :
    Calls Tryz.prog 13 #[.pointer (some ⟨P, 0, none⟩), opV o] W fun e W' => e = .returned (.bool (decide (renameRes s o.a o.b = Vf.renameRes fs o.a o.b))) ∧ (∃ l', Duo w P p (renameS s o.a o.b) l' pr (Vf.renameFs fs o.a o.b) W') ∧ Stay W W' := by
  obtain ⟨R, hR⟩ : ∃ R, renameRes s o.a o.b = R := ⟨_, rfl⟩
  obtain ⟨Q, hQ⟩ : ∃ Q, Vf.renameRes fs o.a o.b = Q := ⟨_, rfl⟩
  have HF : Hid (∀ V l, Duo w P p s l pr fs V → Calls Tryz.prog 21 #[.pointer (some ⟨p, 0, none⟩), .string o.a, .string o.b] V fun e V' => e = .returned (.int .i64 R) ∧ LeftF w P p (renameS s o.a o.b) pr fs V V') := Lib.hid fun V l h => by have := renameF h hf hT o.a o.b ha hb; rwa [hR] at this
  have HG : Hid (∀ V l, Duo w P p (renameS s o.a o.b) l pr fs V → Calls Tryz.prog 34 #[.pointer (some ⟨pr, 0, none⟩), .string o.a, .string o.b] V fun e V' => e = .returned (.int .i64 Q) ∧ LeftG w P p (renameS s o.a o.b) l pr (Vf.renameFs fs o.a o.b) V V') := Lib.hid fun V l h => by have := renameG h hfd ht o.a o.b ha hb; rwa [hQ] at this
  rw [hR, hQ]
  have hq : IntKind.u8.wrap 4 = 4 := by kernel_rfl
  obtain ⟨h1, hO, hs1⟩ := box_op h o
  obtain ⟨O, hOe⟩ : ∃ O, W.heap.size = O := ⟨_, rfl⟩
  unfold opV
  clear h hf hfd hR hQ
  go_enter Tryz.func13, Tryz.ntmps13
  go_wp2_with fail
  generalize W.alloc (.cells #[.int .u8 o.kind, .string o.a, .string o.b, .int .i64 o.n] 32) = W1 at h1 hO hs1 ⊢
  rw [hOe] at hO
  try rw [hOe]
  have b0 := h1.boxF; have b1 := h1.boxG
  have o1 : W1.cell? ⟨O, 1, none⟩ = some (.string o.a) := by rw [hO.cell]; rfl
  have o2 : W1.cell? ⟨O, 2, none⟩ = some (.string o.b) := by rw [hO.cell]; rfl
  have H1 := Lib.hid h1; have HO := Lib.hid hO; have HS := Lib.hid hs1
  clear h1 hO hs1
  refine wp_region_perm (fun z => z.cell? ⟨P, 0, none⟩ = some (.pointer (some ⟨p, 0, none⟩)) ∧ z.cell? ⟨P, 1, none⟩ = some (.pointer (some ⟨pr, 0, none⟩)) ∧ z.cell? ⟨O, 1, none⟩ = some (.string o.a) ∧ z.cell? ⟨O, 2, none⟩ = some (.string o.b)) [(0, true), (1, true), (2, true), (3, true), (4, true), (5, true), (6, true), (7, true), (9, true), (10, true), (11, true), (12, true), (13, true), (14, true), (15, true), (16, true), (8, false), (17, false), (18, true)] _ (by kernel_rfl) rfl (by kernel_rfl) (by kernel_rfl) ⟨b0, b1, o1, o2⟩ ?_
  simp only [permL, List.dropLast, List.getElem?_cons_zero, List.getElem?_cons_succ, List.getLast]
  repeat (apply wpMix_free
          · intro z hz
            try dsimp only at hz
            go_simp
            all_goals with_reducible rfl
          simp only [Act.put, List.setIfInBounds_toArray, List.set_cons_zero, List.set_cons_succ])
  refine wpMix_turn (fun K hK => ?_)
  have HK := Lib.hid hK; clear hK
  go_simp
  refine (HF.out _ _ (H1.out.keep (Below.refl _ _).drew)).mono ?_
  rintro e V1 ⟨rfl, ⟨l1, d1⟩, st1⟩
  have hO1 := st1.hold (W := W1.drew) HO.out (by decide)
  refine HK.out _ _ ⟨d1.boxF, d1.boxG, by rw [hO1.cell]; rfl, by rw [hO1.cell]; rfl⟩ ?_
  clear HK
  have D1 := Lib.hid d1; have ST1 := Lib.hid st1
  clear d1 st1
  try simp only [Act.put, List.setIfInBounds_toArray, List.set_cons_zero, List.set_cons_succ]
  refine wpMix_turn (fun K hK => ?_)
  have HK := Lib.hid hK; clear hK
  go_simp
  refine (HG.out _ _ D1.out).mono ?_
  rintro e V2 ⟨rfl, d2, st2⟩
  have hO2 := st2.hold hO1 (by decide)
  refine HK.out _ _ ⟨d2.boxF, d2.boxG, by rw [hO2.cell]; rfl, by rw [hO2.cell]; rfl⟩ ?_
  clear HK
  have D2 := Lib.hid d2; have ST2 := Lib.hid st2
  clear d2 st2
  try simp only [Act.put, List.setIfInBounds_toArray, List.set_cons_zero, List.set_cons_succ]
  repeat (apply wpMix_free
          · intro z hz
            try dsimp only at hz
            go_simp
            all_goals with_reducible rfl
          simp only [Act.put, List.setIfInBounds_toArray, List.set_cons_zero, List.set_cons_succ])
  refine wpMix_end ?_
  go_simp
  go_wp2_with fail
  go_ret
  exact ⟨rfl, ⟨l1, D2.out⟩, (HS.out.trans (Stay.below (Below.refl _ _).drew)).trans (ST1.out.trans ST2.out)⟩

set_option maxRecDepth 100000 in
set_option maxHeartbeats 2000000 in
theorem do_remove {T t : Nat} (o : Op) (hk : o.kind.tmod 11 = 5) (ha : okS o.a) (h : Duo w P p s l pr fs W) (hf : Fine s T) (hT : T ≤ 100000) (hfd : FineD fs t) (ht : t ≤ 200) :
    Calls Tryz.prog 13 #[.pointer (some ⟨P, 0, none⟩), opV o] W fun e W' => e = .returned (.bool (decide ((findRes s o.a).2 = Vf.removeRes fs o.a))) ∧ (∃ l', Duo w P p (removeS s o.a) l' pr (Vf.removeFs fs o.a) W') ∧ Stay W W' := by
  obtain ⟨R, hR⟩ : ∃ R, (findRes s o.a).2 = R := ⟨_, rfl⟩
  obtain ⟨Q, hQ⟩ : ∃ Q, Vf.removeRes fs o.a = Q := ⟨_, rfl⟩
  have HF : Hid (∀ V l, Duo w P p s l pr fs V → Calls Tryz.prog 27 #[.pointer (some ⟨p, 0, none⟩), .string o.a] V fun e V' => e = .returned (.int .i64 R) ∧ LeftF w P p (removeS s o.a) pr fs V V') := Lib.hid fun V l h => by have := removeF h hf hT o.a ha; rwa [hR] at this
  have HG : Hid (∀ V l, Duo w P p (removeS s o.a) l pr fs V → Calls Tryz.prog 35 #[.pointer (some ⟨pr, 0, none⟩), .string o.a] V fun e V' => e = .returned (.int .i64 Q) ∧ LeftG w P p (removeS s o.a) l pr (Vf.removeFs fs o.a) V V') := Lib.hid fun V l h => by have := removeG h hfd ht o.a ha; rwa [hQ] at this
  rw [hR, hQ]
  have hq : IntKind.u8.wrap 5 = 5 := by kernel_rfl
  obtain ⟨h1, hO, hs1⟩ := box_op h o
  obtain ⟨O, hOe⟩ : ∃ O, W.heap.size = O := ⟨_, rfl⟩
  unfold opV
  clear h hf hfd hR hQ
  go_enter Tryz.func13, Tryz.ntmps13
  go_wp2_with fail
  generalize W.alloc (.cells #[.int .u8 o.kind, .string o.a, .string o.b, .int .i64 o.n] 32) = W1 at h1 hO hs1 ⊢
  rw [hOe] at hO
  try rw [hOe]
  have b0 := h1.boxF; have b1 := h1.boxG
  have o1 : W1.cell? ⟨O, 1, none⟩ = some (.string o.a) := by rw [hO.cell]; rfl
  have o2 : W1.cell? ⟨O, 2, none⟩ = some (.string o.b) := by rw [hO.cell]; rfl
  have H1 := Lib.hid h1; have HO := Lib.hid hO; have HS := Lib.hid hs1
  clear h1 hO hs1
  refine wp_region_perm (fun z => z.cell? ⟨P, 0, none⟩ = some (.pointer (some ⟨p, 0, none⟩)) ∧ z.cell? ⟨P, 1, none⟩ = some (.pointer (some ⟨pr, 0, none⟩)) ∧ z.cell? ⟨O, 1, none⟩ = some (.string o.a) ∧ z.cell? ⟨O, 2, none⟩ = some (.string o.b)) [(0, true), (1, true), (2, true), (3, true), (4, true), (5, true), (7, true), (8, true), (9, true), (10, true), (11, true), (12, true), (6, false), (13, false), (14, true)] _ (by kernel_rfl) rfl (by kernel_rfl) (by kernel_rfl) ⟨b0, b1, o1, o2⟩ ?_
  simp only [permL, List.dropLast, List.getElem?_cons_zero, List.getElem?_cons_succ, List.getLast]
  repeat (apply wpMix_free
          · intro z hz
            try dsimp only at hz
            go_simp
            all_goals with_reducible rfl
          simp only [Act.put, List.setIfInBounds_toArray, List.set_cons_zero, List.set_cons_succ])
  refine wpMix_turn (fun K hK => ?_)
  have HK := Lib.hid hK; clear hK
  go_simp
  refine (HF.out _ _ (H1.out.keep (Below.refl _ _).drew)).mono ?_
  rintro e V1 ⟨rfl, ⟨l1, d1⟩, st1⟩
  have hO1 := st1.hold (W := W1.drew) HO.out (by decide)
  refine HK.out _ _ ⟨d1.boxF, d1.boxG, by rw [hO1.cell]; rfl, by rw [hO1.cell]; rfl⟩ ?_
  clear HK
  have D1 := Lib.hid d1; have ST1 := Lib.hid st1
  clear d1 st1
  try simp only [Act.put, List.setIfInBounds_toArray, List.set_cons_zero, List.set_cons_succ]
  refine wpMix_turn (fun K hK => ?_)
  have HK := Lib.hid hK; clear hK
  go_simp
  refine (HG.out _ _ D1.out).mono ?_
  rintro e V2 ⟨rfl, d2, st2⟩
  have hO2 := st2.hold hO1 (by decide)
  refine HK.out _ _ ⟨d2.boxF, d2.boxG, by rw [hO2.cell]; rfl, by rw [hO2.cell]; rfl⟩ ?_
  clear HK
  have D2 := Lib.hid d2; have ST2 := Lib.hid st2
  clear d2 st2
  try simp only [Act.put, List.setIfInBounds_toArray, List.set_cons_zero, List.set_cons_succ]
  repeat (apply wpMix_free
          · intro z hz
            try dsimp only at hz
            go_simp
            all_goals with_reducible rfl
          simp only [Act.put, List.setIfInBounds_toArray, List.set_cons_zero, List.set_cons_succ])
  refine wpMix_end ?_
  go_simp
  go_wp2_with fail
  go_ret
  exact ⟨rfl, ⟨l1, D2.out⟩, (HS.out.trans (Stay.below (Below.refl _ _).drew)).trans (ST1.out.trans ST2.out)⟩
end
end Go.Proofs.YtdbcjiapbehacaaGreatDoor.Vp
