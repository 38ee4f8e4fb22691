/-
  Layer 5: the pair's do: Read.
-/
import Derived.Test.YtdbcjiapbehacaaGreatDoorVpQ
import Derived.Deep.QuietTactic
import Derived.BigQuiet
namespace Go.Proofs.YtdbcjiapbehacaaGreatDoor.Vp
open Go.RowKit Go.Maps
open Go.Proofs.YtdbcjiapbehacaaGreatDoor.Vf (Hold OwnR Owns Fs FineD Moves ret_int wpMixG_free wpMixG_turn wpMixG_end permL Reads Reads.at_ Reads.len OwnR.reads bl_drewN)

section
variable {w W V V' : World} {P p pr g n B : Nat} {s : Pf} {l : Loc} {fs : Fs}
/-- What is read: of none, nothing. -/
def readX (s : Pf) (path : ByteArray) : ByteArray := if (findRes s path).2 = 0 then readB s path else ⟨#[]⟩
theorem readX_size {T : Nat} (hf : Fits s T) (path : ByteArray) : (readX s path).size ≤ 1048576 := by
  unfold readX
  split
  · unfold readB
    cases h : (findRes s path).1 with
    | none => exact Nat.zero_le _
    | some i =>
      have hl : Live s i := by
        have e : fileOf s path = some i := by
          unfold findRes at h
          split at h
          · cases h
          · split at h
            · cases h
            · cases he : fileOf s path with
              | none => rw [he] at h; cases h
              | some j => rw [he] at h; exact h
        exact .inl ⟨_, look_mem e, rfl⟩
      have := (hf.files i hl).1
      show (s.files i).c.size ≤ _
      omega
  · exact Nat.zero_le _
theorem readF2 {T : Nat} (h : Duo w P p s l pr fs W) (hf : Fine s T) (path : ByteArray) (ho : okS path) :
    Calls Tryz.prog 20 #[.pointer (some ⟨p, 0, none⟩), .string path] W fun e W' => (∃ A c, e = .returned (.tuple #[.slice A (readX s path).size c, .int .i64 (findRes s path).2]) ∧ BytesAt W' (.slice A (readX s path).size c) (readX s path) ∧ ((readX s path).size = 0 ∨ ∃ g, A = some ⟨g, 0, none⟩ ∧ BRow W' g (readX s path).size W.heap.size)) ∧ LeftF w P p (tickS s) pr fs W W' := by
  refine (readF h hf path ho).mono ?_
  rintro e W' ⟨⟨v, he, hv⟩, hL⟩
  refine ⟨?_, hL⟩
  unfold readX
  rcases hv with ⟨h0, rfl⟩ | ⟨h0, hb⟩
  · rw [if_neg h0]
    exact ⟨none, 0, he, ⟨none, 0, rfl, .inl rfl⟩, .inl rfl⟩
  · rw [if_pos h0]
    have hb2 := hb.bytes
    obtain ⟨g, c, m, rfl, hg, hh⟩ := hb
    exact ⟨_, c, he, hb2, .inr ⟨g, rfl, brow_new hh hg⟩⟩
set_option maxRecDepth 100000 in
set_option maxHeartbeats 4000000 in
theorem do_read {T t : Nat} (o : Op) (hk : o.kind.tmod 11 = 6) (ha : okS o.a) (h : Duo w P p s l pr fs W) (hf : Fine s T) (hfd : FineD fs t) (ht : t ≤ 200) :
    Calls Tryz.prog 13 #[.pointer (some ⟨P, 0, none⟩), opV o] W fun e W' => e = .returned (.bool (decide ((findRes s o.a).2 = (Vf.readRes fs o.a).2) && ((readX s o.a).toList == (Vf.readRes fs o.a).1.toList))) ∧ (∃ l', Duo w P p (tickS s) l' pr (Vf.beginFs fs) W') ∧ Stay W W' := by
  have hX := readX_size hf.fits o.a
  obtain ⟨R, hR⟩ : ∃ R, (findRes s o.a).2 = R := ⟨_, rfl⟩
  obtain ⟨X, hXe⟩ : ∃ X, readX s o.a = X := ⟨_, rfl⟩
  obtain ⟨⟨Y, Q⟩, hYQ⟩ : ∃ Y, Vf.readRes fs o.a = Y := ⟨_, rfl⟩
  have HF : Hid (∀ V l, Duo w P p s l pr fs V → Calls Tryz.prog 20 #[.pointer (some ⟨p, 0, none⟩), .string o.a] V fun e V' => (∃ A c, e = .returned (.tuple #[.slice A X.size c, .int .i64 R]) ∧ BytesAt V' (.slice A X.size c) X ∧ (X.size = 0 ∨ ∃ g, A = some ⟨g, 0, none⟩ ∧ BRow V' g X.size V.heap.size)) ∧ LeftF w P p (tickS s) pr fs V V') := Lib.hid fun V l h => by have := readF2 h hf o.a ha; rwa [hR, hXe] at this
  have HG : Hid (∀ V l, Duo w P p (tickS s) l pr fs V → Calls Tryz.prog 36 #[.pointer (some ⟨pr, 0, none⟩), .string o.a] V fun e V' => e = .returned (.tuple #[.string Y, .int .i64 Q]) ∧ LeftG w P p (tickS s) l pr (Vf.beginFs fs) V V') := Lib.hid fun V l h => by have := readG h hfd ht o.a ha; rwa [hYQ] at this
  rw [hR, hXe, hYQ]
  rw [hXe] at hX
  obtain ⟨bq, hbq⟩ : ∃ b, (X.toList == Y.toList) = b := ⟨_, rfl⟩
  have hq : IntKind.u8.wrap 6 = 6 := by kernel_rfl
  have HWW := Lib.hid h.one.below.size
  obtain ⟨h1, hO, hs1⟩ := box_op h o
  have hW1 : W.heap.size ≤ (W.alloc (.cells #[.int .u8 o.kind, .string o.a, .string o.b, .int .i64 o.n] 32)).heap.size := ((Below.refl W.heap.size W).alloc (Nat.le_refl _) _).size
  obtain ⟨O, hOe⟩ : ∃ O, W.heap.size = O := ⟨_, rfl⟩
  unfold opV
  clear h hf hfd hR hXe hYQ
  go_enter Tryz.func13, Tryz.ntmps13
  go_wp2_with fail
  generalize W.alloc (.cells #[.int .u8 o.kind, .string o.a, .string o.b, .int .i64 o.n] 32) = W1 at h1 hO hs1 hW1 ⊢
  have HOW := Lib.hid hW1
  rw [hOe] at hO
  try rw [hOe]
  have b0 := h1.boxF; have b1 := h1.boxG
  have o1 : W1.cell? ⟨O, 1, none⟩ = some (.string o.a) := by rw [hO.cell]; rfl
  have H1 := Lib.hid h1; have HO := Lib.hid hO; have HS := Lib.hid hs1
  clear h1 hO hs1 hW1
  refine Vf.wp_region_guard (fun z => z.cell? ⟨P, 0, none⟩ = some (.pointer (some ⟨p, 0, none⟩)) ∧ z.cell? ⟨O, 1, none⟩ = some (.string o.a)) [(0, true), (1, true), (2, true), (3, true), (4, true), (5, true), (6, false), (7, true), (8, true), (9, true), (10, true)] _ (by kernel_rfl) rfl (by kernel_rfl) (by kernel_rfl) ⟨b0, o1⟩ ?_
  simp only [permL, List.dropLast, List.getElem?_cons_zero, List.getElem?_cons_succ, List.getLast]
  repeat (apply wpMixG_free
          · rfl
          · intro z hz
            try dsimp only at hz
            go_simp
            all_goals with_reducible rfl
          simp only [Act.put, List.setIfInBounds_toArray, List.set_cons_zero, List.set_cons_succ])
  refine wpMixG_turn (by rfl) (fun K hK => ?_)
  have HK := Lib.hid hK; clear hK
  go_simp
  refine (HF.out _ _ (H1.out.keep (Below.refl _ _).drew)).mono ?_
  rintro e V1 ⟨⟨A, c, rfl, hby, hrow⟩, ⟨l1, d1⟩, st1⟩
  have hO1 := st1.hold (W := W1.drew) HO.out (by decide)
  refine HK.out _ _ ⟨d1.boxF, by rw [hO1.cell]; rfl⟩ ?_
  clear HK
  have b1' := d1.boxG
  have o1' : V1.cell? ⟨O, 1, none⟩ = some (.string o.a) := by rw [hO1.cell]; rfl
  have D1 := Lib.hid d1; have ST1 := Lib.hid ((HS.out.trans (Stay.below (Below.refl _ _).drew)).trans st1); have BY := Lib.hid hby; have HR := Lib.hid hrow
  clear d1 st1 hby hrow b0 b1 o1
  try simp only [Act.put, List.setIfInBounds_toArray, List.set_cons_zero, List.set_cons_succ]
  repeat (apply wpMixG_free
          · rfl
          · intro z hz
            try dsimp only at hz
            go_simp
            all_goals with_reducible rfl
          simp only [Act.put, List.setIfInBounds_toArray, List.set_cons_zero, List.set_cons_succ])
  refine wpMixG_end ?_
  go_simp
  go_wp2_with fail
  refine Vf.wp_region_guard (fun z => z.cell? ⟨P, 1, none⟩ = some (.pointer (some ⟨pr, 0, none⟩)) ∧ z.cell? ⟨O, 1, none⟩ = some (.string o.a)) [(0, true), (1, true), (2, true), (3, true), (4, true), (5, true), (6, false), (7, true), (8, true), (9, true), (10, true)] _ (by kernel_rfl) rfl (by kernel_rfl) (by kernel_rfl) ⟨b1', o1'⟩ ?_
  simp only [permL, List.dropLast, List.getElem?_cons_zero, List.getElem?_cons_succ, List.getLast]
  repeat (apply wpMixG_free
          · rfl
          · intro z hz
            try dsimp only at hz
            go_simp
            all_goals with_reducible rfl
          simp only [Act.put, List.setIfInBounds_toArray, List.set_cons_zero, List.set_cons_succ])
  refine wpMixG_turn (by rfl) (fun K hK => ?_)
  have HK := Lib.hid hK; clear hK
  go_simp
  refine (HG.out _ _ (D1.out.keep (Below.refl _ _).drew)).mono ?_
  rintro e V2 ⟨rfl, d2, st2⟩
  have st2' : Stay V1 V2 := (Stay.below (Below.refl _ _).drew).trans st2
  have hO2 := st2'.hold hO1 (by decide)
  refine HK.out _ _ ⟨d2.boxG, by rw [hO2.cell]; rfl⟩ ?_
  clear HK
  have D2 := Lib.hid d2; have ST2 := Lib.hid (ST1.out.trans st2'); have BY2 := Lib.hid (BY.out.stay st2')
  have HR2 : Hid (X.size = 0 ∨ ∃ g, A = some ⟨g, 0, none⟩ ∧ BRow V2 g X.size W1.heap.size) := Lib.hid (HR.out.imp id fun ⟨g, hA, hb⟩ => ⟨g, hA, hb.stay st2'⟩)
  have hcv := BY2.out.text
  clear d2 st2 st2' b1' o1'
  try simp only [Act.put, List.setIfInBounds_toArray, List.set_cons_zero, List.set_cons_succ]
  repeat (apply wpMixG_free
          · rfl
          · intro z hz
            try dsimp only at hz
            go_simp
            all_goals with_reducible rfl
          simp only [Act.put, List.setIfInBounds_toArray, List.set_cons_zero, List.set_cons_succ])
  refine wpMixG_end ?_
  go_simp
  by_cases hRQ : R = Q
  · subst hRQ
    go_wp2_with fail
    go_loopw [13] (fun i wr => ∃ k : Nat, k ≤ X.size ∧ i = .int .i64 k ∧ (∃ l', Duo w P p (tickS s) l' pr (Vf.beginFs fs) wr) ∧ Stay W wr ∧ (X.size = 0 ∨ ∃ g, A = some ⟨g, 0, none⟩ ∧ BRow wr g X.size W1.heap.size)) (fun i _ => X.size - (intOf i).toNat)
    case atStart => exact ⟨0, Nat.zero_le _, rfl, ⟨_, D2.out⟩, ST2.out, HR2.out⟩
    case round =>
      obtain ⟨k, hkn, rfl, ⟨l', hd⟩, hst, hrow⟩ := hrel
      by_cases hlt : k < X.size
      · obtain ⟨g, rfl, hbr⟩ : ∃ g, A = some ⟨g, 0, none⟩ ∧ BRow wr g X.size W1.heap.size := hrow.resolve_left (by omega)
        obtain ⟨x, hx⟩ := hbr.cell k hlt
        have hz := hbr.thaw k hlt
        have hk0 : (0 : Int) ≤ (k : Int) := by omega
        have hk1 : (k : Int) < (X.size : Int) := by omega
        have HD := Lib.hid hd; have HST := Lib.hid hst; have HBR := Lib.hid hbr
        clear hd hst hbr hrow
        go_wp2_with fail
        refine ⟨⟨k + 1, hlt, by go_num, ⟨l', HD.out.spoil HBR.out (Nat.le_trans HWW.out HOW.out) k _⟩, stay_put HST.out (Nat.le_trans HOW.out HBR.out.new) k _, .inr ⟨g, rfl, HBR.out.set k _⟩⟩, by simp [intOf]; omega⟩
      · have HD := Lib.hid hd; have HST := Lib.hid hst
        clear hd hst hrow
        go_wp2_with fail
        go_ret
        exact ⟨ret_bool (by first | rfl | simp [hbq]), ⟨l', HD.out⟩, HST.out⟩
  · have e1 : (R == Q) = false := by simpa using hRQ
    have e2 : decide (R = Q) = false := by simpa using hRQ
    go_wp2_with fail
    go_loopw [13] (fun i wr => ∃ k : Nat, k ≤ X.size ∧ i = .int .i64 k ∧ (∃ l', Duo w P p (tickS s) l' pr (Vf.beginFs fs) wr) ∧ Stay W wr ∧ (X.size = 0 ∨ ∃ g, A = some ⟨g, 0, none⟩ ∧ BRow wr g X.size W1.heap.size)) (fun i _ => X.size - (intOf i).toNat)
    case atStart => exact ⟨0, Nat.zero_le _, rfl, ⟨_, D2.out⟩, ST2.out, HR2.out⟩
    case round =>
      obtain ⟨k, hkn, rfl, ⟨l', hd⟩, hst, hrow⟩ := hrel
      by_cases hlt : k < X.size
      · obtain ⟨g, rfl, hbr⟩ : ∃ g, A = some ⟨g, 0, none⟩ ∧ BRow wr g X.size W1.heap.size := hrow.resolve_left (by omega)
        obtain ⟨x, hx⟩ := hbr.cell k hlt
        have hz := hbr.thaw k hlt
        have hk0 : (0 : Int) ≤ (k : Int) := by omega
        have hk1 : (k : Int) < (X.size : Int) := by omega
        have HD := Lib.hid hd; have HST := Lib.hid hst; have HBR := Lib.hid hbr
        clear hd hst hbr hrow
        go_wp2_with fail
        refine ⟨⟨k + 1, hlt, by go_num, ⟨l', HD.out.spoil HBR.out (Nat.le_trans HWW.out HOW.out) k _⟩, stay_put HST.out (Nat.le_trans HOW.out HBR.out.new) k _, .inr ⟨g, rfl, HBR.out.set k _⟩⟩, by simp [intOf]; omega⟩
      · have HD := Lib.hid hd; have HST := Lib.hid hst
        clear hd hst hrow
        go_wp2_with fail
        go_ret
        exact ⟨ret_bool (by rw [e2]; rfl), ⟨l', HD.out⟩, HST.out⟩
end
end Go.Proofs.YtdbcjiapbehacaaGreatDoor.Vp
