/-
  Layer 5: the pair's do: Write and Read, and the bytes that are spoilt behind (written by gen_do3.py).
-/
import Derived.Test.YtdbcjiapbehacaaGreatDoorVpP
import Derived.Test.YtdbcjiapbehacaaGreatDoorVfR
namespace Go.Proofs.YtdbcjiapbehacaaGreatDoor.Vp
open Go.RowKit Go.Maps
open Go.Proofs.YtdbcjiapbehacaaGreatDoor.Vf (Hold OwnR Owns Fs FineD Moves ret_int wp_region_perm wp_region_fork wpMix_free wpMix_turn wpMix_end wpMixG_free wpMixG_skip wpMixG_turn wpMixG_end wpPre_take wpPre_end permL pickL gb_set)

/-- A row of bytes, in a block from B on. -/
structure BRow (V : World) (g n B : Nat) : Prop where
  kind : ∃ cur fr, V.heap[g]? = some (.cells cur 5 fr)
  cell : ∀ j, j < n → ∃ x : Int, V.cell? ⟨g, j, none⟩ = some (.int .u8 x)
  thaw : ∀ j, j < n → V.frozen? ⟨g, j, none⟩ = false
  new : B ≤ g
section
variable {w W V V' : World} {P p pr g n B : Nat} {s : Pf} {l : Loc} {fs : Fs}
theorem BRow.same (h : BRow V g n B) (e : V'.heap[g]? = V.heap[g]?) : BRow V' g n B := by
  obtain ⟨cur, fr, hk⟩ := h.kind
  exact ⟨⟨cur, fr, e.trans hk⟩, fun j hj => by
    obtain ⟨x, hx⟩ := h.cell j hj
    exact ⟨x, (World.cell?_of_block (a := ⟨g, j, none⟩) e).trans hx⟩, fun j hj => (World.frozen?_of_block (a := ⟨g, j, none⟩) e).trans (h.thaw j hj), h.new⟩
theorem BRow.stay (h : BRow V g n B) (st : Stay V V') : BRow V' g n B := by
  obtain ⟨cur, fr, hk⟩ := h.kind
  exact h.same (st g cur _ fr hk (by decide))
theorem BRow.set (h : BRow V g n B) (k : Nat) (x : Int) : BRow (V.setCell ⟨g, k, none⟩ (.int .u8 x)) g n B := by
  obtain ⟨cur, fr, hk⟩ := h.kind
  refine ⟨⟨cur.setIfInBounds k (.int .u8 x), fr, ?_⟩, fun j hj => ?_, fun j hj => (World.frozen?_setCell _ _ _ _).trans (h.thaw j hj), h.new⟩
  · have hl := (Array.getElem?_eq_some_iff.1 hk).1
    show (V.heap.modify g _)[g]? = _
    rw [Array.getElem?_modify, if_pos rfl, hk]
    rfl
  · obtain ⟨y, hy⟩ := h.cell j hj
    by_cases hjk : j = k
    · subst hjk
      exact ⟨x, World.cell?_setCell_same _ _ _ hy⟩
    · exact ⟨y, (World.cell?_setCell_other _ _ _ _ (fun e => hjk (by injection e with _ e _; exact e.symm))).trans hy⟩
theorem brow_new {t : ByteArray} {m : Nat} (hg : V.heap[g]? = some (.cells (bytesRow t m) 5 ((bytesRow t m).size, (bytesRow t m).size + 1))) (hB : B ≤ g) : BRow V g t.size B := by
  refine ⟨⟨_, _, hg⟩, fun j hj => ?_, fun j hj => ?_, hB⟩
  · have := bytesRow_at t m j hj
    exact ⟨_, by simp [World.cell?, hg, this]; rfl⟩
  · have hs : t.size ≤ (bytesRow t m).size := by unfold bytesRow; simp
    have h2 : ¬ (bytesRow t m).size ≤ j := by omega
    simp [World.frozen?, hg, h2]
theorem stay_put (st : Stay W V) (hB : W.heap.size ≤ g) (k : Nat) (x : Value) : Stay W (V.setCell ⟨g, k, none⟩ x) := fun b cur t fr hb ht => (Below.heap_setCell V ⟨g, k, none⟩ x b (by
  have := lt_cells hb
  show b ≠ g
  omega)).trans (st b cur t fr hb ht)
theorem BytesAt.stay {v : Value} {t : ByteArray} (h : BytesAt V v t) (st : Stay V V') : BytesAt V' v t := by
  obtain ⟨A, c, hv, h⟩ := h
  refine ⟨A, c, hv, h.imp id ?_⟩
  rintro ⟨g, o, cur, fr, hA, hg, hc⟩
  have e := st g cur _ fr hg (by decide)
  exact ⟨g, o, cur, fr, hA, e.trans hg, fun j hj => (World.cell?_of_block (a := ⟨g, o + j, none⟩) e).trans (hc j hj)⟩
theorem text_of {v : Value} {t : ByteArray} (h : BytesAt V v t) : Vf.Text V v t := by
  have h' := h
  obtain ⟨A, c, hv, h⟩ := h'
  refine ⟨⟨A, c, hv⟩, fun z hz => ?_⟩
  have h2 : BytesAt z v t := by
    refine ⟨A, c, hv, h.imp id ?_⟩
    rintro ⟨g, o, cur, fr, hA, hg, hc⟩
    have e := hz g cur fr hg
    exact ⟨g, o, cur, fr, hA, e.trans hg, fun j hj => (World.cell?_of_block (a := ⟨g, o + j, none⟩) e).trans (hc j hj)⟩
  exact h2.text
theorem Duo.spoil (h : Duo w P p s l pr fs V) (hb : BRow V g n B) (hw : w.heap.size ≤ B) (k : Nat) (x : Value) : Duo w P p s l pr fs (V.setCell ⟨g, k, none⟩ x) := by
  obtain ⟨cur, fr, hk⟩ := hb.kind
  exact h.put hk (by decide) (Nat.le_trans hw hb.new) (gb_set (World.grownBy.refl V _) k x)

set_option maxRecDepth 100000 in
set_option maxHeartbeats 4000000 in
theorem do_write {T t : Nat} (o : Op) (hk : o.kind.tmod 11 = 1) (ha : okS o.a) (hb : okS o.b) (h : Duo w P p s l pr fs W) (hf : Fine s T) (hT : T ≤ 100000) (hfd : FineD fs t) (ht : t ≤ 200) (hm : -9223372036854775808 ≤ fs.most ∧ fs.most ≤ 9223372036854775807) :
    Calls Tryz.prog 13 #[.pointer (some ⟨P, 0, none⟩), opV o] W fun e W' => e = .returned (.bool (decide (writeRes s o.a o.b = Vf.writeRes fs o.a o.b))) ∧ (∃ l', Duo w P p (writeS s o.a o.b) l' pr (Vf.writeFs fs o.a o.b) W') ∧ Stay W W' := by
  obtain ⟨R, hR⟩ : ∃ R, writeRes s o.a o.b = R := ⟨_, rfl⟩
  obtain ⟨Q, hQ⟩ : ∃ Q, Vf.writeRes fs o.a o.b = Q := ⟨_, rfl⟩
  have HF : Hid (∀ V l v, Duo w P p s l pr fs V → BytesAt V v o.b → Calls Tryz.prog 16 #[.pointer (some ⟨p, 0, none⟩), .string o.a, v] V fun e V' => e = .returned (.int .i64 R) ∧ LeftF w P p (writeS s o.a o.b) pr fs V V') := Lib.hid fun V l v h hv => by have := writeF h hf hT o.a o.b v ha hv; rwa [hR] at this
  have HG : Hid (∀ V l v, Duo w P p (writeS s o.a o.b) l pr fs V → BytesAt V v o.b → Calls Tryz.prog 31 #[.pointer (some ⟨pr, 0, none⟩), .string o.a, v] V fun e V' => e = .returned (.int .i64 Q) ∧ LeftG w P p (writeS s o.a o.b) l pr (Vf.writeFs fs o.a o.b) V V') := Lib.hid fun V l v h hv => by have := writeG h hfd ht hm o.a o.b v ha hb (text_of hv); rwa [hQ] at this
  rw [hR, hQ]
  have hq : IntKind.u8.wrap 1 = 1 := by kernel_rfl
  have hcv := conv_run o.b
  have hbs : o.b.size ≤ 1048576 := hb
  have HWW := Lib.hid h.one.below.size
  obtain ⟨h1, hO, hs1⟩ := box_op h o
  obtain ⟨O, hOe⟩ : ∃ O, W.heap.size = O := ⟨_, rfl⟩
  unfold opV
  clear h hf hfd hR hQ
  go_enter Tryz.func13, Tryz.ntmps13
  go_wp2_with fail
  have hO' := (Stay.below (conv_below o.b _)).hold hO (by decide)
  have h1' := h1.keep (conv_below o.b _)
  have hs1' := hs1.trans (Stay.below (conv_below o.b _))
  have hby := conv_at o.b (W.alloc (.cells #[.int .u8 o.kind, .string o.a, .string o.b, .int .i64 o.n] 32))
  have hbr : BRow (convW (W.alloc (.cells #[.int .u8 o.kind, .string o.a, .string o.b, .int .i64 o.n] 32)) o.b) (W.alloc (.cells #[.int .u8 o.kind, .string o.a, .string o.b, .int .i64 o.n] 32)).heap.size o.b.size W.heap.size := brow_new (heap_alloc_new (W.alloc (.cells #[.int .u8 o.kind, .string o.a, .string o.b, .int .i64 o.n] 32)).drew _) ((Below.refl W.heap.size W).alloc (Nat.le_refl _) _).size
  clear h1 hO hs1
  unfold convV at hby ⊢
  generalize convW (W.alloc (.cells #[.int .u8 o.kind, .string o.a, .string o.b, .int .i64 o.n] 32)) o.b = W1 at h1' hO' hs1' hby hbr ⊢
  generalize (W.alloc (.cells #[.int .u8 o.kind, .string o.a, .string o.b, .int .i64 o.n] 32)).heap.size = gb at hby hbr ⊢
  generalize grownCap (W.alloc (.cells #[.int .u8 o.kind, .string o.a, .string o.b, .int .i64 o.n] 32)) o.b.size 0 5 = cb at hby ⊢
  rw [hOe] at hO'
  try rw [hOe]
  have b0 := h1'.boxF; have b1 := h1'.boxG
  have o1 : W1.cell? ⟨O, 1, none⟩ = some (.string o.a) := by rw [hO'.cell]; rfl
  have o2 : W1.cell? ⟨O, 2, none⟩ = some (.string o.b) := by rw [hO'.cell]; rfl
  have bt := BytesAt.text (BytesAt.stay (V' := W1.drew) hby (Stay.below (Below.refl _ _).drew))
  have H1 := Lib.hid h1'; have HO := Lib.hid hO'; have HS := Lib.hid hs1'; have BY := Lib.hid hby; have BR := Lib.hid hbr
  clear h1' hO' hs1' hby hbr
  by_cases hRQ : R = Q
  · subst hRQ
    refine wp_region_fork (fun z => z.cell? ⟨P, 0, none⟩ = some (.pointer (some ⟨p, 0, none⟩)) ∧ z.cell? ⟨P, 1, none⟩ = some (.pointer (some ⟨pr, 0, none⟩)) ∧ z.cell? ⟨O, 1, none⟩ = some (.string o.a) ∧ z.cell? ⟨O, 2, none⟩ = some (.string o.b) ∧ (convert 38 9 (.slice (some ⟨gb, 0, none⟩) o.b.size cb)).run Tryz.prog z = .ok (.string o.b) z) [0, 1, 2, 3, 4, 5, 6, 8, 9, 10, 11, 12, 13, 14, 15] 7 16 [(16, false), (17, false), (18, true), (19, true), (20, true), (21, true), (22, true), (23, true), (24, true), (25, true)] [(7, false), (17, false), (18, true), (19, true), (20, true), (21, true), (22, true), (23, true), (24, true), (25, true)] _ (by kernel_rfl) rfl (by kernel_rfl) ⟨rfl, rfl⟩ ⟨b0, b1, o1, o2, bt⟩ ?_
    simp only [pickL, List.dropLast, List.getElem?_cons_zero, List.getElem?_cons_succ, List.getLast]
    repeat (apply wpPre_take
            · kernel_rfl
            · intro z hz
              try dsimp only at hz
              go_simp
              all_goals with_reducible rfl
            simp only [Act.put, List.setIfInBounds_toArray, List.set_cons_zero, List.set_cons_succ])
    refine wpPre_end ⟨?_, ?_⟩
    · simp only [permL, List.getElem?_cons_zero, List.getElem?_cons_succ]
      refine wpMixG_turn (by kernel_rfl) (fun K hK => ?_)
      have HK := Lib.hid hK; clear hK
      go_simp
      refine (HF.out _ _ _ (H1.out.keep (Below.refl _ _).drew) (BY.out.stay (Stay.below (Below.refl _ _).drew))).mono ?_
      rintro e V1 ⟨rfl, ⟨l1, d1⟩, st1⟩
      have hO1 := st1.hold (W := W1.drew) HO.out (by decide)
      have by1 := BytesAt.stay (V := W1.drew) (BY.out.stay (Stay.below (Below.refl _ _).drew)) st1
      have br1 := BRow.stay (V := W1.drew) (BR.out.stay (Stay.below (Below.refl _ _).drew)) st1
      refine HK.out _ _ ⟨d1.boxF, d1.boxG, by rw [hO1.cell]; rfl, by rw [hO1.cell]; rfl, by1.text⟩ ?_
      clear HK
      have D1 := Lib.hid (d1.keep (conv_below o.b V1)); have ST1 := Lib.hid ((HS.out.trans (Stay.below (Below.refl _ _).drew)).trans (st1.trans (Stay.below (conv_below o.b V1))))
      have hO2 := (Stay.below (conv_below o.b V1)).hold hO1 (by decide)
      have BY1 := Lib.hid (by1.stay (Stay.below (conv_below o.b V1))); have BR1 := Lib.hid (br1.stay (Stay.below (conv_below o.b V1))); have BC1 := Lib.hid (conv_at o.b V1)
      clear d1 st1 by1 br1
      try simp only [Act.put, List.setIfInBounds_toArray, List.set_cons_zero, List.set_cons_succ]
      refine wpMixG_turn (by kernel_rfl) (fun K hK => ?_)
      have HK := Lib.hid hK; clear hK
      go_simp
      refine HK.out _ _ ⟨D1.out.boxF, D1.out.boxG, by rw [hO2.cell]; rfl, by rw [hO2.cell]; rfl, BY1.out.text⟩ ?_
      clear HK
      obtain ⟨V3, hV3⟩ : ∃ V3, convW V1 o.b = V3 := ⟨_, rfl⟩
      obtain ⟨v3, hv3⟩ : ∃ v3, convV V1 o.b = v3 := ⟨_, rfl⟩
      rw [hV3] at D1 ST1 hO2 BY1 BR1 BC1 ⊢
      rw [hv3] at BC1 ⊢
      clear hV3 hv3
      try simp only [Act.put, List.setIfInBounds_toArray, List.set_cons_zero, List.set_cons_succ]
      refine wpMixG_turn (by kernel_rfl) (fun K hK => ?_)
      have HK := Lib.hid hK; clear hK
      go_simp
      refine (HG.out _ _ _ D1.out BC1.out).mono ?_
      rintro e V2 ⟨rfl, d2, st2⟩
      have hO3 := st2.hold hO2 (by decide)
      have by2 := BY1.out.stay st2
      refine HK.out _ _ ⟨d2.boxF, d2.boxG, by rw [hO3.cell]; rfl, by rw [hO3.cell]; rfl, by2.text⟩ ?_
      clear HK
      have D2 := Lib.hid d2; have ST2 := Lib.hid (ST1.out.trans st2); have BR2 := Lib.hid (BR1.out.stay st2)
      clear d2 st2 by2
      try simp only [Act.put, List.setIfInBounds_toArray, List.set_cons_zero, List.set_cons_succ]
      repeat (first
        | (refine wpMixG_skip (by rfl) ?_; simp only [Act.put, List.setIfInBounds_toArray, List.set_cons_zero, List.set_cons_succ])
        | (apply wpMixG_free
           · rfl
           · intro z hz
             try dsimp only at hz
             go_simp
             all_goals with_reducible rfl
           simp only [Act.put, List.setIfInBounds_toArray, List.set_cons_zero, List.set_cons_succ]))
      refine wpMixG_end ?_
      go_simp
      go_wp2_with fail
      go_loopw [7] (fun i wr => ∃ k : Nat, k ≤ o.b.size ∧ i = .int .i64 k ∧ (∃ l', Duo w P p (writeS s o.a o.b) l' pr (Vf.writeFs fs o.a o.b) wr) ∧ Stay W wr ∧ BRow wr gb o.b.size W.heap.size) (fun i _ => o.b.size - (intOf i).toNat)
      case atStart => exact ⟨0, Nat.zero_le _, rfl, ⟨_, D2.out⟩, ST2.out, BR2.out⟩
      case round =>
        obtain ⟨k, hkn, rfl, ⟨l', hd⟩, hst, hbr⟩ := hrel
        by_cases hlt : k < o.b.size
        · obtain ⟨x, hx⟩ := hbr.cell k hlt
          have hz := hbr.thaw k hlt
          have hk0 : (0 : Int) ≤ (k : Int) := by omega
          have hk1 : (k : Int) < (o.b.size : Int) := by omega
          have HD := Lib.hid hd; have HST := Lib.hid hst; have HBR := Lib.hid hbr
          clear hd hst hbr
          go_wp2_with fail
          refine ⟨⟨k + 1, hlt, by go_num, ⟨l', HD.out.spoil HBR.out HWW.out k _⟩, stay_put HST.out HBR.out.new k _, HBR.out.set k _⟩, by simp [intOf]; omega⟩
        · have HD := Lib.hid hd; have HST := Lib.hid hst
          clear hd hst hbr
          go_wp2_with fail
          go_ret
          exact ⟨rfl, ⟨l', HD.out⟩, HST.out⟩
    · simp only [permL, List.getElem?_cons_zero, List.getElem?_cons_succ]
      refine wpMixG_turn (by kernel_rfl) (fun K hK => ?_)
      have HK := Lib.hid hK; clear hK
      go_simp
      have hO1 := (Stay.below (conv_below o.b W1.drew)).hold (W := W1.drew) HO.out (by decide)
      have d0 := (H1.out.keep (Below.refl _ _).drew).keep (conv_below o.b W1.drew)
      have by0 := BytesAt.stay (V := W1.drew) (BY.out.stay (Stay.below (Below.refl _ _).drew)) (Stay.below (conv_below o.b W1.drew))
      have br0 := BRow.stay (V := W1.drew) (BR.out.stay (Stay.below (Below.refl _ _).drew)) (Stay.below (conv_below o.b W1.drew))
      refine HK.out _ _ ⟨d0.boxF, d0.boxG, by rw [hO1.cell]; rfl, by rw [hO1.cell]; rfl, by0.text⟩ ?_
      clear HK
      have D0 := Lib.hid d0; have BY0 := Lib.hid by0; have BR0 := Lib.hid br0; have BC0 := Lib.hid (conv_at o.b W1.drew); have ST0 := Lib.hid ((HS.out.trans (Stay.below (Below.refl _ _).drew)).trans (Stay.below (conv_below o.b W1.drew)))
      clear d0 by0 br0
      obtain ⟨V0, hV0⟩ : ∃ V0, convW W1.drew o.b = V0 := ⟨_, rfl⟩
      obtain ⟨v3, hv3⟩ : ∃ v3, convV W1.drew o.b = v3 := ⟨_, rfl⟩
      rw [hV0] at D0 ST0 hO1 BY0 BR0 BC0 ⊢
      rw [hv3] at BC0 ⊢
      clear hV0 hv3
      try simp only [Act.put, List.setIfInBounds_toArray, List.set_cons_zero, List.set_cons_succ]
      refine wpMixG_turn (by kernel_rfl) (fun K hK => ?_)
      have HK := Lib.hid hK; clear hK
      go_simp
      refine (HF.out _ _ _ D0.out BY0.out).mono ?_
      rintro e V3 ⟨rfl, ⟨l1, d1⟩, st1⟩
      have hO2 := st1.hold hO1 (by decide)
      have by1 := BY0.out.stay st1
      refine HK.out _ _ ⟨d1.boxF, d1.boxG, by rw [hO2.cell]; rfl, by rw [hO2.cell]; rfl, by1.text⟩ ?_
      clear HK
      have D1 := Lib.hid d1; have ST1 := Lib.hid (ST0.out.trans st1); have BY1 := Lib.hid by1; have BR1 := Lib.hid (BR0.out.stay st1); have BC1 := Lib.hid (BC0.out.stay st1)
      clear d1 st1 by1
      try simp only [Act.put, List.setIfInBounds_toArray, List.set_cons_zero, List.set_cons_succ]
      refine wpMixG_turn (by kernel_rfl) (fun K hK => ?_)
      have HK := Lib.hid hK; clear hK
      go_simp
      refine (HG.out _ _ _ D1.out BC1.out).mono ?_
      rintro e V2 ⟨rfl, d2, st2⟩
      have hO3 := st2.hold hO2 (by decide)
      have by2 := BY1.out.stay st2
      refine HK.out _ _ ⟨d2.boxF, d2.boxG, by rw [hO3.cell]; rfl, by rw [hO3.cell]; rfl, by2.text⟩ ?_
      clear HK
      have D2 := Lib.hid d2; have ST2 := Lib.hid (ST1.out.trans st2); have BR2 := Lib.hid (BR1.out.stay st2)
      clear d2 st2 by2
      try simp only [Act.put, List.setIfInBounds_toArray, List.set_cons_zero, List.set_cons_succ]
      repeat (first
        | (refine wpMixG_skip (by rfl) ?_; simp only [Act.put, List.setIfInBounds_toArray, List.set_cons_zero, List.set_cons_succ])
        | (apply wpMixG_free
           · rfl
           · intro z hz
             try dsimp only at hz
             go_simp
             all_goals with_reducible rfl
           simp only [Act.put, List.setIfInBounds_toArray, List.set_cons_zero, List.set_cons_succ]))
      refine wpMixG_end ?_
      go_simp
      go_wp2_with fail
      go_loopw [7] (fun i wr => ∃ k : Nat, k ≤ o.b.size ∧ i = .int .i64 k ∧ (∃ l', Duo w P p (writeS s o.a o.b) l' pr (Vf.writeFs fs o.a o.b) wr) ∧ Stay W wr ∧ BRow wr gb o.b.size W.heap.size) (fun i _ => o.b.size - (intOf i).toNat)
      case atStart => exact ⟨0, Nat.zero_le _, rfl, ⟨_, D2.out⟩, ST2.out, BR2.out⟩
      case round =>
        obtain ⟨k, hkn, rfl, ⟨l', hd⟩, hst, hbr⟩ := hrel
        by_cases hlt : k < o.b.size
        · obtain ⟨x, hx⟩ := hbr.cell k hlt
          have hz := hbr.thaw k hlt
          have hk0 : (0 : Int) ≤ (k : Int) := by omega
          have hk1 : (k : Int) < (o.b.size : Int) := by omega
          have HD := Lib.hid hd; have HST := Lib.hid hst; have HBR := Lib.hid hbr
          clear hd hst hbr
          go_wp2_with fail
          refine ⟨⟨k + 1, hlt, by go_num, ⟨l', HD.out.spoil HBR.out HWW.out k _⟩, stay_put HST.out HBR.out.new k _, HBR.out.set k _⟩, by simp [intOf]; omega⟩
        · have HD := Lib.hid hd; have HST := Lib.hid hst
          clear hd hst hbr
          go_wp2_with fail
          go_ret
          exact ⟨rfl, ⟨l', HD.out⟩, HST.out⟩
  · have e1 : (R == Q) = false := by simpa using hRQ
    have e2 : decide (R = Q) = false := by simpa using hRQ
    refine wp_region_fork (fun z => z.cell? ⟨P, 0, none⟩ = some (.pointer (some ⟨p, 0, none⟩)) ∧ z.cell? ⟨P, 1, none⟩ = some (.pointer (some ⟨pr, 0, none⟩)) ∧ z.cell? ⟨O, 1, none⟩ = some (.string o.a) ∧ z.cell? ⟨O, 2, none⟩ = some (.string o.b) ∧ (convert 38 9 (.slice (some ⟨gb, 0, none⟩) o.b.size cb)).run Tryz.prog z = .ok (.string o.b) z) [0, 1, 2, 3, 4, 5, 6, 8, 9, 10, 11, 12, 13, 14, 15] 7 16 [(16, false), (17, false), (18, true), (19, true), (20, true), (21, true), (22, true), (23, true), (24, true), (25, true)] [(7, false), (17, false), (18, true), (19, true), (20, true), (21, true), (22, true), (23, true), (24, true), (25, true)] _ (by kernel_rfl) rfl (by kernel_rfl) ⟨rfl, rfl⟩ ⟨b0, b1, o1, o2, bt⟩ ?_
    simp only [pickL, List.dropLast, List.getElem?_cons_zero, List.getElem?_cons_succ, List.getLast]
    repeat (apply wpPre_take
            · kernel_rfl
            · intro z hz
              try dsimp only at hz
              go_simp
              all_goals with_reducible rfl
            simp only [Act.put, List.setIfInBounds_toArray, List.set_cons_zero, List.set_cons_succ])
    refine wpPre_end ⟨?_, ?_⟩
    · simp only [permL, List.getElem?_cons_zero, List.getElem?_cons_succ]
      refine wpMixG_turn (by kernel_rfl) (fun K hK => ?_)
      have HK := Lib.hid hK; clear hK
      go_simp
      refine (HF.out _ _ _ (H1.out.keep (Below.refl _ _).drew) (BY.out.stay (Stay.below (Below.refl _ _).drew))).mono ?_
      rintro e V1 ⟨rfl, ⟨l1, d1⟩, st1⟩
      have hO1 := st1.hold (W := W1.drew) HO.out (by decide)
      have by1 := BytesAt.stay (V := W1.drew) (BY.out.stay (Stay.below (Below.refl _ _).drew)) st1
      have br1 := BRow.stay (V := W1.drew) (BR.out.stay (Stay.below (Below.refl _ _).drew)) st1
      refine HK.out _ _ ⟨d1.boxF, d1.boxG, by rw [hO1.cell]; rfl, by rw [hO1.cell]; rfl, by1.text⟩ ?_
      clear HK
      have D1 := Lib.hid (d1.keep (conv_below o.b V1)); have ST1 := Lib.hid ((HS.out.trans (Stay.below (Below.refl _ _).drew)).trans (st1.trans (Stay.below (conv_below o.b V1))))
      have hO2 := (Stay.below (conv_below o.b V1)).hold hO1 (by decide)
      have BY1 := Lib.hid (by1.stay (Stay.below (conv_below o.b V1))); have BR1 := Lib.hid (br1.stay (Stay.below (conv_below o.b V1))); have BC1 := Lib.hid (conv_at o.b V1)
      clear d1 st1 by1 br1
      try simp only [Act.put, List.setIfInBounds_toArray, List.set_cons_zero, List.set_cons_succ]
      refine wpMixG_turn (by kernel_rfl) (fun K hK => ?_)
      have HK := Lib.hid hK; clear hK
      go_simp
      refine HK.out _ _ ⟨D1.out.boxF, D1.out.boxG, by rw [hO2.cell]; rfl, by rw [hO2.cell]; rfl, BY1.out.text⟩ ?_
      clear HK
      obtain ⟨V3, hV3⟩ : ∃ V3, convW V1 o.b = V3 := ⟨_, rfl⟩
      obtain ⟨v3, hv3⟩ : ∃ v3, convV V1 o.b = v3 := ⟨_, rfl⟩
      rw [hV3] at D1 ST1 hO2 BY1 BR1 BC1 ⊢
      rw [hv3] at BC1 ⊢
      clear hV3 hv3
      try simp only [Act.put, List.setIfInBounds_toArray, List.set_cons_zero, List.set_cons_succ]
      refine wpMixG_turn (by kernel_rfl) (fun K hK => ?_)
      have HK := Lib.hid hK; clear hK
      go_simp
      refine (HG.out _ _ _ D1.out BC1.out).mono ?_
      rintro e V2 ⟨rfl, d2, st2⟩
      have hO3 := st2.hold hO2 (by decide)
      have by2 := BY1.out.stay st2
      refine HK.out _ _ ⟨d2.boxF, d2.boxG, by rw [hO3.cell]; rfl, by rw [hO3.cell]; rfl, by2.text⟩ ?_
      clear HK
      have D2 := Lib.hid d2; have ST2 := Lib.hid (ST1.out.trans st2); have BR2 := Lib.hid (BR1.out.stay st2)
      clear d2 st2 by2
      try simp only [Act.put, List.setIfInBounds_toArray, List.set_cons_zero, List.set_cons_succ]
      repeat (first
        | (refine wpMixG_skip (by rfl) ?_; simp only [Act.put, List.setIfInBounds_toArray, List.set_cons_zero, List.set_cons_succ])
        | (apply wpMixG_free
           · rfl
           · intro z hz
             try dsimp only at hz
             go_simp
             all_goals with_reducible rfl
           simp only [Act.put, List.setIfInBounds_toArray, List.set_cons_zero, List.set_cons_succ]))
      refine wpMixG_end ?_
      go_simp
      go_wp2_with fail
      go_loopw [7] (fun i wr => ∃ k : Nat, k ≤ o.b.size ∧ i = .int .i64 k ∧ (∃ l', Duo w P p (writeS s o.a o.b) l' pr (Vf.writeFs fs o.a o.b) wr) ∧ Stay W wr ∧ BRow wr gb o.b.size W.heap.size) (fun i _ => o.b.size - (intOf i).toNat)
      case atStart => exact ⟨0, Nat.zero_le _, rfl, ⟨_, D2.out⟩, ST2.out, BR2.out⟩
      case round =>
        obtain ⟨k, hkn, rfl, ⟨l', hd⟩, hst, hbr⟩ := hrel
        by_cases hlt : k < o.b.size
        · obtain ⟨x, hx⟩ := hbr.cell k hlt
          have hz := hbr.thaw k hlt
          have hk0 : (0 : Int) ≤ (k : Int) := by omega
          have hk1 : (k : Int) < (o.b.size : Int) := by omega
          have HD := Lib.hid hd; have HST := Lib.hid hst; have HBR := Lib.hid hbr
          clear hd hst hbr
          go_wp2_with fail
          refine ⟨⟨k + 1, hlt, by go_num, ⟨l', HD.out.spoil HBR.out HWW.out k _⟩, stay_put HST.out HBR.out.new k _, HBR.out.set k _⟩, by simp [intOf]; omega⟩
        · have HD := Lib.hid hd; have HST := Lib.hid hst
          clear hd hst hbr
          go_wp2_with fail
          go_ret
          exact ⟨ret_bool e2.symm, ⟨l', HD.out⟩, HST.out⟩
    · simp only [permL, List.getElem?_cons_zero, List.getElem?_cons_succ]
      refine wpMixG_turn (by kernel_rfl) (fun K hK => ?_)
      have HK := Lib.hid hK; clear hK
      go_simp
      have hO1 := (Stay.below (conv_below o.b W1.drew)).hold (W := W1.drew) HO.out (by decide)
      have d0 := (H1.out.keep (Below.refl _ _).drew).keep (conv_below o.b W1.drew)
      have by0 := BytesAt.stay (V := W1.drew) (BY.out.stay (Stay.below (Below.refl _ _).drew)) (Stay.below (conv_below o.b W1.drew))
      have br0 := BRow.stay (V := W1.drew) (BR.out.stay (Stay.below (Below.refl _ _).drew)) (Stay.below (conv_below o.b W1.drew))
      refine HK.out _ _ ⟨d0.boxF, d0.boxG, by rw [hO1.cell]; rfl, by rw [hO1.cell]; rfl, by0.text⟩ ?_
      clear HK
      have D0 := Lib.hid d0; have BY0 := Lib.hid by0; have BR0 := Lib.hid br0; have BC0 := Lib.hid (conv_at o.b W1.drew); have ST0 := Lib.hid ((HS.out.trans (Stay.below (Below.refl _ _).drew)).trans (Stay.below (conv_below o.b W1.drew)))
      clear d0 by0 br0
      obtain ⟨V0, hV0⟩ : ∃ V0, convW W1.drew o.b = V0 := ⟨_, rfl⟩
      obtain ⟨v3, hv3⟩ : ∃ v3, convV W1.drew o.b = v3 := ⟨_, rfl⟩
      rw [hV0] at D0 ST0 hO1 BY0 BR0 BC0 ⊢
      rw [hv3] at BC0 ⊢
      clear hV0 hv3
      try simp only [Act.put, List.setIfInBounds_toArray, List.set_cons_zero, List.set_cons_succ]
      refine wpMixG_turn (by kernel_rfl) (fun K hK => ?_)
      have HK := Lib.hid hK; clear hK
      go_simp
      refine (HF.out _ _ _ D0.out BY0.out).mono ?_
      rintro e V3 ⟨rfl, ⟨l1, d1⟩, st1⟩
      have hO2 := st1.hold hO1 (by decide)
      have by1 := BY0.out.stay st1
      refine HK.out _ _ ⟨d1.boxF, d1.boxG, by rw [hO2.cell]; rfl, by rw [hO2.cell]; rfl, by1.text⟩ ?_
      clear HK
      have D1 := Lib.hid d1; have ST1 := Lib.hid (ST0.out.trans st1); have BY1 := Lib.hid by1; have BR1 := Lib.hid (BR0.out.stay st1); have BC1 := Lib.hid (BC0.out.stay st1)
      clear d1 st1 by1
      try simp only [Act.put, List.setIfInBounds_toArray, List.set_cons_zero, List.set_cons_succ]
      refine wpMixG_turn (by kernel_rfl) (fun K hK => ?_)
      have HK := Lib.hid hK; clear hK
      go_simp
      refine (HG.out _ _ _ D1.out BC1.out).mono ?_
      rintro e V2 ⟨rfl, d2, st2⟩
      have hO3 := st2.hold hO2 (by decide)
      have by2 := BY1.out.stay st2
      refine HK.out _ _ ⟨d2.boxF, d2.boxG, by rw [hO3.cell]; rfl, by rw [hO3.cell]; rfl, by2.text⟩ ?_
      clear HK
      have D2 := Lib.hid d2; have ST2 := Lib.hid (ST1.out.trans st2); have BR2 := Lib.hid (BR1.out.stay st2)
      clear d2 st2 by2
      try simp only [Act.put, List.setIfInBounds_toArray, List.set_cons_zero, List.set_cons_succ]
      repeat (first
        | (refine wpMixG_skip (by rfl) ?_; simp only [Act.put, List.setIfInBounds_toArray, List.set_cons_zero, List.set_cons_succ])
        | (apply wpMixG_free
           · rfl
           · intro z hz
             try dsimp only at hz
             go_simp
             all_goals with_reducible rfl
           simp only [Act.put, List.setIfInBounds_toArray, List.set_cons_zero, List.set_cons_succ]))
      refine wpMixG_end ?_
      go_simp
      go_wp2_with fail
      go_loopw [7] (fun i wr => ∃ k : Nat, k ≤ o.b.size ∧ i = .int .i64 k ∧ (∃ l', Duo w P p (writeS s o.a o.b) l' pr (Vf.writeFs fs o.a o.b) wr) ∧ Stay W wr ∧ BRow wr gb o.b.size W.heap.size) (fun i _ => o.b.size - (intOf i).toNat)
      case atStart => exact ⟨0, Nat.zero_le _, rfl, ⟨_, D2.out⟩, ST2.out, BR2.out⟩
      case round =>
        obtain ⟨k, hkn, rfl, ⟨l', hd⟩, hst, hbr⟩ := hrel
        by_cases hlt : k < o.b.size
        · obtain ⟨x, hx⟩ := hbr.cell k hlt
          have hz := hbr.thaw k hlt
          have hk0 : (0 : Int) ≤ (k : Int) := by omega
          have hk1 : (k : Int) < (o.b.size : Int) := by omega
          have HD := Lib.hid hd; have HST := Lib.hid hst; have HBR := Lib.hid hbr
          clear hd hst hbr
          go_wp2_with fail
          refine ⟨⟨k + 1, hlt, by go_num, ⟨l', HD.out.spoil HBR.out HWW.out k _⟩, stay_put HST.out HBR.out.new k _, HBR.out.set k _⟩, by simp [intOf]; omega⟩
        · have HD := Lib.hid hd; have HST := Lib.hid hst
          clear hd hst hbr
          go_wp2_with fail
          go_ret
          exact ⟨ret_bool e2.symm, ⟨l', HD.out⟩, HST.out⟩
end
end Go.Proofs.YtdbcjiapbehacaaGreatDoor.Vp
