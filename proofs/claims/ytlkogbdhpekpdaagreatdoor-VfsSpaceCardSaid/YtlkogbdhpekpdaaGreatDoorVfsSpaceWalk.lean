/-
  Layer 5: the law VfsSpace: its walk.
-/
import Derived.Test.YtlkogbdhpekpdaaGreatDoorVfsRenameWalk
import Derived.Test.YtlkogbdhpekpdaaGreatDoorVpI
import Derived.Test.YtlkogbdhpekpdaaGreatDoorVpRow
namespace Go.Proofs.YtlkogbdhpekpdaaGreatDoor.Vp
open Go.RowKit Go.Maps
open Go.Proofs.YtlkogbdhpekpdaaGreatDoor.Vf (Hold OwnR Moves ret_int Moves.refl Moves.trans wp_region_mix wpMix_free wpMix_turn wpMix_end)

set_option maxRecDepth 100000 in
set_option maxHeartbeats 2000000 in
theorem vfsSpace_any (most : Int) (A : Option Addr) (n c : Nat) (os : List Op) (w : World) (hm : 0 ≤ most ∧ most ≤ 65535) (hn : n ≤ 9223372036854775807) (ho : Ops w w.heap.size A n os) :
    Calls Tryz.prog 6 #[.int .u16 most, .slice A n c] w fun e w' => e = .returned (.bool true) ∧ Below w.heap.size w w' := by
  have HWK := Lib.hid (fun W => works_any W)
  by_cases hbig : 60 < n
  · go_enter Tryz.func6, Tryz.ntmps6
    go_wp2_with (first
      | (go_at_call 10; refine (HWK.out _).mono ?_; rintro e w1 ⟨rfl, hb⟩; have HB := Lib.hid hb; clear hb)
      | fail)
    go_ret
    exact ⟨rfl, HB.out⟩
  · have hq : IntKind.i64.wrap most = most := IntWalk.i64_in _ (by omega)
    have HNW := Lib.hid (new_any most w)
    have hmx : max most 0 = most := by omega
    rw [hmx] at HNW
    have HO := Lib.hid ho
    clear ho hmx
    go_enter Tryz.func6, Tryz.ntmps6
    go_wp2_with (first
      | (go_at_call 11; refine HNW.out.mono ?_; clear HNW; rintro e w1 ⟨rfl, hA, hb⟩; have T1 := Lib.hid (one_new (show At w1 w.heap.size (newS most) (newL (w.heap.size + 1)) from hA) hb); clear hA hb)
      | fail)
    go_loopw [6] (fun i wr => ∃ (k : Nat) (s : Pf) (l0 : Loc), k ≤ n ∧ i = .int .i64 k ∧ One w w.heap.size s l0 wr ∧ Fine s (2 * k + 1) ∧ Wr s most) (fun i _ => n - (intOf i).toNat)
    case atStart => exact ⟨0, _, _, by omega, rfl, T1.out, fine_new most, wr_start hm.1⟩
    case round =>
      obtain ⟨k, s, l0, hk, rfl, h1, hf, hw⟩ := hrel
      clear T1
      by_cases hlt : k < n
      · have hol : k < os.length := by rw [HO.out.len]; exact hlt
        obtain ⟨o, hoo⟩ : ∃ o, os[k]? = some o := ⟨_, List.getElem?_eq_getElem hol⟩
        obtain ⟨hok, g, off, rfl, hg, _, hc1, hc2, _⟩ := HO.out.at_ k o hoo
        have HC : Hid (∀ W, Below w.heap.size w W → W.cell? ⟨g, off + k * 4 + 1, none⟩ = some (.string o.a) ∧ W.cell? ⟨g, off + k * 4 + 2, none⟩ = some (.string o.b)) := Lib.hid fun W hb => ⟨(hb.cell (p := ⟨g, off + k * 4 + 1, none⟩) hg).trans hc1, (hb.cell (p := ⟨g, off + k * 4 + 2, none⟩) hg).trans hc2⟩
        obtain ⟨ca, cb⟩ := HC.out wr h1.below
        have hk0 : (0 : Int) ≤ (k : Int) := by omega
        have hk1 : (k : Int) < (n : Int) := by omega
        by_cases hsa : o.a.size ≤ 300
        · by_cases hsb : o.b.size ≤ 300
          · obtain ⟨hw', hu, hrd⟩ := hw.write o.a o.b
            have hoa : okS o.a := by unfold okS; omega
            have hf' : Fine (writeS s o.a o.b) (2 * (k + 1) + 1) := (hf.write hoa).mono (by omega)
            have hU : ∀ (s : Pf) (T : Nat), T ≤ 1000 → Fine s T → ∀ W l, One w w.heap.size s l W → Calls Tryz.prog 22 #[.pointer (some ⟨w.heap.size, 0, none⟩)] W fun e w' => e = .returned (.int .i64 (usedS s)) ∧ One w w.heap.size s l w' := fun s T hT hf W l h => (used_any _ s l W h.f (hf.fits.used (by omega))).mono fun e w' ⟨he, hb⟩ => ⟨he, h.keep hb⟩
            have HU1 := Lib.hid (hU s _ (by omega) hf)
            have HU2 := Lib.hid (hU _ _ (by omega) hf')
            have HW : Hid (∀ W l, One w w.heap.size s l W → Calls Tryz.prog 16 #[.pointer (some ⟨w.heap.size, 0, none⟩), .string o.a, convV W o.b] (convW W o.b) fun e w' => e = .returned (.int .i64 (writeRes s o.a o.b)) ∧ ∃ l', One w w.heap.size (writeS s o.a o.b) l' w') := Lib.hid fun W l h => (write_any _ s l _ o.a o.b _ _ (h.keep (conv_below o.b W)).f hf.fits (by omega) hoa (conv_at o.b W)).mono fun e w' ⟨he, ha⟩ => ⟨he, (h.keep (conv_below o.b W)).on ha⟩
            have hR : ∀ W l, One w w.heap.size (writeS s o.a o.b) l W → Calls Tryz.prog 20 #[.pointer (some ⟨w.heap.size, 0, none⟩), .string o.a] W fun e w' => (∃ v, e = .returned (.tuple #[v, .int .i64 (findRes (writeS s o.a o.b) o.a).2]) ∧ (((findRes (writeS s o.a o.b) o.a).2 ≠ 0 ∧ v = .slice none 0 0) ∨ ((findRes (writeS s o.a o.b) o.a).2 = 0 ∧ NewB w' W.heap.size v (readB (writeS s o.a o.b) o.a)))) ∧ ∃ l', One w w.heap.size (writeS s o.a o.b) l' w' := fun W l h => (read_any _ _ l o.a W h.f hf'.fits.left hoa).mono fun e w' ⟨he, hA, hg⟩ => ⟨he, by
              have := h.on (read_after hA hg)
              rwa [hw'.tick] at this⟩
            have hle : (usedS (writeS s o.a o.b) : Int) ≤ most := hw'.used
            have hle0 : (usedS s : Int) ≤ most := hw.used
            have hcv := conv_run o.b
            obtain ⟨U0, hU0⟩ : ∃ U0, usedS s = U0 := ⟨_, rfl⟩
            obtain ⟨U1, hU1⟩ : ∃ U1, usedS (writeS s o.a o.b) = U1 := ⟨_, rfl⟩
            rw [hU0] at HU1 hu hle0
            rw [hU1] at HU2 hu hle
            have HF' := Lib.hid hf'; have HW' := Lib.hid hw'; have H1 := Lib.hid h1
            by_cases hr : writeRes s o.a o.b = 0
            · obtain ⟨hr1, hr2⟩ := hrd hr
              have HR : Hid (∀ W l, One w w.heap.size (writeS s o.a o.b) l W → Calls Tryz.prog 20 #[.pointer (some ⟨w.heap.size, 0, none⟩), .string o.a] W fun e w' => ∃ gb cap, e = .returned (.tuple #[.slice (some ⟨gb, 0, none⟩) o.b.size cap, .int .i64 0]) ∧ BytesAt w' (.slice (some ⟨gb, 0, none⟩) o.b.size cap) o.b ∧ ∃ l', One w w.heap.size (writeS s o.a o.b) l' w') := Lib.hid fun W l h => (hR W l h).mono fun e w' ⟨⟨v, he, hv⟩, h2⟩ => by
                rw [hr1] at he hv
                rcases hv with ⟨h0, _⟩ | ⟨_, hb⟩
                · exact absurd rfl h0
                · rw [hr2] at hb
                  have hb2 := hb.bytes
                  obtain ⟨gb, cap, m, rfl, _⟩ := hb
                  exact ⟨gb, cap, he, hb2, h2⟩
              rw [hr] at HW
              have hbe : (o.b.toList == o.b.toList) = true := by simp
              clear hR hrd hr hr1 hr2 hu hf' hw' h1 hU hf hw hU0 hU1 hoo hc1 hc2
              go_wp2_with (first
                | (go_at_call 22; refine (HU1.out _ _ H1.out).mono ?_; clear HU1; rintro e w2 ⟨rfl, h⟩; have T2 := Lib.hid h; obtain ⟨ca2, cb2⟩ := HC.out _ h.below; clear h H1)
                | fail)
              refine wp_region_mix (fun z => z.cell? ⟨g, off + k * 4 + 1, none⟩ = some (.string o.a) ∧ z.cell? ⟨g, off + k * 4 + 2, none⟩ = some (.string o.b)) [true, true, true, true, true, true, true, true, true, true, true, false, false] _ (by kernel_rfl) rfl (by kernel_rfl) ⟨ca2, cb2⟩ ?_
              dsimp only [List.dropLast, List.zip, List.zipWith, List.getLast]
              repeat (apply wpMix_free
                      · intro z hz
                        try dsimp only at hz
                        go_simp
                        all_goals with_reducible rfl
                      simp only [Act.put, List.setIfInBounds_toArray, List.set_cons_zero, List.set_cons_succ])
              refine wpMix_turn (fun K hK => ?_)
              have HK := Lib.hid hK; clear hK
              go_simp
              obtain ⟨ca3, cb3⟩ := HC.out (convW w2.drew o.b) (T2.out.below.trans ((((Below.refl w2.heap.size w2).drew).trans (conv_below o.b w2.drew)).mono T2.out.below.size))
              refine HK.out _ _ ⟨ca3, cb3⟩ ?_
              clear HK
              try simp only [Act.put, List.setIfInBounds_toArray, List.set_cons_zero, List.set_cons_succ]
              refine wpMix_turn (fun K hK => ?_)
              have HK := Lib.hid hK; clear hK
              go_simp
              refine (HW.out _ _ (T2.out.keep (Below.refl w2.heap.size w2).drew)).mono ?_
              rintro e w3 ⟨rfl, l3, h3⟩
              have T3 := Lib.hid h3
              obtain ⟨ca4, cb4⟩ := HC.out w3 h3.below
              refine HK.out _ _ ⟨ca4, cb4⟩ ?_
              clear HK h3
              try simp only [Act.put, List.setIfInBounds_toArray, List.set_cons_zero, List.set_cons_succ]
              refine wpMix_end ?_
              go_simp
              clear HW T2 ca2 cb2 ca3 cb3 ca4 cb4 hcv
              go_wp2_with (first
                | (go_at_call 22; refine (HU2.out _ _ T3.out).mono ?_; clear HU2; rintro e w4 ⟨rfl, h⟩; have T4 := Lib.hid h; obtain ⟨ca5, cb5⟩ := HC.out _ h.below; clear h T3)
                | (go_at_call 20; refine (HR.out _ _ T4.out).mono ?_; clear HR; rintro e w5 ⟨gb, cap, rfl, hb, l5, h⟩; have T5 := Lib.hid h; have htx := (fun m => (hb.below (Go.Proofs.YtlkogbdhpekpdaaGreatDoor.Vf.bl_drewN (Below.refl _ _) m)).text); clear hb; obtain ⟨ca6, cb6⟩ := HC.out _ h.below; clear h T4)
                | fail)
              go_quiet (fail)
              go_wp2_with fail
              refine ⟨⟨k + 1, _, l5, hlt, by go_num, T5.out.keep (Go.Proofs.YtlkogbdhpekpdaaGreatDoor.Vf.bl_drewN (Below.refl _ _) _), HF'.out, HW'.out⟩, by simp [intOf]; omega⟩
            · obtain ⟨r, hrr⟩ : ∃ r, writeRes s o.a o.b = r := ⟨_, rfl⟩
              have HR : Hid (∀ W l, One w w.heap.size (writeS s o.a o.b) l W → Calls Tryz.prog 20 #[.pointer (some ⟨w.heap.size, 0, none⟩), .string o.a] W fun e w' => ∃ v q, e = .returned (.tuple #[v, .int .i64 q]) ∧ ∃ l', One w w.heap.size (writeS s o.a o.b) l' w') := Lib.hid fun W l h => (hR W l h).mono fun e w' ⟨⟨v, he, _⟩, h2⟩ => ⟨v, _, he, h2⟩
              have hu1 := hu hr
              subst hu1
              rw [hrr] at HW hr
              have hz1 : (r == 0) = false := by simpa using hr
              have hz2 : decide (r = 0) = false := by simpa using hr
              have hz3 : (r != 0) = true := by simpa using hr
              clear hR hrd hu hf' hw' h1 hU hf hw hU0 hU1 hoo hc1 hc2 hrr
              go_wp2_with (first
                | (go_at_call 22; refine (HU1.out _ _ H1.out).mono ?_; clear HU1; rintro e w2 ⟨rfl, h⟩; have T2 := Lib.hid h; obtain ⟨ca2, cb2⟩ := HC.out _ h.below; clear h H1)
                | fail)
              refine wp_region_mix (fun z => z.cell? ⟨g, off + k * 4 + 1, none⟩ = some (.string o.a) ∧ z.cell? ⟨g, off + k * 4 + 2, none⟩ = some (.string o.b)) [true, true, true, true, true, true, true, true, true, true, true, false, false] _ (by kernel_rfl) rfl (by kernel_rfl) ⟨ca2, cb2⟩ ?_
              dsimp only [List.dropLast, List.zip, List.zipWith, List.getLast]
              repeat (apply wpMix_free
                      · intro z hz
                        try dsimp only at hz
                        go_simp
                        all_goals with_reducible rfl
                      simp only [Act.put, List.setIfInBounds_toArray, List.set_cons_zero, List.set_cons_succ])
              refine wpMix_turn (fun K hK => ?_)
              have HK := Lib.hid hK; clear hK
              go_simp
              obtain ⟨ca3, cb3⟩ := HC.out (convW w2.drew o.b) (T2.out.below.trans ((((Below.refl w2.heap.size w2).drew).trans (conv_below o.b w2.drew)).mono T2.out.below.size))
              refine HK.out _ _ ⟨ca3, cb3⟩ ?_
              clear HK
              try simp only [Act.put, List.setIfInBounds_toArray, List.set_cons_zero, List.set_cons_succ]
              refine wpMix_turn (fun K hK => ?_)
              have HK := Lib.hid hK; clear hK
              go_simp
              refine (HW.out _ _ (T2.out.keep (Below.refl w2.heap.size w2).drew)).mono ?_
              rintro e w3 ⟨rfl, l3, h3⟩
              have T3 := Lib.hid h3
              obtain ⟨ca4, cb4⟩ := HC.out w3 h3.below
              refine HK.out _ _ ⟨ca4, cb4⟩ ?_
              clear HK h3
              try simp only [Act.put, List.setIfInBounds_toArray, List.set_cons_zero, List.set_cons_succ]
              refine wpMix_end ?_
              go_simp
              clear HW T2 ca2 cb2 ca3 cb3 ca4 cb4 hcv
              go_wp2_with (first
                | (go_at_call 22; refine (HU2.out _ _ T3.out).mono ?_; clear HU2; rintro e w4 ⟨rfl, h⟩; have T4 := Lib.hid h; obtain ⟨ca5, cb5⟩ := HC.out _ h.below; clear h T3)
                | (go_at_call 20; refine (HR.out _ _ T4.out).mono ?_; clear HR; rintro e w5 ⟨v5, q5, rfl, l5, h⟩; have T5 := Lib.hid h; obtain ⟨ca6, cb6⟩ := HC.out _ h.below; clear h T4)
                | fail)
              go_quiet (fail)
              go_wp2_with fail
              refine ⟨⟨k + 1, _, l5, hlt, by go_num, T5.out.keep (Go.Proofs.YtlkogbdhpekpdaaGreatDoor.Vf.bl_drewN (Below.refl _ _) _), HF'.out, HW'.out⟩, by simp [intOf]; omega⟩
          · go_wp2_with (first
              | (go_at_call 10; refine (HWK.out _).mono ?_; rintro e w13 ⟨rfl, hbw⟩; have B13 := Lib.hid hbw; clear hbw)
              | fail)
            go_ret
            exact ⟨rfl, h1.below.trans (B13.out.mono h1.below.size)⟩
        · go_wp2_with (first
            | (go_at_call 10; refine (HWK.out _).mono ?_; rintro e w13 ⟨rfl, hbw⟩; have B13 := Lib.hid hbw; clear hbw)
            | fail)
          go_ret
          exact ⟨rfl, h1.below.trans (B13.out.mono h1.below.size)⟩
      · go_wp2_with (first
          | (go_at_call 10; refine (HWK.out _).mono ?_; rintro e w13 ⟨rfl, hbw⟩; have B13 := Lib.hid hbw; clear hbw)
          | fail)
        go_ret
        exact ⟨rfl, h1.below.trans (B13.out.mono h1.below.size)⟩
end Go.Proofs.YtlkogbdhpekpdaaGreatDoor.Vp
