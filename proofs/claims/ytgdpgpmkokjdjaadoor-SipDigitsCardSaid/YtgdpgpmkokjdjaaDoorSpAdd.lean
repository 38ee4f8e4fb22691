/-
  What (*clepsydra/sip.Hash).Add does: the bytes come behind those that were added.
-/
import Derived.Test.YtgdpgpmkokjdjaaDoorSpHas
import Derived.StillTailTactics
import Derived.LoopTactic
import Derived.Outline
namespace Go.Proofs.YtgdpgpmkokjdjaaDoor.Sp
open Go.RowKit

def lenOf : Value → Nat
  | .slice _ n _ => n
  | _ => 0
theorem u8_size : (Tryd.prog.info? 5).map (·.size) = some 1 := by kernel_rfl

theorem ite_some (a b : Nat) (ad : Addr) : some (if a = b then ad else ad.add b) = (if a = b then some ad else some (ad.add b)) := by split <;> rfl
set_option maxHeartbeats 4000000 in
set_option maxRecDepth 100000 in
theorem add_any (g B n c : Nat) (A : Option Addr) (k bs xs : List Int) (w : World) (hh : Has w g k bs) (hr : Row w B A n xs) (hx : Bytes xs) (hB : B ≤ g) (hc : n ≤ c) (hm : n ≤ 4294967296) :
    Calls Tryd.prog 12 #[.pointer (some ⟨g, 0, none⟩), .slice A n c] w fun e w' => e = .returned (.tuple #[]) ∧ Has w' g k (bs ++ xs) ∧ Below g w w' := by
  have HL := Lib.hid hr.len
  have HU := Lib.hid u8_size
  go_enter Tryd.func12, Tryd.ntmps12
  go_wp2
  go_loopw [1] (fun v wr => ∃ (j c' : Nat) (A' : Option Addr), j ≤ n ∧ v = .slice A' (n - j) c' ∧ n - j ≤ c' ∧ Row wr B A' (n - j) (xs.drop j) ∧ Has wr g k (bs ++ xs.take j) ∧ Below g w wr) (fun v _ => lenOf v)
  case atStart => exact ⟨0, c, A, by omega, rfl, hc, by simpa using hr, by simpa using hh, Below.refl _ _⟩
  case round =>
    obtain ⟨j, c', A', hj, rfl, hc', hr', hh', hb'⟩ := hrel
    obtain ⟨m, hmj⟩ : ∃ m, n - j = m := ⟨_, rfl⟩
    rw [hmj] at hc' hr' ⊢
    obtain ⟨ys, hys⟩ : ∃ ys, xs.drop j = ys := ⟨_, rfl⟩
    obtain ⟨cs, hcs⟩ : ∃ cs, bs ++ xs.take j = cs := ⟨_, rfl⟩
    rw [hys] at hr'
    rw [hcs] at hh'
    have hyb : Bytes ys := by rw [← hys]; exact hx.drop _
    have HYS := Lib.hid hys; clear hys
    have HCS := Lib.hid hcs; clear hcs
    have HMJ := Lib.hid hmj
    have hm2 : m ≤ 4294967296 := by omega
    clear hmj
    by_cases hpos : 0 < m
    · obtain ⟨l, hl, hlb, ht, ho⟩ := hh'
      obtain ⟨q, hq⟩ : ∃ q, feed (init k) cs (cs.length / 8) = q := ⟨_, rfl⟩
      rw [hq] at ho
      have HQ := Lib.hid hq; clear hq
      obtain ⟨C, hC⟩ : ∃ C, cs.length % 256 = C := ⟨_, rfl⟩
      obtain ⟨r, hrr⟩ : ∃ r, cs.length % 8 = r := ⟨_, rfl⟩
      have hmod : (C : Int) % 8 = (r : Int) := by omega
      have hmodt : (C : Int).tmod 8 = (r : Int) := by rw [Int.tmod_eq_emod_of_nonneg (by omega)]; exact hmod
      have hC1 : C ≤ 255 := by omega
      have hr8 : r < 8 := by omega
      obtain ⟨L, hL⟩ : ∃ L, min m (8 - r) = L := ⟨_, rfl⟩
      have hL1 : 1 ≤ L := by omega
      have hL2 : L ≤ m := by omega
      have hL3 : r + L ≤ 8 := by omega
      obtain ⟨ad, hA, had, _⟩ := hr'.get hpos
      subst hA
      have hcell : ∀ (i : Nat) (v : Value), ((ys.take L).map by8)[i]? = some v → wr.cell? (ad.add i) = some v := fun i v hv => by
        rw [List.getElem?_map, List.getElem?_take] at hv
        split at hv
        · cases hz : ys[i]? with
          | none => rw [hz] at hv; cases hv
          | some z =>
            rw [hz] at hv
            obtain ⟨ad2, e, _, hc2⟩ := hr'.2 i z hz
            injection e with e; subst e
            rw [hc2]; exact hv
        · cases hv
      have HCELL := Lib.hid hcell; clear hcell
      have hyl : ((ys.take L).map by8).length = L := by rw [List.length_map, List.length_take, hr'.len]; omega
      have cnt : wr.cell? ⟨g, 12, none⟩ = some (.int .u8 (C : Int)) := by rw [ho.cell, hC]; exact hc_count _ _ _ hl
      have HYL := Lib.hid hyl; clear hyl
      have HHL := Lib.hid hl; clear hl
      have HC := Lib.hid hC; rw [hC] at ho; clear hC
      have HRR := Lib.hid hrr; clear hrr
      have HLL := Lib.hid hL; clear hL
      have HO := Lib.hid ho; clear ho
      have h8r : ¬ (8 = r) := by omega
      have hr80 : (0 : Int) ≤ (r : Int) := by omega
      have hr81 : (r : Int) ≤ 8 := by omega
      go_wp2_with fail
      refine wp_region_still_tail 10 (by kernel_rfl) (by kernel_rfl) ?_
      simp only [List.take_succ_cons, List.take_zero, List.drop_succ_cons, List.drop_zero]
      repeat still_step
      refine wpStill_nil ?_
      change wpList _ _ _ _ _ wr.drew
      refine wpList_copy_splice rfl (.tmp 18) (.tmp 19) 24 24 rfl 5 Tryd.underlying24 HU.out (some ⟨g, 4 + r, none⟩) (some ad) (8 - r) (8 - r) m c' rfl rfl g (4 + r) (hcells q l (C : Int)) 51 HO.out ((ys.take L).map by8)
        (HYL.out.trans HLL.out.symm) (fun _ => ⟨rfl, ad, rfl, HCELL.out⟩) (by rw [HYL.out, hc_len _ _ _ HHL.out]; omega) (fun v hv => by obtain ⟨z, _, rfl⟩ := List.mem_map.1 hv; rfl) g w hb'.drew (Nat.le_refl _) ?_
      intro w2 HG2 hb2
      rw [HYL.out]
      have hyl : (ys.take L).length = L := by have := HYL.out; rwa [List.length_map] at this
      have ho2 : Hold w2 g 51 (hcells q (splice l r (ys.take L)) (C : Int)) := by rw [← hc_splice _ _ _ _ _ HHL.out (by omega)]; exact HG2.out
      clear HG2 HO cnt
      obtain ⟨l2, hl2⟩ : ∃ l2, splice l r (ys.take L) = l2 := ⟨_, rfl⟩
      have hll : l2.length = 8 := by rw [← hl2]; exact sp_len _ _ _ HHL.out (by omega)
      have hlb2 : Bytes l2 := by rw [← hl2]; exact sp_bytes _ hlb (hyb.take _)
      rw [hl2] at ho2
      have HL2 := Lib.hid hl2; clear hl2
      have cnt : w2.cell? ⟨g, 12, none⟩ = some (.int .u8 (C : Int)) := by rw [ho2.cell]; exact hc_count _ _ _ hll
      have frz : w2.frozen? ⟨g, 12, none⟩ = false := ho2.frozen 12
      have HLL2 := Lib.hid hll; clear hll
      have HO := Lib.hid ho2; clear ho2
      have HYL2 := Lib.hid hyl; clear hyl
      obtain ⟨D, hD⟩ : ∃ D, (C + L) % 256 = D := ⟨_, rfl⟩
      have hD1 : D ≤ 255 := by omega
      have hsum : IntKind.u8.wrap ((C : Int) + (L : Int)) = (D : Int) := by rw [IntKind.wrap_u8]; omega
      have hle : (L : Int) ≤ 8 := by omega
      have hcs1 : cs.length % 256 = C := HC.out
      have hcs2 : cs.length % 8 = r := HRR.out
      have hrow : Row w2 B (some (if c' = L then ad else ad.add L)) (m - L) (ys.drop L) := by
        have h2 := (hr'.keep (w' := w2) (fun p hp => ?_)).cut (cap := c') hc' hL2
        · by_cases e : c' = L
          · rw [if_pos e] at h2 ⊢; exact h2
          · rw [if_neg e] at h2 ⊢; exact h2
        · exact ((hb2.cell (p := p) (by omega)).trans (hb'.cell (p := p) (by omega)).symm)
      by_cases hw : r + L = 8
      · have hd8 : (D : Int) % 8 = 0 := by omega
        have hD2 : (cs.length + L) % 256 = D := by omega
        have HD := Lib.hid hD; clear hD
        have HD2 := Lib.hid hD2; clear hD2
        have HR8 := Lib.hid hcs2; clear hcs2
        have HC8 := Lib.hid hcs1; clear hcs1
        have HW := Lib.hid hw; clear hw
        have HROW := Lib.hid hrow; clear hrow
        go_wp2_with fail
        all_goals
          refine wp_world (fun W => Hold W g 51 (hcells q l2 (D : Int)) ∧ Below g w W ∧ (∀ p : Addr, p.block < g → W.cell? p = w2.cell? p)) ⟨by rw [← hc_set q l2 (C : Int) (D : Int) HLL2.out]; exact HO.out.set 12 _, hb2.setCell (Nat.le_refl _) _, fun p hp => World.cell?_setCell_other _ _ _ _ (by rintro rfl; exact absurd hp (by simp))⟩ ?_
          rintro W ⟨ho3, hb3, hk3⟩
          have HO3 := Lib.hid ho3; clear ho3
          have HK3 := Lib.hid hk3; clear hk3
          clear cnt frz HO
          refine wp_region_still_tail 8 (by kernel_rfl) (by kernel_rfl) ?_
          simp only [List.take_succ_cons, List.take_zero, List.drop_succ_cons, List.drop_zero]
          repeat still_step
          still_call (((number_any (some ⟨g, 4, none⟩) 8 8 (g + 1) l2 W.drew (Row.of_hold (show Hold W.drew g 51 (hcells q l2 (D : Int)) from HO3.out) (by omega) HLL2.out (fun i z hz => hc_left _ _ _ i z hz)) hlb2 (by omega))).mono fun _ _ ⟨he, hw⟩ => ⟨he, hw.symm⟩)
          repeat still_step
          refine wpStill_nil ?_
          change wpList _ _ _ _ _ W.drew
          go_wp2_with fail
          refine (take_any g 51 q (l2.map by8 ++ [by8 (D : Int)]) (num l2) W.drew (show Hold W.drew g 51 (hcells q l2 (D : Int)) from HO3.out)).mono ?_
          rintro e w4 ⟨rfl, ho4⟩
          have hb4 : Below g W w4 := (Below.refl g W).drew.trans (gb_below_g ho4.fr (Hold.lt HO3.out))
          have hH : Hold w4 g 51 (hcells (eat q (num l2)) l2 (D : Int)) := ho4.hold
          have HH := Lib.hid hH; clear hH ho4
          have HB4 := Lib.hid hb4; clear hb4
          go_wp2_with fail
          have hmj := HMJ.out
          have hrow4 : Row w4 B (if c' = L then some ad else some (ad.add L)) (m - L) (ys.drop L) := (ite_some c' L ad ▸ HROW.out).keep fun p hp => (HB4.out.cell (p := p) (by omega)).trans (HK3.out p (by omega))
          have en : n - (j + L) = m - L := by omega
          first
            | (rw [if_neg (by assumption)] at hrow4; refine ⟨⟨j + L, c' - L, some (ad.add L), by omega, by rw [en], by omega, ?_, ?_, (hb3.trans HB4.out)⟩, by simp only [lenOf]; omega⟩)
            | (rw [if_pos (by assumption)] at hrow4; refine ⟨⟨j + L, 0, some ad, by omega, by rw [en], by omega, ?_, ?_, (hb3.trans HB4.out)⟩, by simp only [lenOf]; omega⟩)
          · rw [show n - (j + L) = m - L by omega, ← List.drop_drop, HYS.out]; exact hrow4
          · rw [List.take_add, HYS.out, ← List.append_assoc, HCS.out]
            exact has_whole HHL.out hlb ht (hyb.take _) (by rw [HYL2.out, HR8.out]; exact HW.out) (by rw [HYL2.out, HR8.out, HL2.out, HD2.out, HQ.out]; exact HH.out)
      · have hd8 : ((D : Int) % 8 == 0) = false := by
          have : (D : Int) % 8 = (r + L : Nat) := by omega
          rw [this]; simp; omega
        have hlt8 : r + L < 8 := by omega
        have hD2 : (cs.length + L) % 256 = D := by omega
        have HD := Lib.hid hD; clear hD
        have HD2 := Lib.hid hD2; clear hD2
        have HR8 := Lib.hid hcs2; clear hcs2
        have HC8 := Lib.hid hcs1; clear hcs1
        have HROW := Lib.hid hrow; clear hrow
        go_wp2_with fail
        have hmj := HMJ.out
        have hk3 : ∀ p : Addr, p.block < g → (w2.setCell ⟨g, 12, none⟩ (.int .u8 (D : Int))).cell? p = w2.cell? p := fun p hp => World.cell?_setCell_other _ _ _ _ (by rintro rfl; exact absurd hp (by simp))
        have hrow4 : Row (w2.setCell ⟨g, 12, none⟩ (.int .u8 (D : Int))) B (if c' = L then some ad else some (ad.add L)) (m - L) (ys.drop L) := (ite_some c' L ad ▸ HROW.out).keep fun p hp => hk3 p (by omega)
        refine ⟨⟨j + L, c' - L, _, by omega, by rw [show n - (j + L) = m - L by omega], by omega, ?_, ?_, hb2.setCell (Nat.le_refl _) _⟩, by simp only [lenOf]; omega⟩
        · rw [show n - (j + L) = m - L by omega, ← List.drop_drop, HYS.out]; exact hrow4
        · rw [List.take_add, HYS.out, ← List.append_assoc, HCS.out]
          exact has_less HHL.out hlb ht (hyb.take _) (by rw [HYL2.out, HR8.out]; exact hlt8) (by rw [HYL2.out, HR8.out, HL2.out, HD2.out, HQ.out]; rw [← hc_set q l2 (C : Int) (D : Int) HLL2.out]; exact HO.out.set 12 _)
    · go_wp2
      go_end0
      have hm0 : m = 0 := by omega
      have hjn : j = n := by have := HMJ.out; omega
      refine ⟨rfl, ?_, hb'⟩
      have e : cs = bs ++ xs := by rw [← HCS.out, hjn, List.take_of_length_le (by have := HL.out; omega)]
      rw [← e]; exact hh'
end Go.Proofs.YtgdpgpmkokjdjaaDoor.Sp
