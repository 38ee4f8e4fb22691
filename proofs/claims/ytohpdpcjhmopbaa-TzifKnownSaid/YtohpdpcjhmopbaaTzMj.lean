/-
  TzKs, TzKt, TzKu, TzKv, TzKw, TzKy, TzKz, TzLa, one behind the other.
-/
import Derived.Test.YtohpdpcjhmopbaaTzKr
import Derived.Test.YtohpdpcjhmopbaaTzBx
import Derived.Test.YtohpdpcjhmopbaaTzMd
import Derived.Test.YtohpdpcjhmopbaaTzPutsW
import Derived.Test.YtohpdpcjhmopbaaTzifPutsWalk
import Derived.Test.YtohpdpcjhmopbaaTzifBackWalk
import Derived.Test.YtohpdpcjhmopbaaTzifOldWalk
/-! Layer 6 (tzif): the document's Parse of any bytes whose version, if they have a head, is not 0. -/
namespace Go.Proofs.Ytohpdpcjhmopbaa.Tz
open Go.RowKit

/-- What the document's Parse answers. -/
def RParP (l : List Nat) (w : World) (e : Ending) (w' : World) : Prop :=
  (parseR l = none → e = .returned (.tuple #[noZone, .bool false])) ∧ (∀ z, parseR l = some z → ∃ vt vs vi, e = .returned (.tuple #[.agg #[vt, vs, vi, .string z.footer], .bool true]) ∧ ZnR w' (w.heap.size + 1) z vt vs vi) ∧ Below w.heap.size w w'
theorem rparP_no {l : List Nat} {w : World} (hn : parseR l = none) {e : Ending} {w' : World} (h : e = .returned (.tuple #[noZone, .bool false]) ∧ Below w.heap.size w w') : RParP l w e w' :=
  ⟨fun _ => h.1, (fun z hz => by rw [hn] at hz; cases hz), h.2⟩
theorem parseR_no {l : List Nat} (h : parseZ l = none) : parseR l = none := by unfold parseR; rw [h]; rfl
theorem parseR_bad {l : List Nat} {z : Zn} (h : parseZ l = some z) (hr : rightZ z = false) : parseR l = none := by unfold parseR; rw [h]; simp [hr]
theorem parseR_yes {l : List Nat} {z : Zn} (h : parseZ l = some z) (hr : rightZ z = true) : parseR l = some z := by unfold parseR; rw [h]; simp [hr]
theorem rightZ_less {z : Zn} {F : ByteArray} (hz : z.footer = ⟨#[]⟩) (h : rightZ { z with footer := F } = true) : rightZ z = true := by
  unfold rightZ at h ⊢
  simp only [Bool.and_eq_true] at h ⊢
  exact ⟨⟨h.1.1, by rw [hz]; rfl⟩, by rw [hz]; rfl⟩
theorem parseZ2 (l : List Nat) (hq : hdGood l = true) (hv : l.getD 4 0 ≠ 0) : parseZ l = if 44 + longN (hdOf l) 4 ≤ l.length ∧ hdGood (l.drop (44 + longN (hdOf l) 4)) = true ∧ (hdOf (l.drop (44 + longN (hdOf l) 4))).version = (hdOf l).version then
    (blockZ (hdOf (l.drop (44 + longN (hdOf l) 4))) 8 val8 (l.drop (88 + longN (hdOf l) 4))).bind fun z => (footT ((l.drop (88 + longN (hdOf l) 4)).drop (longN (hdOf (l.drop (44 + longN (hdOf l) 4))) 8))).map fun t => { z with footer := strOfNums (natsI t) } else none := by
  have h44 : 44 ≤ l.length := by
    unfold hdGood at hq
    simp only [Bool.and_eq_true, decide_eq_true_eq] at hq
    exact hq.1.1
  have e1 : behind1 l = l.drop (44 + longN (hdOf l) 4) := by unfold behind1; rw [List.drop_drop]
  have e2 : (behind1 l).drop 44 = l.drop (88 + longN (hdOf l) 4) := by rw [e1, List.drop_drop]; congr 1; omega
  unfold parseZ
  rw [if_pos hq, if_neg hv, e2, e1]
  by_cases hc : 44 + longN (hdOf l) 4 ≤ l.length ∧ hdGood (l.drop (44 + longN (hdOf l) 4)) = true ∧ (hdOf (l.drop (44 + longN (hdOf l) 4))).version = (hdOf l).version
  · rw [if_pos hc, if_pos ⟨by have := hc.1; rw [List.length_drop]; omega, hc.2.1, hc.2.2⟩]
  · rw [if_neg hc, if_neg]
    rintro ⟨a, b, d⟩
    rw [List.length_drop] at a
    exact hc ⟨by omega, b, d⟩
theorem rparse_any (l : List Nat) (gb off B n c : Nat) (w : World) (hs : SB w B (some ⟨gb, off, none⟩) n c l) (hB : B ≤ w.heap.size) (hb : ∀ b ∈ l, b < 256) (hn : n ≤ 1000000) (hv0 : hdGood l = true → l.getD 4 0 ≠ 0) :
    Calls Try.prog 40 #[.slice (some ⟨gb, off, none⟩) n c] w fun e w' => RParP l w e w' := by
  have hln := hs.1
  cases hq : hdGood l with
  | false => exact (rparse_a l gb off B n c w hs hB hb hn hq).mono fun e w' h => rparP_no (parseR_no (by unfold parseZ; rw [hq]; rfl)) h
  | true =>
    have hv := hv0 hq
    have e0 := parseZ2 l hq hv
    by_cases hl : n < 44 + longN (hdOf l) 4
    · exact (rparse_b l gb off B n c w hs hB hb hn hq hv hl).mono fun e w' h => rparP_no (parseR_no (by rw [e0, if_neg]; rintro ⟨a, _⟩; omega)) h
    have hl' : 44 + longN (hdOf l) 4 ≤ n := by omega
    cases hq2 : hdGood (l.drop (44 + longN (hdOf l) 4)) with
    | false => exact (rparse_c l gb off B n c w hs hB hb hn hq hv hl' hq2).mono fun e w' h => rparP_no (parseR_no (by rw [e0, if_neg]; rintro ⟨_, b, _⟩; rw [hq2] at b; cases b)) h
    | true =>
      by_cases hv2 : (hdOf (l.drop (44 + longN (hdOf l) 4))).version = (hdOf l).version
      · rw [if_pos ⟨by omega, hq2, hv2⟩] at e0
        by_cases hr : n - (88 + longN (hdOf l) 4) < longN (hdOf (l.drop (44 + longN (hdOf l) 4))) 8 + 2
        · have hno : parseR l = none := by
            refine parseR_no ?_
            rw [e0]
            cases blockZ (hdOf (l.drop (44 + longN (hdOf l) 4))) 8 val8 (l.drop (88 + longN (hdOf l) 4)) with
            | none => rfl
            | some z =>
              have : footT ((l.drop (88 + longN (hdOf l) 4)).drop (longN (hdOf (l.drop (44 + longN (hdOf l) 4))) 8)) = none := by
                unfold footT
                rw [if_neg]
                rintro ⟨a, _⟩
                rw [List.length_drop, List.length_drop] at a
                omega
              rw [Option.bind_some, this]
              rfl
          by_cases hc : c - (88 + longN (hdOf l) 4) = 0
          · exact (rparse_s0 l gb off B n c w hs hB hb hn hq hv hl' hq2 hv2 hc hr).mono fun e w' h => rparP_no hno h
          · exact (rparse_s l gb off B n c w hs hB hb hn hq hv hl' hq2 hv2 hc hr).mono fun e w' h => rparP_no hno h
        · cases hz : blockZ (hdOf (l.drop (44 + longN (hdOf l) 4))) 8 val8 (l.drop (88 + longN (hdOf l) 4)) with
          | none => exact (rparse_d l gb off B n c w hs hB hb hn hq hv hl' hq2 hv2 hr (fun z h => by rw [hz] at h; cases h)).mono fun e w' h => rparP_no (parseR_no (by rw [e0, hz]; rfl)) h
          | some z =>
            have hzf := (blockZ_some hz).2.2.2.2.2
            rw [hz, Option.bind_some] at e0
            cases hR : rightZ z with
            | false =>
              refine (rparse_d l gb off B n c w hs hB hb hn hq hv hl' hq2 hv2 hr (fun z' h => by rw [hz] at h; have e : z = z' := by simpa using h
                                                                                                 rw [← e]; exact hR)).mono fun e w' h => rparP_no ?_ h
              cases hf : footT ((l.drop (88 + longN (hdOf l) 4)).drop (longN (hdOf (l.drop (44 + longN (hdOf l) 4))) 8)) with
              | none => exact parseR_no (by rw [e0, hf]; rfl)
              | some t =>
                rw [hf, Option.map_some] at e0
                refine parseR_bad e0 ?_
                cases hb2 : rightZ { z with footer := strOfNums (natsI t) } with
                | false => rfl
                | true => rw [rightZ_less hzf hb2] at hR; cases hR
            | true =>
              obtain ⟨E, hE⟩ : ∃ E, (l.drop (88 + longN (hdOf l) 4)).drop (longN (hdOf (l.drop (44 + longN (hdOf l) 4))) 8) = E := ⟨_, rfl⟩
              have hEl : 2 ≤ E.length := by rw [← hE, List.length_drop, List.length_drop]; omega
              rw [hE] at e0
              by_cases h0 : E[0]? = some 10
              · by_cases h1 : E[E.length - 1]? = some 10
                · have hft : footT E = some ((E.drop 1).take (E.length - 2)) := by unfold footT; rw [if_pos ⟨hEl, h0, h1⟩]
                  rw [hft, Option.map_some] at e0
                  obtain ⟨F, hF⟩ : ∃ F, strOfNums (natsI ((E.drop 1).take (E.length - 2))) = F := ⟨_, rfl⟩
                  rw [hF] at e0
                  have hok : ZnOk { z with footer := F } := blockZ_ok hz F (by
                    rw [← hF, strOfNums_size]
                    unfold natsI
                    rw [List.length_map, List.length_take, List.length_drop, ← hE, List.length_drop, List.length_drop]
                    omega)
                  cases hRF : rightZ { z with footer := F } with
                  | false => exact (rparse_g l gb off B n c w hs hB hb hn hq hv hl' hq2 hv2 hr z hz hR (by rw [hE]; exact ⟨h0, h1⟩) F (by rw [hE]; exact hF) hok hRF).mono fun e w' h => rparP_no (parseR_bad e0 hRF) h
                  | true =>
                    refine (rparse_h l gb off B n c w hs hB hb hn hq hv hl' hq2 hv2 hr z hz hR (by rw [hE]; exact ⟨h0, h1⟩) F (by rw [hE]; exact hF) hok hRF).mono ?_
                    rintro e w' ⟨vt, vs, vi, he, hzr, hbl⟩
                    have ey := parseR_yes e0 hRF
                    refine ⟨fun hn => (by rw [ey] at hn; cases hn), fun z' hz' => ?_, hbl⟩
                    rw [ey] at hz'
                    have e2 : ({ z with footer := F } : Zn) = z' := by simpa using hz'
                    subst e2
                    exact ⟨vt, vs, vi, he, hzr⟩
                · have hft : footT E = none := by unfold footT; rw [if_neg]; rintro ⟨_, _, k⟩; exact h1 k
                  exact (rparse_f l gb off B n c w hs hB hb hn hq hv hl' hq2 hv2 hr z hz hR (by rw [hE]; exact ⟨h0, h1⟩)).mono fun e w' h => rparP_no (parseR_no (by rw [e0, hft]; rfl)) h
              · have hft : footT E = none := by unfold footT; rw [if_neg]; rintro ⟨_, k, _⟩; exact h0 k
                exact (rparse_e l gb off B n c w hs hB hb hn hq hv hl' hq2 hv2 hr z hz hR (by rw [hE]; exact ⟨h0, rfl⟩)).mono fun e w' h => rparP_no (parseR_no (by rw [e0, hft]; rfl)) h
      · exact (rparse_v l gb off B n c w hs hB hb hn hq hv hl' hq2 hv2).mono fun e w' h => rparP_no (parseR_no (by rw [e0, if_neg]; rintro ⟨_, _, k⟩; exact hv2 k)) h
end Go.Proofs.Ytohpdpcjhmopbaa.Tz

/-! Layer 6 (tzif): the law TzifParses, of bytes whose version, if they have a head, is not 0. -/
namespace Go.Proofs.Ytohpdpcjhmopbaa.Tz
open Go.RowKit

set_option maxRecDepth 100000 in
set_option maxHeartbeats 1000000 in
theorem tparses_in (y : Zn) (hy : ZnOk y) (ht : y.types.length ≤ 1000) (cd : Int) (okb : Bool) (hcd : cd = 0 ∧ okb = true ∨ cd = 60 ∧ okb = false) (gb off n c : Nat) (w : World) (hn : n ≤ 4000)
    (HPP : ∀ V, Below w.heap.size w V → Calls Try.prog 19 #[.slice (some ⟨gb, off, none⟩) n c] V fun e w' => ∃ a1 c1 a2 c2 a3 c3, e = .returned (.tuple #[.agg #[.slice a1 y.types.length c1, .slice a2 y.times.length c2, .slice a3 y.index.length c3, .string y.footer], .int .i64 cd]) ∧ ZnAt w' w'.heap.size y (.slice a1 y.types.length c1) (.slice a2 y.times.length c2) (.slice a3 y.index.length c3) ∧ Below V.heap.size V w')
    (HDD : ∀ V, Below w.heap.size w V → Calls Try.prog 40 #[.slice (some ⟨gb, off, none⟩) n c] V fun e w' => ∃ a1 c1 a2 c2 a3 c3, e = .returned (.tuple #[.agg #[.slice a1 y.types.length c1, .slice a2 y.times.length c2, .slice a3 y.index.length c3, .string y.footer], .bool okb]) ∧ ZnAt w' w'.heap.size y (.slice a1 y.types.length c1) (.slice a2 y.times.length c2) (.slice a3 y.index.length c3) ∧ Below V.heap.size V w') :
    Calls Try.prog 20 #[.slice (some ⟨gb, off, none⟩) n c] w fun e w' => e = .returned (.bool true) ∧ Below w.heap.size w w' := by
  have HP := Lib.hid HPP
  have HD := Lib.hid HDD
  have HY := Lib.hid hy
  have HT := Lib.hid ht
  clear HPP HDD hy ht
  have i0 : (n : Int) ≤ 4000 := by omega
  have i1 : ¬ (4000 : Int) < (n : Int) := by omega
  rcases hcd with ⟨rfl, rfl⟩ | ⟨rfl, rfl⟩
  all_goals
    go_enter Try.func20, Try.ntmps20
    go_upto_region 7 with (first
      | (go_at_call 19; refine (HP.out _ (Below.refl _ _)).mono ?_; clear HP; rintro e V1 ⟨a1, c1, a2, c2, a3, c3, rfl, hz, hb⟩; have HZ1 := Lib.hid hz; have HB1 := Lib.hid hb; clear hz hb)
      | (go_at_call 40; refine (HD.out _ (HB1.out.alloc HB1.out.size _)).mono ?_; clear HD; rintro e V2 ⟨b1, d1, b2, d2, b3, d3, rfl, hz, hb⟩; have HZ2 := Lib.hid hz; have HB2 := Lib.hid hb; clear hz hb)
      | fail)
    have HX1 := Lib.hid (ZnBox.new V1 V1.heap.size rfl (.slice a1 y.types.length c1) (.slice a2 y.times.length c2) (.slice a3 y.index.length c3) (.string y.footer) 26)
    have HX2 := Lib.hid (ZnBox.new V2 V2.heap.size rfl (.slice b1 y.types.length d1) (.slice b2 y.times.length d2) (.slice b3 y.index.length d3) (.string y.footer) 31)
    refine wp_world (R := fun K => Below V2.heap.size V2 K ∧ ZnBox K V2.heap.size (.slice b1 y.types.length d1) (.slice b2 y.times.length d2) (.slice b3 y.index.length d3) (.string y.footer) ∧ ZnBox K V1.heap.size (.slice a1 y.types.length c1) (.slice a2 y.times.length c2) (.slice a3 y.index.length c3) (.string y.footer)) ⟨(Below.refl _ _).alloc (Nat.le_refl _) _, HX2.out, (HX1.out.below HB2.out (by simp)).below ((Below.refl V2.heap.size V2).alloc (Nat.le_refl _) _) (Nat.lt_of_lt_of_le (by simp) HB2.out.size)⟩ ?_
    clear HX1 HX2
    rintro K ⟨hk, hx2, hx1⟩
    have HK := Lib.hid hk
    have HX1 := Lib.hid hx1
    have HX2 := Lib.hid hx2
    clear hk hx1 hx2
    have HKV2 : Hid (∀ u, Below K.heap.size K u → Below V2.heap.size V2 u) := Lib.hid fun u hu => HK.out.trans (hu.mono HK.out.size)
    have HKV1 : Hid (∀ u, Below K.heap.size K u → Below V1.heap.size V1 u) := Lib.hid fun u hu => ((Below.refl V1.heap.size V1).alloc (Nat.le_refl _) _).trans ((HB2.out.mono (by simp)).trans ((HKV2.out u hu).mono (Nat.le_trans (by simp) HB2.out.size)))
    have HFIN : Hid (∀ u, Below K.heap.size K u → Below w.heap.size w u) := Lib.hid fun u hu => HB1.out.trans ((HKV1.out u hu).mono HB1.out.size)
    have HP8 : Hid (∀ u, Below K.heap.size K u → Calls Try.prog 10 #[.agg #[.slice a1 y.types.length c1, .slice a2 y.times.length c2, .slice a3 y.index.length c3, .string y.footer]] u fun e w' => ∃ A c, e = .returned (.agg #[.slice A y.types.length c, .slice a2 y.times.length c2, .slice a3 y.index.length c3, .string y.footer]) ∧ ZnAt w' w'.heap.size y (.slice A y.types.length c) (.slice a2 y.times.length c2) (.slice a3 y.index.length c3) ∧ Below K.heap.size K w') := Lib.hid fun u hu => by
      refine (plain_any y _ _ _ V1.heap.size u (HZ1.out.below (HKV1.out u hu) (Nat.le_refl _)) HT.out (HKV1.out u hu).size).mono ?_
      rintro e w' ⟨A, c, h1, h2, h3⟩
      exact ⟨A, c, h1, h2, hu.trans (h3.mono hu.size)⟩
    have HQ8 : Hid (∀ u A c, Below K.heap.size K u → ZnAt u u.heap.size y (.slice A y.types.length c) (.slice a2 y.times.length c2) (.slice a3 y.index.length c3) → Calls Try.prog 18 #[.agg #[.slice A y.types.length c, .slice a2 y.times.length c2, .slice a3 y.index.length c3, .string y.footer], .agg #[.slice b1 y.types.length d1, .slice b2 y.times.length d2, .slice b3 y.index.length d3, .string y.footer]] u fun e w' => e = .returned (.bool true) ∧ Below K.heap.size K w') := Lib.hid fun u A c hu hz => by
      have := rsame_any y y _ _ _ _ _ _ u.heap.size u hz ((HZ2.out.below (HKV2.out u hu) (Nat.le_refl _)).up (HKV2.out u hu).size) HY.out (Nat.le_refl _)
      rw [same_refl] at this
      exact this.mono fun e w' ⟨h1, h2⟩ => ⟨h1, hu.trans (h2.mono hu.size)⟩
    have HW8 : Hid (∀ u, Below K.heap.size K u → Calls Try.prog 9 #[] u fun e w' => e = .returned (.bool true) ∧ Below K.heap.size K w') := Lib.hid fun u hu => (works_any u).mono fun e w' ⟨h1, h2⟩ => ⟨h1, hu.trans (h2.mono hu.size)⟩
    have HSK : Hid (∀ u, Below K.heap.size K u → u.cell? ⟨V1.heap.size, 0, none⟩ = some (.slice a1 y.types.length c1) ∧ u.cell? ⟨V1.heap.size, 1, none⟩ = some (.slice a2 y.times.length c2) ∧ u.cell? ⟨V1.heap.size, 2, none⟩ = some (.slice a3 y.index.length c3) ∧ u.cell? ⟨V1.heap.size, 3, none⟩ = some (.string y.footer) ∧ u.cell? ⟨V2.heap.size, 0, none⟩ = some (.slice b1 y.types.length d1) ∧ u.cell? ⟨V2.heap.size, 1, none⟩ = some (.slice b2 y.times.length d2) ∧ u.cell? ⟨V2.heap.size, 2, none⟩ = some (.slice b3 y.index.length d3) ∧ u.cell? ⟨V2.heap.size, 3, none⟩ = some (.string y.footer) ∧ Below K.heap.size K u) := Lib.hid fun u hu => by
      have h1 := HX1.out.below hu HX1.out.lt
      have h2 := HX2.out.below hu HX2.out.lt
      exact ⟨h1.c0, h1.c1, h1.c2, h1.c3, h2.c0, h2.c1, h2.c2, h2.c3, hu⟩
    clear HX1 HX2 HKV1 HKV2 HK HZ1 HZ2 HB1 HB2
    go_region_held3 (fun u => u.cell? ⟨V1.heap.size, 0, none⟩ = some (.slice a1 y.types.length c1) ∧ u.cell? ⟨V1.heap.size, 1, none⟩ = some (.slice a2 y.times.length c2) ∧ u.cell? ⟨V1.heap.size, 2, none⟩ = some (.slice a3 y.index.length c3) ∧ u.cell? ⟨V1.heap.size, 3, none⟩ = some (.string y.footer) ∧ u.cell? ⟨V2.heap.size, 0, none⟩ = some (.slice b1 y.types.length d1) ∧ u.cell? ⟨V2.heap.size, 1, none⟩ = some (.slice b2 y.times.length d2) ∧ u.cell? ⟨V2.heap.size, 2, none⟩ = some (.slice b3 y.index.length d3) ∧ u.cell? ⟨V2.heap.size, 3, none⟩ = some (.string y.footer) ∧ Below K.heap.size K u)
      (first | exact HSK.out _ (by assumption) | exact HSK.out _ (Below.refl _ _).drew | exact HSK.out _ (Below.refl _ _))
      (first
        | (go_at_call 10; (with_reducible refine (HP8.out _ (by first | assumption | exact (Below.refl _ _).drew)).mono ?_); rintro e w' ⟨Pt, pt, rfl, hzp, hk⟩; have HZP := Lib.hid hzp; clear hzp)
        | (go_at_call 18; (with_reducible refine (HQ8.out _ _ _ (by assumption) HZP.out).mono ?_); rintro e w' ⟨rfl, hk⟩)
        | (go_at_call 9; (with_reducible refine (HW8.out _ (by assumption)).mono ?_); rintro e w' ⟨rfl, hk⟩))
    all_goals (go_wp2_with fail)
    all_goals go_ret
    all_goals exact ⟨by first | rfl | simp, HFIN.out _ (by assumption)⟩
end Go.Proofs.Ytohpdpcjhmopbaa.Tz

/-! Layer 6 (tzif): the law TzifParses of any bytes (of no version 0). -/
namespace Go.Proofs.Ytohpdpcjhmopbaa.Tz
open Go.RowKit

theorem parseR_right {l : List Nat} {z : Zn} (h : parseR l = some z) : parseZ l = some z ∧ rightZ z = true := by
  unfold parseR at h
  cases hz : parseZ l with
  | none => rw [hz] at h; cases h
  | some y =>
    rw [hz, Option.bind_some] at h
    split at h
    · rename_i hr
      have e : y = z := by simpa using h
      subst e
      exact ⟨rfl, hr⟩
    · cases h
theorem tparses_any (l : List Nat) (gb off n c : Nat) (m : Int) (w : World) (hs : SB w w.heap.size (some ⟨gb, off, none⟩) n c l) (hb : ∀ b ∈ l, b < 256) (hn : n ≤ 4000) (h1 : 0 < w.heap.size) (h0 : w.cell? ⟨0, 0, none⟩ = some (.int .i64 m)) (hv0 : hdGood l = true → l.getD 4 0 ≠ 0) :
    Calls Try.prog 20 #[.slice (some ⟨gb, off, none⟩) n c] w fun e w' => e = .returned (.bool true) ∧ Below w.heap.size w w' := by
  have HPP := fun V (hV : Below w.heap.size w V) => Parse_any l (some ⟨gb, off, none⟩) n c m V ((hs.below hV (Nat.le_refl _)).up hV.size) hb (Nat.lt_of_lt_of_le h1 hV.size) (cells_at 0 hV h1 h0)
  have HDD := fun V (hV : Below w.heap.size w V) => rparse_any l gb off w.heap.size n c V (hs.below hV (Nat.le_refl _)) hV.size hb (by omega) hv0
  cases hr : parseR l with
  | none =>
    refine tparses_in ⟨[], [], [], ⟨#[]⟩⟩ ⟨by decide, by decide, by decide, (fun t ht => by cases ht), by show (0 : Nat) ≤ _; omega⟩ (by decide) 60 false (.inr ⟨rfl, rfl⟩) gb off n c w hn (fun V hV => (HPP V hV).mono ?_) (fun V hV => (HDD V hV).mono ?_)
    · rintro e w' ⟨a, _, b⟩
      exact ⟨none, 0, none, 0, none, 0, a hr, ⟨Sl.none_ _ _ _, Sl.none_ _ _ _, Sl.none_ _ _ _⟩, b⟩
    · rintro e w' ⟨a, _, b⟩
      exact ⟨none, 0, none, 0, none, 0, a hr, ⟨Sl.none_ _ _ _, Sl.none_ _ _ _, Sl.none_ _ _ _⟩, b⟩
  | some z =>
    obtain ⟨hz, hR⟩ := parseR_right hr
    have hlen : l.length ≤ 9223372036854775807 := by have := hs.1; omega
    refine tparses_in z (parseZ_ok hlen hz) (by have := (right_all hR).1; omega) 0 true (.inl ⟨rfl, rfl⟩) gb off n c w hn (fun V hV => (HPP V hV).mono ?_) (fun V hV => (HDD V hV).mono ?_)
    · rintro e w' ⟨_, a, b⟩
      obtain ⟨vt, vs, vi, he, ho⟩ := a z hr
      obtain ⟨a1, c1, rfl⟩ := ho.types.form
      obtain ⟨a2, c2, rfl⟩ := ho.times.form
      obtain ⟨a3, c3, rfl⟩ := ho.index.form
      exact ⟨_, _, _, _, _, _, he, ho.at_, b⟩
    · rintro e w' ⟨_, a, b⟩
      obtain ⟨vt, vs, vi, he, ho⟩ := a z hr
      obtain ⟨a1, c1, rfl⟩ := ho.types.form
      obtain ⟨a2, c2, rfl⟩ := ho.times.form
      obtain ⟨a3, c3, rfl⟩ := ho.index.form
      exact ⟨_, _, _, _, _, _, he, ho.at_, b⟩
end Go.Proofs.Ytohpdpcjhmopbaa.Tz

/-! Layer 6 (tzif): the zone of the law TzifKnown, its file, and the files that are spoilt (plain). -/
namespace Go.Proofs.Ytohpdpcjhmopbaa.Tz
open Go.RowKit

def zK : Zn := ⟨[⟨3600, false, ⟨#[67, 69, 84]⟩⟩, ⟨7200, true, ⟨#[67, 69, 83, 84]⟩⟩], [-1099511627776, 0, 1099511627776], [0, 1, 0], ⟨#[67, 69, 84, 45, 49, 67, 69, 83, 84, 44, 77, 51, 46, 53, 46, 48, 44, 77, 49, 48, 46, 53, 46, 48, 47, 51]⟩⟩
theorem zK_right : rightZ zK = true := by decide
theorem zK_in : ZnIn zK := ⟨by
  intro t ht
  simp [zK] at ht
  rcases ht with rfl | rfl
  · exact ⟨by decide, by show (3 : Nat) ≤ _; omega⟩
  · exact ⟨by decide, by show (4 : Nat) ≤ _; omega⟩, by
  intro t ht
  simp [zK] at ht
  rcases ht with rfl | rfl | rfl <;> exact ⟨by decide, by decide⟩, by
  intro t ht
  simp [zK] at ht
  rcases ht with rfl | rfl | rfl <;> exact ⟨by decide, by decide⟩, by show (26 : Nat) ≤ _; omega, by show (2 : Nat) ≤ _; omega, by show (3 : Nat) ≤ _; omega, by show (3 : Nat) ≤ _; omega⟩
/-- Its file. -/
def fK : List Nat := nats (putB zK)
set_option maxRecDepth 100000 in
theorem fK_len : fK.length = 171 := by decide
theorem fK_byt : ∀ b ∈ fK, b < 256 := (putB_byt zK).lt
set_option maxRecDepth 100000 in
theorem fK_ver : fK.getD 4 0 = 50 := by decide
/-- A file one of whose bytes is another. -/
def spoilt (i y : Nat) : List Nat := fK.set i (fK.getD i 0 ^^^ y)
theorem getD_byt {l : List Nat} (h : ∀ b ∈ l, b < 256) (i : Nat) : l.getD i 0 < 256 := by
  rw [List.getD_eq_getElem?_getD]
  cases hx : l[i]? with
  | none => decide
  | some x => exact h x (List.mem_of_getElem? hx)
theorem spoilt_byt {i y : Nat} (hy : y < 256) : ∀ b ∈ spoilt i y, b < 256 := by
  intro b hb
  rcases List.mem_or_eq_of_mem_set hb with h | h
  · exact fK_byt b h
  · rw [h]; exact Nat.xor_lt_two_pow (n := 8) (getD_byt fK_byt i) hy
set_option maxRecDepth 100000 in
theorem spoilt_ver {i y : Nat} (hy : y = 1 ∨ y = 128 ∨ y = 255) : (spoilt i y).getD 4 0 ≠ 0 := by
  unfold spoilt
  by_cases hi : i = 4
  · subst hi
    rcases hy with rfl | rfl | rfl <;> decide
  · rw [List.getD_eq_getElem?_getD, List.getElem?_set_ne hi, ← List.getD_eq_getElem?_getD, fK_ver]
    decide
theorem cut_ver (i : Nat) (h : hdGood (fK.take i) = true) : (fK.take i).getD 4 0 ≠ 0 := by
  unfold hdGood at h
  simp only [Bool.and_eq_true, decide_eq_true_eq] at h
  have h1 := h.1.1
  rw [List.length_take] at h1
  rw [List.getD_eq_getElem?_getD, List.getElem?_take_of_lt (by omega), ← List.getD_eq_getElem?_getD, fK_ver]
  decide
end Go.Proofs.Ytohpdpcjhmopbaa.Tz

/-! Layer 6 (tzif): the law TzifKnown: what it keeps from call to call. -/
namespace Go.Proofs.Ytohpdpcjhmopbaa.Tz
open Go.RowKit

/-- Behind the zone's making: its rows, its variable, the library's global. -/
structure Kk (w X : World) (m : Int) : Prop where
  zn : ZnAt X (w.heap.size + 3) zK (.slice (some ⟨w.heap.size, 0, none⟩) 2 2) (.slice (some ⟨w.heap.size + 1, 0, none⟩) 3 3) (.slice (some ⟨w.heap.size + 1 + 1, 0, none⟩) 3 3)
  box : ZnBox X (w.heap.size + 1 + 1 + 1) (.slice (some ⟨w.heap.size, 0, none⟩) 2 2) (.slice (some ⟨w.heap.size + 1, 0, none⟩) 3 3) (.slice (some ⟨w.heap.size + 1 + 1, 0, none⟩) 3 3) (.string zK.footer)
  bl : Below w.heap.size w X
  gl : X.cell? ⟨0, 0, none⟩ = some (.int .i64 m)
  pos : 0 < w.heap.size
section
variable {w X Y : World} {m : Int}
theorem Kk.size (k : Kk w X m) : w.heap.size + 4 ≤ X.heap.size := k.box.lt
theorem Kk.step (k : Kk w X m) {C : Nat} (hb : Below C X Y) (hC : w.heap.size + 4 ≤ C) : Kk w Y m :=
  ⟨k.zn.below hb (by omega), k.box.below hb (by omega), k.bl.trans (hb.mono (by omega)), cells_at 0 hb (by omega) k.gl, k.pos⟩
theorem Kk.at_ (k : Kk w X m) : ZnAt X X.heap.size zK (.slice (some ⟨w.heap.size, 0, none⟩) 2 2) (.slice (some ⟨w.heap.size + 1, 0, none⟩) 3 3) (.slice (some ⟨w.heap.size + 1 + 1, 0, none⟩) 3 3) := k.zn.up (by have := k.size; omega)
theorem Kk.alloc (k : Kk w X m) (o : Obj) : Kk w (X.alloc o) m := k.step ((Below.refl X.heap.size X).alloc (Nat.le_refl _) o) k.size
theorem Kk.start (w : World) (m : Int) (h1 : 0 < w.heap.size) (h0 : w.cell? ⟨0, 0, none⟩ = some (.int .i64 m)) (t1 t2 t3 t4 : TypeId) :
    Kk w ((((w.alloc (.cells #[.int .i64 3600, .bool false, .string ⟨#[67, 69, 84]⟩, .int .i64 7200, .bool true, .string ⟨#[67, 69, 83, 84]⟩] t1)).alloc (.cells #[.int .i64 (-1099511627776), .int .i64 0, .int .i64 1099511627776] t2)).alloc (.cells #[.int .i64 0, .int .i64 1, .int .i64 0] t3)).alloc
      (.cells #[.slice (some ⟨w.heap.size, 0, none⟩) 2 2, .slice (some ⟨w.heap.size + 1, 0, none⟩) 3 3, .slice (some ⟨w.heap.size + 1 + 1, 0, none⟩) 3 3, .string zK.footer] t4)) m := by
  obtain ⟨o1, ho1⟩ : ∃ o, (Obj.cells #[.int .i64 3600, .bool false, .string ⟨#[67, 69, 84]⟩, .int .i64 7200, .bool true, .string ⟨#[67, 69, 83, 84]⟩] t1) = o := ⟨_, rfl⟩
  obtain ⟨o2, ho2⟩ : ∃ o, (Obj.cells #[.int .i64 (-1099511627776), .int .i64 0, .int .i64 1099511627776] t2) = o := ⟨_, rfl⟩
  obtain ⟨o3, ho3⟩ : ∃ o, (Obj.cells #[.int .i64 0, .int .i64 1, .int .i64 0] t3) = o := ⟨_, rfl⟩
  rw [ho1, ho2, ho3]
  have s1 : (w.alloc o1).heap.size = w.heap.size + 1 := by simp
  have s2 : ((w.alloc o1).alloc o2).heap.size = w.heap.size + 1 + 1 := by simp
  have s3 : (((w.alloc o1).alloc o2).alloc o3).heap.size = w.heap.size + 1 + 1 + 1 := by simp
  obtain ⟨U, hU⟩ : ∃ U, ((w.alloc o1).alloc o2).alloc o3 = U := ⟨_, rfl⟩
  have b1 : Below w.heap.size w U := by rw [← hU]; exact (((Below.refl _ _).alloc (Nat.le_refl _) _).alloc (by rw [s1]; omega) _).alloc (by rw [s2]; omega) _
  have b2 : Below (w.heap.size + 1) (w.alloc o1) U := by rw [← hU]; exact ((Below.refl _ _).alloc (by simp) _).alloc (by simp) _
  have b3 : Below (w.heap.size + 1 + 1) ((w.alloc o1).alloc o2) U := by rw [← hU]; exact (Below.refl _ _).alloc (by simp) _
  rw [hU] at s3 ⊢
  have bU : ∀ o, Below (w.heap.size + 3) U (U.alloc o) := fun o => (Below.refl _ _).alloc (by omega) o
  have c1 : ∀ i u, (#[.int .i64 3600, .bool false, .string ⟨#[67, 69, 84]⟩, .int .i64 7200, .bool true, .string ⟨#[67, 69, 83, 84]⟩] : Array Value)[i]? = some u → U.cell? ⟨w.heap.size, i, none⟩ = some u := fun i u hu => cells_at _ b2 (by omega) (by rw [← ho1]; exact cell_new w _ t1 w.heap.size i u rfl hu)
  have c2 : ∀ i u, (#[.int .i64 (-1099511627776), .int .i64 0, .int .i64 1099511627776] : Array Value)[i]? = some u → U.cell? ⟨w.heap.size + 1, i, none⟩ = some u := fun i u hu => cells_at _ b3 (by omega) (by rw [← ho2]; exact cell_new _ _ t2 (w.heap.size + 1) i u s1 hu)
  have c3 : ∀ i u, (#[.int .i64 0, .int .i64 1, .int .i64 0] : Array Value)[i]? = some u → U.cell? ⟨w.heap.size + 1 + 1, i, none⟩ = some u := fun i u hu => by rw [← hU, ← ho3]; exact cell_new _ _ t3 (w.heap.size + 1 + 1) i u s2 hu
  refine ⟨?_, ZnBox.new U _ s3 _ _ _ _ t4, b1.trans ((bU _).mono (by omega)), cells_at 0 (b1.trans ((bU _).mono (by omega))) h1 h0, h1⟩
  refine ZnAt.below (w := U) ⟨⟨⟨some ⟨w.heap.size, 0, none⟩, 2, rfl⟩, ?_⟩, ⟨⟨some ⟨w.heap.size + 1, 0, none⟩, 3, rfl⟩, ?_⟩, ⟨⟨some ⟨w.heap.size + 1 + 1, 0, none⟩, 3, rfl⟩, ?_⟩⟩ (bU _) (Nat.le_refl _)
  · intro j row hj
    refine ⟨_, 0, 2, rfl, by omega, ?_⟩
    match j, hj with
    | 0, hj =>
      have e : tyCells ⟨3600, false, ⟨#[67, 69, 84]⟩⟩ = row := by simpa [zK] using hj
      subst e
      intro k u hk
      match k, hk with
      | 0, hk => exact c1 0 u hk
      | 1, hk => exact c1 1 u hk
      | 2, hk => exact c1 2 u hk
    | 1, hj =>
      have e : tyCells ⟨7200, true, ⟨#[67, 69, 83, 84]⟩⟩ = row := by simpa [zK] using hj
      subst e
      intro k u hk
      match k, hk with
      | 0, hk => exact c1 3 u hk
      | 1, hk => exact c1 4 u hk
      | 2, hk => exact c1 5 u hk
  · intro j row hj
    refine ⟨_, 0, 3, rfl, by omega, ?_⟩
    match j, hj with
    | 0, hj =>
      have e : intCells (-1099511627776) = row := by simpa [zK] using hj
      subst e
      intro k u hk
      match k, hk with
      | 0, hk => exact c2 0 u hk
    | 1, hj =>
      have e : intCells 0 = row := by simpa [zK] using hj
      subst e
      intro k u hk
      match k, hk with
      | 0, hk => exact c2 1 u hk
    | 2, hj =>
      have e : intCells 1099511627776 = row := by simpa [zK] using hj
      subst e
      intro k u hk
      match k, hk with
      | 0, hk => exact c2 2 u hk
  · intro j row hj
    refine ⟨_, 0, 3, rfl, by omega, ?_⟩
    match j, hj with
    | 0, hj =>
      have e : intCells 0 = row := by simpa [zK] using hj
      subst e
      intro k u hk
      match k, hk with
      | 0, hk => exact c3 0 u hk
    | 1, hj =>
      have e : intCells 1 = row := by simpa [zK] using hj
      subst e
      intro k u hk
      match k, hk with
      | 0, hk => exact c3 1 u hk
    | 2, hj =>
      have e : intCells 0 = row := by simpa [zK] using hj
      subst e
      intro k u hk
      match k, hk with
      | 0, hk => exact c3 2 u hk
end
end Go.Proofs.Ytohpdpcjhmopbaa.Tz

/-! Layer 6 (tzif): the table of types of the law TzifKnown (plain; written by gen_ky6.py). -/
namespace Go.Proofs.Ytohpdpcjhmopbaa.Tz
open Go.RowKit

def tabK : List Ty := [⟨(-89999), false, ⟨#[97]⟩⟩, ⟨(-90000), false, ⟨#[97]⟩⟩, ⟨93599, false, ⟨#[97]⟩⟩, ⟨93600, false, ⟨#[97]⟩⟩, ⟨0, false, ⟨#[]⟩⟩, ⟨0, false, ((⟨#[97, 98, 99, 100, 101, 102, 103, 104, 105, 106, 107, 108, 109, 110, 111, 112]⟩ : ByteArray).extract 0 15)⟩, ⟨0, false, ⟨#[97, 98, 99, 100, 101, 102, 103, 104, 105, 106, 107, 108, 109, 110, 111, 112]⟩⟩, ⟨0, false, ⟨#[97, 32, 98]⟩⟩, ⟨0, false, ⟨#[126, 33]⟩⟩, ⟨0, false, ⟨#[127]⟩⟩]
theorem tabK_in : ∀ t ∈ tabK, TyIn t := by
  intro t ht
  simp only [tabK, List.mem_cons, List.not_mem_nil, or_false] at ht
  rcases ht with rfl | rfl | rfl | rfl | rfl | rfl | rfl | rfl | rfl | rfl <;> exact ⟨by decide, by decide⟩
theorem tab_sl (W : World) (tt : TypeId) : Sl (W.alloc (.cells #[.int .i64 (-89999), .bool false, .string ⟨#[97]⟩, .int .i64 (-90000), .bool false, .string ⟨#[97]⟩, .int .i64 93599, .bool false, .string ⟨#[97]⟩, .int .i64 93600, .bool false, .string ⟨#[97]⟩, .int .i64 0, .bool false, .string ⟨#[]⟩, .int .i64 0, .bool false, .string ((⟨#[97, 98, 99, 100, 101, 102, 103, 104, 105, 106, 107, 108, 109, 110, 111, 112]⟩ : ByteArray).extract 0 15), .int .i64 0, .bool false, .string ⟨#[97, 98, 99, 100, 101, 102, 103, 104, 105, 106, 107, 108, 109, 110, 111, 112]⟩, .int .i64 0, .bool false, .string ⟨#[97, 32, 98]⟩, .int .i64 0, .bool false, .string ⟨#[126, 33]⟩, .int .i64 0, .bool false, .string ⟨#[127]⟩] tt)) (W.heap.size + 1) 3 (.slice (some ⟨W.heap.size, 0, none⟩) 10 10) (tabK.map tyCells) := by
  have hq : ∀ i u, (#[.int .i64 (-89999), .bool false, .string ⟨#[97]⟩, .int .i64 (-90000), .bool false, .string ⟨#[97]⟩, .int .i64 93599, .bool false, .string ⟨#[97]⟩, .int .i64 93600, .bool false, .string ⟨#[97]⟩, .int .i64 0, .bool false, .string ⟨#[]⟩, .int .i64 0, .bool false, .string ((⟨#[97, 98, 99, 100, 101, 102, 103, 104, 105, 106, 107, 108, 109, 110, 111, 112]⟩ : ByteArray).extract 0 15), .int .i64 0, .bool false, .string ⟨#[97, 98, 99, 100, 101, 102, 103, 104, 105, 106, 107, 108, 109, 110, 111, 112]⟩, .int .i64 0, .bool false, .string ⟨#[97, 32, 98]⟩, .int .i64 0, .bool false, .string ⟨#[126, 33]⟩, .int .i64 0, .bool false, .string ⟨#[127]⟩] : Array Value)[i]? = some u → (W.alloc (.cells #[.int .i64 (-89999), .bool false, .string ⟨#[97]⟩, .int .i64 (-90000), .bool false, .string ⟨#[97]⟩, .int .i64 93599, .bool false, .string ⟨#[97]⟩, .int .i64 93600, .bool false, .string ⟨#[97]⟩, .int .i64 0, .bool false, .string ⟨#[]⟩, .int .i64 0, .bool false, .string ((⟨#[97, 98, 99, 100, 101, 102, 103, 104, 105, 106, 107, 108, 109, 110, 111, 112]⟩ : ByteArray).extract 0 15), .int .i64 0, .bool false, .string ⟨#[97, 98, 99, 100, 101, 102, 103, 104, 105, 106, 107, 108, 109, 110, 111, 112]⟩, .int .i64 0, .bool false, .string ⟨#[97, 32, 98]⟩, .int .i64 0, .bool false, .string ⟨#[126, 33]⟩, .int .i64 0, .bool false, .string ⟨#[127]⟩] tt)).cell? ⟨W.heap.size, i, none⟩ = some u := fun i u hu => cell_new W _ tt W.heap.size i u rfl hu
  refine ⟨⟨some ⟨W.heap.size, 0, none⟩, 10, rfl⟩, ?_⟩
  intro j row hj
  refine ⟨_, 0, 10, rfl, Nat.lt_succ_self _, ?_⟩
  match j, hj with
  | 0, hj =>
    have e : tyCells ⟨(-89999), false, ⟨#[97]⟩⟩ = row := by injection hj
    subst e
    intro k u hk
    match k, hk with
    | 0, hk => exact hq 0 u hk
    | 1, hk => exact hq 1 u hk
    | 2, hk => exact hq 2 u hk
  | 1, hj =>
    have e : tyCells ⟨(-90000), false, ⟨#[97]⟩⟩ = row := by injection hj
    subst e
    intro k u hk
    match k, hk with
    | 0, hk => exact hq 3 u hk
    | 1, hk => exact hq 4 u hk
    | 2, hk => exact hq 5 u hk
  | 2, hj =>
    have e : tyCells ⟨93599, false, ⟨#[97]⟩⟩ = row := by injection hj
    subst e
    intro k u hk
    match k, hk with
    | 0, hk => exact hq 6 u hk
    | 1, hk => exact hq 7 u hk
    | 2, hk => exact hq 8 u hk
  | 3, hj =>
    have e : tyCells ⟨93600, false, ⟨#[97]⟩⟩ = row := by injection hj
    subst e
    intro k u hk
    match k, hk with
    | 0, hk => exact hq 9 u hk
    | 1, hk => exact hq 10 u hk
    | 2, hk => exact hq 11 u hk
  | 4, hj =>
    have e : tyCells ⟨0, false, ⟨#[]⟩⟩ = row := by injection hj
    subst e
    intro k u hk
    match k, hk with
    | 0, hk => exact hq 12 u hk
    | 1, hk => exact hq 13 u hk
    | 2, hk => exact hq 14 u hk
  | 5, hj =>
    have e : tyCells ⟨0, false, ((⟨#[97, 98, 99, 100, 101, 102, 103, 104, 105, 106, 107, 108, 109, 110, 111, 112]⟩ : ByteArray).extract 0 15)⟩ = row := by injection hj
    subst e
    intro k u hk
    match k, hk with
    | 0, hk => exact hq 15 u hk
    | 1, hk => exact hq 16 u hk
    | 2, hk => exact hq 17 u hk
  | 6, hj =>
    have e : tyCells ⟨0, false, ⟨#[97, 98, 99, 100, 101, 102, 103, 104, 105, 106, 107, 108, 109, 110, 111, 112]⟩⟩ = row := by injection hj
    subst e
    intro k u hk
    match k, hk with
    | 0, hk => exact hq 18 u hk
    | 1, hk => exact hq 19 u hk
    | 2, hk => exact hq 20 u hk
  | 7, hj =>
    have e : tyCells ⟨0, false, ⟨#[97, 32, 98]⟩⟩ = row := by injection hj
    subst e
    intro k u hk
    match k, hk with
    | 0, hk => exact hq 21 u hk
    | 1, hk => exact hq 22 u hk
    | 2, hk => exact hq 23 u hk
  | 8, hj =>
    have e : tyCells ⟨0, false, ⟨#[126, 33]⟩⟩ = row := by injection hj
    subst e
    intro k u hk
    match k, hk with
    | 0, hk => exact hq 24 u hk
    | 1, hk => exact hq 25 u hk
    | 2, hk => exact hq 26 u hk
  | 9, hj =>
    have e : tyCells ⟨0, false, ⟨#[127]⟩⟩ = row := by injection hj
    subst e
    intro k u hk
    match k, hk with
    | 0, hk => exact hq 27 u hk
    | 1, hk => exact hq 28 u hk
    | 2, hk => exact hq 29 u hk
end Go.Proofs.Ytohpdpcjhmopbaa.Tz

/-! Layer 6 (tzif): the law TzifKnown: what its later loops keep. -/
namespace Go.Proofs.Ytohpdpcjhmopbaa.Tz
open Go.RowKit

/-- In the loop over types. -/
structure Kx (w X : World) (m : Int) (P : Nat) : Prop where
  k : Kk w X m
  tab : Sl X (P + 1) 3 (.slice (some ⟨P, 0, none⟩) 10 10) (tabK.map tyCells)
  lo : w.heap.size + 4 ≤ P
  lt : P < X.heap.size
/-- In the loop over numbers. -/
structure Ky (w X : World) (m : Int) (P : Nat) (x : Ty) (Q : Nat) : Prop where
  k : Kx w X m P
  ty : ∀ i u, (tyCells x)[i]? = some u → X.cell? ⟨Q, i, none⟩ = some u
  nums : ∀ i u, (#[.int .i64 1, .int .i64 16, .int .i64 17, .int .i64 128, .int .i64 255, .int .i64 256] : Array Value)[i]? = some u → X.cell? ⟨Q + 1, i, none⟩ = some u
  lo : P < Q
  lt : Q + 1 < X.heap.size
/-- In the loop of appends. -/
structure Kw (w X : World) (m : Int) (P : Nat) (x : Ty) (Q Z : Nat) (f : ByteArray) (k : Nat) (A : Option Addr) (c : Nat) : Prop where
  y : Ky w X m P x Q
  box : ZnBox X Z (.slice A k c) (.slice none 0 0) (.slice none 0 0) (.string f)
  own : OwnY X (Z + 1) (.slice A k c) (List.replicate k x)
  lo : Q + 1 < Z
section
variable {w X Y : World} {m : Int} {P Q Z : Nat} {x : Ty} {f : ByteArray} {A : Option Addr} {c k n : Nat}
theorem Kx.step (h : Kx w X m P) {C : Nat} (hb : Below C X Y) (hC : P + 1 ≤ C) : Kx w Y m P :=
  ⟨h.k.step hb (by have := h.lo; omega), h.tab.below hb hC, h.lo, Nat.lt_of_lt_of_le h.lt hb.size⟩
theorem Ky.step (h : Ky w X m P x Q) {C : Nat} (hb : Below C X Y) (hC : Q + 2 ≤ C) : Ky w Y m P x Q :=
  ⟨h.k.step hb (by have := h.lo; omega), fun i u hu => cells_at Q hb (by omega) (h.ty i u hu), fun i u hu => cells_at (Q + 1) hb (by omega) (h.nums i u hu), h.lo, Nat.lt_of_lt_of_le h.lt hb.size⟩
theorem Kx.cells (h : Kx w X m P) (hk : tabK[k]? = some x) : X.cell? ⟨P, k * 3, none⟩ = some (.int .i64 x.off) ∧ X.cell? ⟨P, k * 3 + 1, none⟩ = some (.bool x.dst) ∧ X.cell? ⟨P, k * 3 + 2, none⟩ = some (.string x.abbr) := by
  obtain ⟨g, off, c', hv, hg, c0, c1, c2⟩ := h.tab.ty hk
  injection hv with ea
  injection ea with ea
  injection ea with e1 e2
  subst e1
  subst e2
  rw [Nat.zero_add] at c0 c1 c2
  exact ⟨c0, c1, c2⟩
theorem Ky.start (h : Kx w X m P) (t t2 : TypeId) (x : Ty) : Ky w ((X.alloc (.cells #[.int .i64 x.off, .bool x.dst, .string x.abbr] t)).alloc (.cells #[.int .i64 1, .int .i64 16, .int .i64 17, .int .i64 128, .int .i64 255, .int .i64 256] t2)) m P x X.heap.size := by
  have s1 : (X.alloc (.cells #[.int .i64 x.off, .bool x.dst, .string x.abbr] t)).heap.size = X.heap.size + 1 := by simp
  refine ⟨h.step (C := X.heap.size) (((Below.refl X.heap.size X).alloc (Nat.le_refl _) _).alloc (by simp) _) h.lt, fun i u hu => ?_, fun i u hu => cell_new _ _ t2 (X.heap.size + 1) i u s1 hu, h.lt, by simp⟩
  exact cell_old _ _ _ _ _ (by simp) (cell_new X _ t _ i u rfl (by rw [List.getElem?_toArray]; exact hu))
theorem num_in (h : Ky w X m P x Q) {j : Nat} (hj : j < 6) : ∃ n r : Nat, 1 ≤ n ∧ n ≤ 256 ∧ r < 16 ∧ (n : Int).tmod 16 = (r : Int) ∧ IntKind.u16.wrap (n : Int) = (n : Int) ∧ (∃ b : Int, IntKind.u8.wrap (n : Int) = b ∧ 0 ≤ b ∧ b ≤ 255) ∧ X.cell? ⟨Q + 1, j, none⟩ = some (.int .i64 n) := by
  match j, hj with
  | 0, _ => exact ⟨1, 1, by decide, by decide, by decide, by decide, by decide, ⟨_, rfl, by decide, by decide⟩, h.nums 0 _ rfl⟩
  | 1, _ => exact ⟨16, 0, by decide, by decide, by decide, by decide, by decide, ⟨_, rfl, by decide, by decide⟩, h.nums 1 _ rfl⟩
  | 2, _ => exact ⟨17, 1, by decide, by decide, by decide, by decide, by decide, ⟨_, rfl, by decide, by decide⟩, h.nums 2 _ rfl⟩
  | 3, _ => exact ⟨128, 0, by decide, by decide, by decide, by decide, by decide, ⟨_, rfl, by decide, by decide⟩, h.nums 3 _ rfl⟩
  | 4, _ => exact ⟨255, 15, by decide, by decide, by decide, by decide, by decide, ⟨_, rfl, by decide, by decide⟩, h.nums 4 _ rfl⟩
  | 5, _ => exact ⟨256, 0, by decide, by decide, by decide, by decide, by decide, ⟨_, rfl, by decide, by decide⟩, h.nums 5 _ rfl⟩
theorem Kw.start (h : Ky w X m P x Q) (f : ByteArray) (t : TypeId) : Kw w (X.alloc (.cells #[.slice none 0 0, .slice none 0 0, .slice none 0 0, .string f] t)) m P x Q X.heap.size f 0 none 0 :=
  ⟨h.step (C := X.heap.size) ((Below.refl X.heap.size X).alloc (Nat.le_refl _) _) (by have := h.lt; omega), ZnBox.new X _ rfl _ _ _ _ t, World.ownsRow_nil _ _ _ _, h.lt⟩
theorem Kw.step (h : Kw w X m P x Q Z f k A c) (hb : Below X.heap.size X Y) : Kw w Y m P x Q Z f k A c :=
  ⟨h.y.step hb (by have := h.lo; have := h.box.lt; omega), h.box.below hb h.box.lt, h.own.keep hb, h.lo⟩
theorem Kw.at_ (h : Kw w X m P x Q Z f k A c) : ZnAt X X.heap.size ⟨List.replicate k x, [], [], f⟩ (.slice A k c) (.slice none 0 0) (.slice none 0 0) := by
  have := h.own.sl (Nat.le_refl _)
  exact ⟨this, Sl.none_ _ _ _, Sl.none_ _ _ _⟩
theorem rep_in (hx : TyIn x) (hk : k ≤ 256) (hf : f.size ≤ 9223372036854775807) : ZnIn ⟨List.replicate k x, [], [], f⟩ := by
  refine ⟨fun t ht => ?_, fun t ht => (by cases ht), fun t ht => (by cases ht), hf, by simp; omega, by simp, by simp⟩
  rw [List.eq_of_mem_replicate ht]
  exact hx
end
end Go.Proofs.Ytohpdpcjhmopbaa.Tz

/-! Layer 6 (tzif): the law TzifKnown: what its last zones keep. -/
namespace Go.Proofs.Ytohpdpcjhmopbaa.Tz
open Go.RowKit

theorem sl_three (X : World) (x y z : Int) (t : TypeId) (P : Nat) (hP : X.heap.size = P) : Sl (X.alloc (.cells #[.int .i64 x, .int .i64 y, .int .i64 z] t)) (P + 1) 1 (.slice (some ⟨P, 0, none⟩) 3 3) ([x, y, z].map intCells) :=
  Sl.new (rows := [x, y, z].map intCells) (Nat.lt_succ_self _) (fun j row hj k u hu => by
    have hq : ∀ i u, (#[.int .i64 x, .int .i64 y, .int .i64 z] : Array Value)[i]? = some u → (X.alloc (.cells #[.int .i64 x, .int .i64 y, .int .i64 z] t)).cell? ⟨P, i, none⟩ = some u := fun i u hu => cell_new X _ t P i u hP hu
    match j, hj with
    | 0, hj => injection hj with hj; subst hj; match k, hu with | 0, hu => exact hq 0 u hu
    | 1, hj => injection hj with hj; subst hj; match k, hu with | 0, hu => exact hq 1 u hu
    | 2, hj => injection hj with hj; subst hj; match k, hu with | 0, hu => exact hq 2 u hu)
theorem sl_two (X : World) (x y : Int) (t : TypeId) (P : Nat) (hP : X.heap.size = P) : Sl (X.alloc (.cells #[.int .i64 x, .int .i64 y] t)) (P + 1) 1 (.slice (some ⟨P, 0, none⟩) 2 2) ([x, y].map intCells) :=
  Sl.new (rows := [x, y].map intCells) (Nat.lt_succ_self _) (fun j row hj k u hu => by
    have hq : ∀ i u, (#[.int .i64 x, .int .i64 y] : Array Value)[i]? = some u → (X.alloc (.cells #[.int .i64 x, .int .i64 y] t)).cell? ⟨P, i, none⟩ = some u := fun i u hu => cell_new X _ t P i u hP hu
    match j, hj with
    | 0, hj => injection hj with hj; subst hj; match k, hu with | 0, hu => exact hq 0 u hu
    | 1, hj => injection hj with hj; subst hj; match k, hu with | 0, hu => exact hq 1 u hu)
/-- A zone's variable and a row of three beside it. -/
structure Kb (w V : World) (m : Int) (Z : Nat) (a b c : Value) (row : List Int) : Prop where
  k : Kk w V m
  box : ZnBox V Z a b c (.string zK.footer)
  sl : Sl V (Z + 2) 1 (.slice (some ⟨Z + 1, 0, none⟩) 3 3) (row.map intCells)
  lo : w.heap.size + 4 ≤ Z
  lt : Z + 1 < V.heap.size
section
variable {w X Y V : World} {m : Int} {Z Z1 Z2 Z3 : Nat} {a b c : Value} {row : List Int}
theorem Kb.step (h : Kb w X m Z a b c row) {C : Nat} (hb : Below C X Y) (hC : Z + 2 ≤ C) : Kb w Y m Z a b c row :=
  ⟨h.k.step hb (by have := h.lo; omega), h.box.below hb (by omega), h.sl.below hb hC, h.lo, Nat.lt_of_lt_of_le h.lt hb.size⟩
theorem Kb.start (h : Kk w X m) (a b c : Value) (x y z : Int) (t t2 : TypeId) : Kb w ((X.alloc (.cells #[a, b, c, .string zK.footer] t)).alloc (.cells #[.int .i64 x, .int .i64 y, .int .i64 z] t2)) m X.heap.size a b c [x, y, z] := by
  have s1 : (X.alloc (.cells #[a, b, c, .string zK.footer] t)).heap.size = X.heap.size + 1 := by simp
  exact ⟨(h.alloc _).alloc _, (ZnBox.new X _ rfl a b c _ t).below ((Below.refl (X.heap.size + 1) _).alloc (by rw [s1]; exact Nat.le_refl _) _) (Nat.lt_succ_self _), sl_three _ x y z t2 _ s1, h.size, by simp⟩
theorem less_sl (h : Sl X Z 1 (.slice (some ⟨Z1, 0, none⟩) 3 3) ([-1099511627776, 0, 1099511627776].map intCells)) : Sl X Z 1 (.slice (some ⟨Z1, 0, none⟩) 2 3) ([-1099511627776, 0].map intCells) :=
  ⟨⟨_, _, rfl⟩, fun j row hj => by
    have hj3 : ([-1099511627776, 0, 1099511627776].map intCells)[j]? = some row := by
      match j, hj with
      | 0, hj => exact hj
      | 1, hj => exact hj
    obtain ⟨g, off, c, e, hg, hc⟩ := h.at_ j row hj3
    injection e with e1
    injection e1 with e1
    injection e1 with e1 e2
    subst e1
    subst e2
    exact ⟨_, 0, 3, rfl, hg, hc⟩⟩
/-- All three of them. -/
structure Ke (w V : World) (m : Int) (Z1 Z2 Z3 : Nat) : Prop where
  a : Kb w V m Z1 (.slice (some ⟨w.heap.size, 0, none⟩) 2 2) (.slice (some ⟨w.heap.size + 1, 0, none⟩) 3 3) (.slice (some ⟨Z1 + 1, 0, none⟩) 3 3) [0, 2, 0]
  b : Kb w V m Z2 (.slice (some ⟨w.heap.size, 0, none⟩) 2 2) (.slice (some ⟨Z2 + 1, 0, none⟩) 3 3) (.slice (some ⟨w.heap.size + 1 + 1, 0, none⟩) 3 3) [1, 1, 2]
  c : ZnBox V Z3 (.slice (some ⟨w.heap.size, 0, none⟩) 2 2) (.slice (some ⟨w.heap.size + 1, 0, none⟩) 2 3) (.slice (some ⟨w.heap.size + 1 + 1, 0, none⟩) 3 3) (.string zK.footer)
theorem Ke.step (h : Ke w X m Z1 Z2 Z3) (hb : Below X.heap.size X Y) : Ke w Y m Z1 Z2 Z3 :=
  ⟨h.a.step hb h.a.lt, h.b.step hb h.b.lt, h.c.below hb h.c.lt⟩
theorem Ke.k (h : Ke w X m Z1 Z2 Z3) : Kk w X m := h.a.k
theorem Ke.bad (h : Ke w X m Z1 Z2 Z3) : ZnAt X X.heap.size ⟨zK.types, zK.times, [0, 2, 0], zK.footer⟩ (.slice (some ⟨w.heap.size, 0, none⟩) 2 2) (.slice (some ⟨w.heap.size + 1, 0, none⟩) 3 3) (.slice (some ⟨Z1 + 1, 0, none⟩) 3 3) :=
  ⟨h.k.at_.types, h.k.at_.times, h.a.sl.up h.a.lt⟩
theorem Ke.same (h : Ke w X m Z1 Z2 Z3) : ZnAt X X.heap.size ⟨zK.types, [1, 1, 2], zK.index, zK.footer⟩ (.slice (some ⟨w.heap.size, 0, none⟩) 2 2) (.slice (some ⟨Z2 + 1, 0, none⟩) 3 3) (.slice (some ⟨w.heap.size + 1 + 1, 0, none⟩) 3 3) :=
  ⟨h.k.at_.types, h.b.sl.up h.b.lt, h.k.at_.index⟩
theorem Ke.less (h : Ke w X m Z1 Z2 Z3) : ZnAt X X.heap.size ⟨zK.types, [-1099511627776, 0], zK.index, zK.footer⟩ (.slice (some ⟨w.heap.size, 0, none⟩) 2 2) (.slice (some ⟨w.heap.size + 1, 0, none⟩) 2 3) (.slice (some ⟨w.heap.size + 1 + 1, 0, none⟩) 3 3) :=
  ⟨h.k.at_.types, less_sl h.k.at_.times, h.k.at_.index⟩
theorem none_at (X : World) : ZnAt X X.heap.size ⟨[], [], [], ⟨#[]⟩⟩ (.slice none 0 0) (.slice none 0 0) (.slice none 0 0) := ⟨Sl.none_ _ _ _, Sl.none_ _ _ _, Sl.none_ _ _ _⟩
theorem none_in : ZnIn ⟨[], [], [], ⟨#[]⟩⟩ := ⟨fun _ h => (by cases h), fun _ h => (by cases h), fun _ h => (by cases h), by decide, by decide, by decide, by decide⟩
theorem bad_in : ZnIn ⟨zK.types, zK.times, [0, 2, 0], zK.footer⟩ := ⟨zK_in.types, zK_in.times, fun t h => (by
  simp only [List.mem_cons, List.not_mem_nil, or_false] at h
  rcases h with rfl | rfl | rfl <;> exact ⟨by decide, by decide⟩), zK_in.footer, zK_in.ntypes, zK_in.ntimes, by decide⟩
theorem same_in : ZnIn ⟨zK.types, [1, 1, 2], zK.index, zK.footer⟩ := ⟨zK_in.types, fun t h => (by
  simp only [List.mem_cons, List.not_mem_nil, or_false] at h
  rcases h with rfl | rfl | rfl <;> exact ⟨by decide, by decide⟩), zK_in.index, zK_in.footer, zK_in.ntypes, by decide, zK_in.nindex⟩
theorem less_in : ZnIn ⟨zK.types, [-1099511627776, 0], zK.index, zK.footer⟩ := ⟨zK_in.types, fun t h => (by
  simp only [List.mem_cons, List.not_mem_nil, or_false] at h
  rcases h with rfl | rfl <;> exact ⟨by decide, by decide⟩), zK_in.index, zK_in.footer, zK_in.ntypes, by decide, zK_in.nindex⟩
theorem old_in : ZnIn ⟨zK.types, [-2147483648, 2147483647], [1, 0], ⟨#[]⟩⟩ := ⟨zK_in.types, fun t h => (by
  simp only [List.mem_cons, List.not_mem_nil, or_false] at h
  rcases h with rfl | rfl <;> exact ⟨by decide, by decide⟩), fun t h => (by
  simp only [List.mem_cons, List.not_mem_nil, or_false] at h
  rcases h with rfl | rfl <;> exact ⟨by decide, by decide⟩), by decide, zK_in.ntypes, by decide, by decide⟩
theorem old_at (h : Kk w X m) (t t2 : TypeId) : ZnAt ((X.alloc (.cells #[.int .i64 (-2147483648), .int .i64 2147483647] t)).alloc (.cells #[.int .i64 1, .int .i64 0] t2)) ((X.alloc (.cells #[.int .i64 (-2147483648), .int .i64 2147483647] t)).alloc (.cells #[.int .i64 1, .int .i64 0] t2)).heap.size
    ⟨zK.types, [-2147483648, 2147483647], [1, 0], ⟨#[]⟩⟩ (.slice (some ⟨w.heap.size, 0, none⟩) 2 2) (.slice (some ⟨X.heap.size, 0, none⟩) 2 2) (.slice (some ⟨X.heap.size + 1, 0, none⟩) 2 2) := by
  have s1 : (X.alloc (.cells #[.int .i64 (-2147483648), .int .i64 2147483647] t)).heap.size = X.heap.size + 1 := by simp
  have hb : Below (X.heap.size + 1) (X.alloc (.cells #[.int .i64 (-2147483648), .int .i64 2147483647] t)) ((X.alloc (.cells #[.int .i64 (-2147483648), .int .i64 2147483647] t)).alloc (.cells #[.int .i64 1, .int .i64 0] t2)) := (Below.refl _ _).alloc (by rw [s1]; exact Nat.le_refl _) _
  refine ⟨(((h.alloc _).alloc _).at_).types, ?_, ?_⟩
  · exact ((sl_two X (-2147483648) 2147483647 t _ rfl).below hb (Nat.le_refl _)).up (by simp)
  · exact (sl_two _ 1 0 t2 _ s1).up (by simp)
theorem Kk.on (h : Kk w X m) (hb : Below X.heap.size X Y) : Below w.heap.size w Y := h.bl.trans (hb.mono (by have := h.size; omega))
end
end Go.Proofs.Ytohpdpcjhmopbaa.Tz
