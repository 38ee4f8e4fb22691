/-
  The walk of the closed law TimespanKnown.
-/
import Derived.Test.YtcllimfaoajapaaDoorTimespanParseWalk
import Derived.Test.YtcllimfaoajapaaDoorTimespanUnitsWalk
namespace Go.Proofs.YtcllimfaoajapaaDoor.Ts
open Go.RowKit

def ssK : List (List UInt8) := [[], [32], [48], [48, 48], [53, 32], [32, 53, 115], [53, 115, 115], [53, 32, 115, 32, 115], [115], [53, 46], [46, 53], [53, 46, 49, 50, 51, 52, 53, 54, 55], [53, 46, 49, 50, 51, 52, 53, 54, 117, 115], [48, 46, 57, 117, 115], [49, 46, 53, 117, 115], [48, 46, 48, 48, 48, 48, 48, 49, 100], [49, 109, 105, 110, 51, 48], [49, 109, 49, 77], [49, 72], [53, 10], [105, 110, 102, 105, 110, 105, 116, 121], [32, 105, 110, 102, 105, 110, 105, 116, 121, 9], [105, 110, 102, 105, 110, 105, 116, 121, 32, 115], [73, 110, 102, 105, 110, 105, 116, 121], [45, 53], [43, 53], [49, 101, 51], [57, 50, 50, 51, 51, 55, 50, 48, 51, 54, 56, 53, 52, 55, 55, 53, 56, 48, 54, 117, 115], [57, 50, 50, 51, 51, 55, 50, 48, 51, 54, 56, 53, 52, 55, 55, 53, 56, 48, 55, 117, 115], [57, 50, 50, 51, 51, 55, 50, 48, 51, 54, 56, 53, 52, 55, 55, 53, 56, 48, 56, 117, 115], [57, 50, 50, 51, 51, 55, 50, 48, 51, 54, 56, 53, 52, 55, 55, 53, 56, 48, 53, 117, 115, 32, 49, 117, 115], [57, 50, 50, 51, 51, 55, 50, 48, 51, 54, 56, 53, 52, 55, 55, 53, 56, 48, 53, 117, 115, 32, 50, 117, 115], [57, 57, 57, 57, 57, 57, 57, 57, 57, 57, 57, 57, 57, 57, 57, 57, 57, 57, 57, 57, 57, 57, 57], [57, 57, 57, 57, 57, 57, 57, 57, 57, 57, 57, 57, 57, 57, 57, 57, 57, 57, 57, 57, 57, 57, 57, 120], [50, 57, 50, 50, 55, 49, 121], [50, 57, 50, 50, 55, 50, 121], [50, 57, 50, 50, 55, 55, 121], [49, 48, 54, 55, 53, 49, 57, 57, 49, 100], [49, 48, 54, 55, 53, 49, 57, 57, 50, 100], [48, 48, 48, 48, 48, 48, 48, 48, 48, 48, 48, 48, 48, 48, 48, 48, 48, 48, 48, 48, 48, 48, 48, 48, 48, 48, 48, 48, 48, 48, 49, 115], [49, 115, 49, 115], [49, 46, 53, 32, 104, 46, 53], [51, 32, 52, 32, 53], [53, 0], [53, 194, 181, 115], [57, 50, 50, 51, 51, 55, 50, 48, 51, 54, 56, 53, 52, 46, 55, 55, 53, 56, 48, 54], [57, 50, 50, 51, 51, 55, 50, 48, 51, 54, 56, 53, 52, 46, 55, 55, 53, 56, 48, 55]]
def nsK : List Int := [0, 1, 999, 1000, 999999, 1000000, 59999999, 60000000, 3600000000, 86399999999, 86400000000, -1, 9223372036854775807, 9223372036854775806, -9223372036854775808, 90061001001]
theorem ss_len : ∀ k : Nat, k < 47 → (ssK.getD k []).length ≤ 40 := by decide
theorem ns_bd : ∀ k : Nat, k < 16 → -9223372036854775808 ≤ nsK.getD k 0 ∧ nsK.getD k 0 ≤ 9223372036854775807 := by decide
def Kept (B : Nat) (W wr : World) : Prop := Below B W wr
theorem Kept.go {B : Nat} {W a b : World} (h : Kept B W a) (hb : Below a.heap.size a b) (hB : B ≤ W.heap.size) : Kept B W b :=
  Below.trans h (hb.mono (Nat.le_trans hB (Below.size h)))

set_option maxRecDepth 100000 in
set_option maxHeartbeats 4000000 in
theorem timespanKnown_any (w : World) (htab : Lib.TabIs Tryd.prog w "internal/strconv.uint64pow10" .u64 Lib.pow10Tab) :
    Calls Tryd.prog 7 #[] w fun e w' => e = .returned (.bool true) ∧ Below w.heap.size w w' := by
  have HT := Lib.hid htab
  clear htab
  go_enter Tryd.func7, Tryd.ntmps7
  go_wp2
  have hc := fun k h => cell_strs ssK w 9 k h
  have hwb := (Below.refl w.heap.size w).alloc (Nat.le_refl _) (.cells (ssK.map fun x => Value.string ⟨x.toArray⟩).toArray 9)
  have hsz : (w.alloc (.cells (ssK.map fun x => Value.string ⟨x.toArray⟩).toArray 9)).heap.size = w.heap.size + 1 := by simp
  generalize hW : w.alloc (.cells (ssK.map fun x => Value.string ⟨x.toArray⟩).toArray 9) = W at hc hwb hsz
  have hW' := hW
  simp only [ssK, List.map_cons, List.map_nil] at hW'
  rw [hW']
  have HC := Lib.hid hc
  have HB := Lib.hid hwb
  have HS := Lib.hid hsz
  clear hW hW' hc hwb hsz
  go_loopw [8] (fun x wr => (∃ k : Nat, k ≤ 47 ∧ x = .int .i64 k) ∧ Kept W.heap.size W wr) (fun x _ => 47 - (intOf x).toNat)
  case atStart => exact ⟨⟨0, by omega, rfl⟩, Below.refl _ _⟩
  case round =>
    obtain ⟨⟨k, hk, rfl⟩, hkeep⟩ := hrel
    have HK := Lib.hid hkeep
    by_cases hlt : k < 47
    · have hd47 : decide ((k : Int) < 47) = true := decide_eq_true (by omega)
      have hcell : wr.cell? ⟨w.heap.size, k, none⟩ = some (.string ⟨(ssK.getD k []).toArray⟩) := by
        rw [Below.cell (p := ⟨w.heap.size, k, none⟩) hkeep (by rw [HS.out]; show w.heap.size < w.heap.size + 1; omega)]; exact HC.out k hlt
      have hsl := ss_len k hlt
      generalize hs : (⟨(ssK.getD k []).toArray⟩ : ByteArray) = s at hcell
      have hss : s.size ≤ 9223372036854775807 := by rw [← hs]; exact Nat.le_trans hsl (by omega)
      have HA0 := Lib.hid (HB.out.trans ((HK.out : Below W.heap.size W wr).mono HB.out.size))
      clear hkeep hs hsl
      go_wp2_with fail
      refine (timespanParse_any s _ hss (tabAt w _ HT.out HA0.out)).mono ?_
      rintro e w1 ⟨rfl, hB⟩
      have HA1 := Lib.hid (HA0.out.trans (hB.mono HA0.out.size))
      have HK1 := Lib.hid (HK.out.go hB (Nat.le_refl _))
      clear hB
      go_wp2_with fail
      refine (order_any s ⟨#[49, 104]⟩ _ hss (by decide) (tabAt w _ HT.out HA1.out)).mono ?_
      rintro e w2 ⟨rfl, hB⟩
      have HA2 := Lib.hid (HA1.out.trans (hB.mono HA1.out.size))
      have HK2 := Lib.hid (HK1.out.go hB (Nat.le_refl _))
      clear hB
      go_wp2_with fail
      refine (order_any ⟨#[55, 117, 115]⟩ s _ (by decide) hss (tabAt w _ HT.out HA2.out)).mono ?_
      rintro e w3 ⟨rfl, hB⟩
      have HK3 := Lib.hid (HK2.out.go hB (Nat.le_refl _))
      clear hB
      go_wp2
      go_roundw
      case rel => exact ⟨⟨k + 1, by omega, by go_num⟩, HK3.out⟩
      case measure => simp [intOf]; omega
    · have hd47 : decide ((k : Int) < 47) = false := decide_eq_false (by omega)
      clear hkeep
      go_wp2
      obtain ⟨wA, rfl⟩ : ∃ wo : World, wo = wr := ⟨_, rfl⟩
      have hc2 := fun k h => cell_nums nsK wA 2 k h
      have hkb := HB.out.trans ((HK.out.go ((Below.refl wA.heap.size wA).alloc (Nat.le_refl _) (.cells (nsK.map (Value.int .i64)).toArray 2)) (Nat.le_refl _)).mono HB.out.size)
      have hs2 : (wA.alloc (.cells (nsK.map (Value.int .i64)).toArray 2)).heap.size = wA.heap.size + 1 := by simp
      generalize hV : wA.alloc (.cells (nsK.map (Value.int .i64)).toArray 2) = V at hc2 hkb hs2
      have hV' := hV
      simp only [nsK, List.map_cons, List.map_nil] at hV'
      rw [hV']
      have HC2 := Lib.hid hc2
      have HV := Lib.hid hkb
      have HS2 := Lib.hid hs2
      clear hV hV' hc2 hkb hs2
      go_loopw [28] (fun x wr => (∃ j : Nat, j ≤ 16 ∧ x = .int .i64 j) ∧ Kept V.heap.size V wr) (fun x _ => 16 - (intOf x).toNat)
      case atStart => exact ⟨⟨0, by omega, rfl⟩, Below.refl _ _⟩
      case round =>
        obtain ⟨⟨j, hj, rfl⟩, hkeep⟩ := hrel
        have HK3 := Lib.hid hkeep
        have HA := Lib.hid (Below.trans HV.out (HK3.out.mono (Below.size HV.out)))
        by_cases hlj : j < 16
        · have hd16 : decide ((j : Int) < 16) = true := decide_eq_true (by omega)
          have hcell : wr.cell? ⟨wA.heap.size, j, none⟩ = some (.int .i64 (nsK.getD j 0)) := by
            rw [Below.cell (p := ⟨wA.heap.size, j, none⟩) hkeep (by rw [HS2.out]; show wA.heap.size < wA.heap.size + 1; omega)]; exact HC2.out j hlj
          have hnb := ns_bd j hlj
          clear hkeep
          generalize nsK.getD j 0 = n at hcell hnb
          go_wp2_with fail
          refine (timespanBack_any n _ hnb (tabAt w _ HT.out HA.out)).mono ?_
          rintro e w1 ⟨rfl, hB⟩
          have HK4 := Lib.hid (HK3.out.go hB (Nat.le_refl _))
          clear hB
          go_wp2
          go_roundw
          case rel => exact ⟨⟨j + 1, by omega, by go_num⟩, HK4.out⟩
          case measure => simp [intOf]; omega
        · have hd16 : decide ((j : Int) < 16) = false := decide_eq_false (by omega)
          clear hkeep
          go_wp2
          obtain ⟨wB, rfl⟩ : ∃ wo : World, wo = wr := ⟨_, rfl⟩
          go_loopw [5] (fun x wr => (∃ i : Nat, i ≤ 29 ∧ x = .int .i64 i) ∧ Kept wB.heap.size wB wr) (fun x _ => 29 - (intOf x).toNat)
          case atStart => exact ⟨⟨0, by omega, rfl⟩, Below.refl _ _⟩
          case round =>
            obtain ⟨⟨i, hi, rfl⟩, hkeep⟩ := hrel
            have HK5 := Lib.hid hkeep
            have HA5 := Lib.hid (Below.trans HA.out ((HK5.out : Below wB.heap.size wB wr).mono (Below.size HA.out)))
            clear hkeep
            by_cases hli : i < 29
            · have hkk : i * i ≤ 28 * 28 := Nat.mul_le_mul (by omega) (by omega)
              have hki : 0 ≤ (i : Int) * (i : Int) ∧ (i : Int) * (i : Int) ≤ 784 := by
                rw [show (i : Int) * (i : Int) = ((i * i : Nat) : Int) by simp]; omega
              obtain ⟨hk1, hk2⟩ := hki
              clear hkk
              go_wp2_with fail
              refine (units_main _ _ _ _ (tabAt w _ HT.out HA5.out) (by omega) (by omega) (by omega)).mono ?_
              rintro e w1 ⟨rfl, hB⟩
              have HA6 := Lib.hid (HA5.out.trans (hB.mono HA5.out.size))
              have HK6 := Lib.hid (HK5.out.go hB (Nat.le_refl _))
              clear hB
              go_wp2_with fail
              refine (units_main _ _ _ _ (tabAt w _ HT.out HA6.out) (by omega) (by omega) (by omega)).mono ?_
              rintro e w2 ⟨rfl, hB⟩
              have HK7 := Lib.hid (HK6.out.go hB (Nat.le_refl _))
              clear hB
              go_wp2
              go_roundw
              case rel => exact ⟨⟨i + 1, by omega, by go_num⟩, HK7.out⟩
              case measure => simp [intOf]; omega
            · obtain rfl : i = 29 := by omega
              go_wp2_with fail
              refine (works_any _ (tabAt w _ HT.out HA5.out)).mono ?_
              rintro e w1 ⟨rfl, hB⟩
              have HF := Lib.hid (HA5.out.trans (hB.mono HA5.out.size))
              clear hB
              go_wp2
              go_ret
              exact ⟨rfl, HF.out⟩
end Go.Proofs.YtcllimfaoajapaaDoor.Ts
