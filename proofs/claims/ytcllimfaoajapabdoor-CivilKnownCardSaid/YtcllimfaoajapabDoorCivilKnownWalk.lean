/-
  The walk of the closed law CivilKnown.
-/
import Derived.Test.YtcllimfaoajapabDoorCivilDaysWalk
import Derived.Test.YtcllimfaoajapabDoorCivilOfNext
import Derived.Test.YtcllimfaoajapabDoorCivilFromWalk
import Derived.Test.YtcllimfaoajapabDoorCivilMicroWalk
namespace Go.Proofs.YtcllimfaoajapabDoor.Cv
open Go.RowKit

def ysK : List Int := [-1, 0, 1, 2, 3, 4, 100, 400, 1582, 1600, 1900, 1969, 1970, 1972, 2000, 2023, 2024, 2100, 2199, 2200, 9996, 9999, 10000]
def dsK : List Int := [-1, 0, 1, 2, 27, 28, 29, 30, 31, 32]
def nsK : List Int := [-719163, -719162, -719161, -719468, -1, 0, 1, 58, 59, 60, 789, 790, 10956, 10957, 11015, 11016, 11017, 146096, 146097, 2932895, 2932896, 2932897, 4611686018427387904, -9223372036854775808]
theorem cell_ints (l : List Int) (w : World) (T : TypeId) (k : Nat) (h : k < l.length) : (w.alloc (.cells (l.map (Value.int .i64)).toArray T)).cell? ⟨w.heap.size, k, none⟩ = some (.int .i64 (l.getD k 0)) := by
  simp [go_sem, h]
theorem ns_small : ∀ k : Nat, k < 24 → (-3000000 ≤ nsK.getD k 0 ∧ nsK.getD k 0 ≤ 3000000) ∨ nsK.getD k 0 = 4611686018427387904 ∨ nsK.getD k 0 = -9223372036854775808 := by decide
/-- The clocks of the last loop: their cells. -/
def csK : List Int := [2024, 2, 29, 0, 0, 0, 0, 2024, 2, 29, 23, 59, 59, 999999, 2024, 2, 29, 24, 0, 0, 0, 2024, 2, 29, 0, 60, 0, 0, 2024, 2, 29, 0, 0, 60, 0, 2024, 2, 29, 0, 0, 0, 1000000, 2024, 2, 29, -1, 0, 0, 0, 2024, 2, 29, 0, 0, 0, -1, 0, 0, 0, 0, 0, 0, 0]

/-- What is known of a world: what lies below B is as in W. -/
def Kept (B : Nat) (W wr : World) : Prop := Below B W wr
theorem Kept.go {B : Nat} {W a b : World} (h : Kept B W a) (hb : Below a.heap.size a b) (hB : B ≤ W.heap.size) : Kept B W b :=
  Below.trans h (hb.mono (Nat.le_trans hB (Below.size h)))

set_option maxRecDepth 100000 in
set_option maxHeartbeats 4000000 in
theorem known_one (w : World) (ht : Tab w) :
    Calls Tryd.prog 7 #[] w fun e w' => e = .returned (.bool true) ∧ Below w.heap.size w w' := by
  have HT := Lib.hid ht
  clear ht
  go_enter Tryd.func7, Tryd.ntmps7
  go_wp2
  have hc := fun k h => cell_ints ysK w 3 k h
  have hwb := (Below.refl w.heap.size w).alloc (Nat.le_refl _) (.cells (ysK.map (Value.int .i64)).toArray 3)
  have hsz : (w.alloc (.cells (ysK.map (Value.int .i64)).toArray 3)).heap.size = w.heap.size + 1 := by simp
  generalize hW : w.alloc (.cells (ysK.map (Value.int .i64)).toArray 3) = W at hc hwb hsz
  have hW' := hW
  simp only [ysK, List.map_cons, List.map_nil] at hW'
  rw [hW']
  have HC := Lib.hid hc
  have HB := Lib.hid hwb
  have HS := Lib.hid hsz
  clear hW hW' hc hwb hsz
  generalize hB0 : w.heap.size = B0 at *
  have HB0 := Lib.hid hB0
  clear hB0
  go_loopw [13] (fun x wr => (∃ k : Nat, k ≤ 23 ∧ x = .int .i64 k) ∧ Kept W.heap.size W wr) (fun x _ => 23 - (intOf x).toNat)
  case atStart => exact ⟨⟨0, by omega, rfl⟩, Below.refl _ _⟩
  case round =>
    obtain ⟨⟨k, hk, rfl⟩, hkeep⟩ := hrel
    have HK := Lib.hid hkeep
    by_cases hlt : k < 23
    · have hd23 : decide ((k : Int) < 23) = true := decide_eq_true (by omega)
      have hcell : wr.cell? ⟨B0, k, none⟩ = some (.int .i64 (ysK.getD k 0)) := by
        rw [Below.cell (p := ⟨B0, k, none⟩) hkeep (by rw [HS.out]; show B0 < B0 + 1; omega)]; exact HC.out k hlt
      clear hkeep
      generalize ysK.getD k 0 = y at hcell
      go_wp2
      clear hcell
      obtain ⟨wA, rfl⟩ : ∃ wo : World, wo = wr := ⟨_, rfl⟩
      go_loopw [3] (fun x wr => (∃ m : Int, -1 ≤ m ∧ m ≤ 14 ∧ x = .int .i64 m) ∧ Kept W.heap.size W wr) (fun x _ => (14 - intOf x).toNat)
      case atStart => exact ⟨⟨-1, by omega, by omega, rfl⟩, HK.out⟩
      case round =>
        obtain ⟨⟨m, hm1, hm2, rfl⟩, hkeep⟩ := hrel
        have HK2 := Lib.hid hkeep
        clear hkeep
        by_cases hlm : m < 14
        · go_wp2
          obtain ⟨wr2, rfl⟩ : ∃ wo : World, wo = wr := ⟨_, rfl⟩
          have hc2 := fun k h => cell_ints dsK wr2 3 k h
          have hkb := HK2.out.go ((Below.refl wr2.heap.size wr2).alloc (Nat.le_refl _) (.cells (dsK.map (Value.int .i64)).toArray 3)) (Nat.le_refl _)
          have hs2 : (wr2.alloc (.cells (dsK.map (Value.int .i64)).toArray 3)).heap.size = wr2.heap.size + 1 := by simp
          generalize hV : wr2.alloc (.cells (dsK.map (Value.int .i64)).toArray 3) = V at hc2 hkb hs2
          have hV' := hV
          simp only [dsK, List.map_cons, List.map_nil] at hV'
          rw [hV']
          have HC2 := Lib.hid hc2
          have HV := Lib.hid hkb
          have HS2 := Lib.hid hs2
          clear hV hV' hc2 hkb hs2
          go_loopw [23] (fun x wr => (∃ j : Nat, j ≤ 10 ∧ x = .int .i64 j) ∧ Kept V.heap.size V wr) (fun x _ => 10 - (intOf x).toNat)
          case atStart => exact ⟨⟨0, by omega, rfl⟩, Below.refl _ _⟩
          case round =>
            obtain ⟨⟨j, hj, rfl⟩, hkeep⟩ := hrel
            have HK3 := Lib.hid hkeep
            by_cases hlj : j < 10
            · have hcell : wr.cell? ⟨wr2.heap.size, j, none⟩ = some (.int .i64 (dsK.getD j 0)) := by
                rw [Below.cell (p := ⟨wr2.heap.size, j, none⟩) hkeep (by rw [HS2.out]; show wr2.heap.size < wr2.heap.size + 1; omega)]; exact HC2.out j hlj
              clear hkeep
              generalize dsK.getD j 0 = d at hcell
              go_wp2_with fail
              have hall := HV.out.trans (HK3.out.mono HV.out.size)
              refine (civilDays_any y m d _ (HT.out.of (by rw [HB0.out]; exact HB.out.trans (hall.mono (by rw [HS.out]; omega))))).mono ?_
              rintro e w1 ⟨rfl, hB⟩
              have HK4 := Lib.hid (HK3.out.go hB (Nat.le_refl _))
              clear hB hall
              go_wp2
              go_roundw
              case rel => exact ⟨⟨j + 1, by omega, by go_num⟩, HK4.out⟩
              case measure => simp [intOf]; omega
            · obtain rfl : j = 10 := by omega
              go_wp2
              go_roundw
              case rel =>
                exact ⟨⟨m + 1, by omega, by omega, by go_num⟩, HV.out.trans (HK3.out.mono HV.out.size)⟩
              case measure => simp [intOf]; omega
        · obtain rfl : m = 14 := by omega
          go_wp2
          go_roundw
          case rel => exact ⟨⟨k + 1, by omega, by go_num⟩, HK2.out⟩
          case measure => simp [intOf]; omega
    · have hd23 : decide ((k : Int) < 23) = false := decide_eq_false (by omega)
      clear hkeep
      go_wp2
      obtain ⟨wA, rfl⟩ : ∃ wo : World, wo = wr := ⟨_, rfl⟩
      have hc2 := fun k h => cell_ints nsK wA 2 k h
      have hkb := HB.out.trans ((HK.out.go ((Below.refl wA.heap.size wA).alloc (Nat.le_refl _) (.cells (nsK.map (Value.int .i64)).toArray 2)) (Nat.le_refl _)).mono (by rw [HS.out]; omega))
      have hs2 : (wA.alloc (.cells (nsK.map (Value.int .i64)).toArray 2)).heap.size = wA.heap.size + 1 := by simp
      generalize hV : wA.alloc (.cells (nsK.map (Value.int .i64)).toArray 2) = V at hc2 hkb hs2
      have hV' := hV
      simp only [nsK, List.map_cons, List.map_nil] at hV'
      rw [hV']
      have HC2 := Lib.hid hc2
      have HV := Lib.hid hkb
      have HS2 := Lib.hid hs2
      clear hV hV' hc2 hkb hs2
      go_loopw [37] (fun x wr => (∃ j : Nat, j ≤ 24 ∧ x = .int .i64 j) ∧ Kept V.heap.size V wr) (fun x _ => 24 - (intOf x).toNat)
      case atStart => exact ⟨⟨0, by omega, rfl⟩, Below.refl _ _⟩
      case round =>
        obtain ⟨⟨j, hj, rfl⟩, hkeep⟩ := hrel
        have HK3 := Lib.hid hkeep
        by_cases hlj : j < 24
        · have hcell : wr.cell? ⟨wA.heap.size, j, none⟩ = some (.int .i64 (nsK.getD j 0)) := by
            rw [Below.cell (p := ⟨wA.heap.size, j, none⟩) hkeep (by rw [HS2.out]; show wA.heap.size < wA.heap.size + 1; omega)]; exact HC2.out j hlj
          have hsm := ns_small j hlj
          have hd24 : decide ((j : Int) < 24) = true := decide_eq_true (by omega)
          clear hkeep
          generalize nsK.getD j 0 = n at hcell hsm
          have hall := Lib.hid (show Below w.heap.size w wr by exact HB0.out ▸ Below.trans HV.out (HK3.out.mono (HB0.out ▸ Below.size HV.out)))
          rcases hsm with ⟨n0, n1⟩ | rfl | rfl
          · have f1 : n < 1099511627776 := by omega
            have f2 : -1099511627776 < n := by omega
            go_wp2_with fail
            refine (civilOf_any n _ (HT.out.of hall.out)).mono ?_
            rintro e w1 ⟨rfl, hB⟩
            have HA1 := Lib.hid (hall.out.trans (hB.mono hall.out.size))
            have HK4 := Lib.hid (HK3.out.go hB (Nat.le_refl _))
            clear hB
            go_wp2_with fail
            refine (civilFrom_any n _ (HT.out.of HA1.out) (by omega)).mono ?_
            rintro e w2 ⟨rfl, hB⟩
            have HA2 := Lib.hid (HA1.out.trans (hB.mono HA1.out.size))
            have HK5 := Lib.hid (HK4.out.go hB (Nat.le_refl _))
            clear hB
            go_wp2_with fail
            refine (civilFrom_any _ _ (HT.out.of HA2.out) (by omega)).mono ?_
            rintro e w3 ⟨rfl, hB⟩
            have HA3 := Lib.hid (HA2.out.trans (hB.mono HA2.out.size))
            have HK6 := Lib.hid (HK5.out.go hB (Nat.le_refl _))
            clear hB
            go_wp2_with fail
            refine (civilFrom_any _ _ (HT.out.of HA3.out) (by omega)).mono ?_
            rintro e w4 ⟨rfl, hB⟩
            have HK7 := Lib.hid (HK6.out.go hB (Nat.le_refl _))
            clear hB
            go_wp2
            go_roundw
            case rel => exact ⟨⟨j + 1, by omega, by go_num⟩, HK7.out⟩
            case measure => simp [intOf]; omega
          all_goals
            go_wp2_with fail
            refine (civilOf_any _ _ (HT.out.of hall.out)).mono ?_
            rintro e w1 ⟨rfl, hB⟩
            have HA1 := Lib.hid (hall.out.trans (hB.mono hall.out.size))
            have HK4 := Lib.hid (HK3.out.go hB (Nat.le_refl _))
            clear hB
            go_wp2_with fail
            refine (civilFrom_any _ _ (HT.out.of HA1.out) (by omega)).mono ?_
            rintro e w2 ⟨rfl, hB⟩
            have HK5 := Lib.hid (HK4.out.go hB (Nat.le_refl _))
            clear hB
            go_wp2
            go_roundw
            case rel => exact ⟨⟨j + 1, by omega, by go_num⟩, HK5.out⟩
            case measure => simp [intOf]; omega
        · have hd24 : decide ((j : Int) < 24) = false := decide_eq_false (by omega)
          clear hkeep
          go_wp2
          obtain ⟨wB, rfl⟩ : ∃ wo : World, wo = wr := ⟨_, rfl⟩
          have hc3 : ∀ (k : Nat), k < 63 → ((wB.alloc (.cells #[.int .i64 2024, .int .i64 2, .int .i64 29] 23)).alloc (.cells (csK.map (Value.int .i64)).toArray 41)).cell? ⟨wB.heap.size + 1, k, none⟩ = some (.int .i64 (csK.getD k 0)) := fun k h => by
            have := cell_ints csK (wB.alloc (.cells #[.int .i64 2024, .int .i64 2, .int .i64 29] 23)) 41 k h
            rw [show (wB.alloc (.cells #[.int .i64 2024, .int .i64 2, .int .i64 29] 23)).heap.size = wB.heap.size + 1 by simp] at this
            exact this
          have hallB := HB0.out ▸ Below.trans HV.out (HK3.out.mono (HB0.out ▸ Below.size HV.out))
          have hkb3 : Below w.heap.size w ((wB.alloc (.cells #[.int .i64 2024, .int .i64 2, .int .i64 29] 23)).alloc (.cells (csK.map (Value.int .i64)).toArray 41)) := (Below.alloc hallB (Below.size hallB) _).alloc (by have := Below.size hallB; simp; omega) _
          have hs3 : ((wB.alloc (.cells #[.int .i64 2024, .int .i64 2, .int .i64 29] 23)).alloc (.cells (csK.map (Value.int .i64)).toArray 41)).heap.size = wB.heap.size + 2 := by simp
          generalize hU : (wB.alloc (.cells #[.int .i64 2024, .int .i64 2, .int .i64 29] 23)).alloc (.cells (csK.map (Value.int .i64)).toArray 41) = U at hc3 hkb3 hs3
          have hU' := hU
          simp only [csK, List.map_cons, List.map_nil] at hU'
          rw [hU']
          have HC3 := Lib.hid hc3
          have HU := Lib.hid hkb3
          have HS3 := Lib.hid hs3
          clear hU hU' hc3 hkb3 hs3 hallB
          go_loopw [91] (fun x wr => (∃ j : Nat, j ≤ 9 ∧ x = .int .i64 j) ∧ Kept U.heap.size U wr) (fun x _ => 9 - (intOf x).toNat)
          case atStart => exact ⟨⟨0, by omega, rfl⟩, Below.refl _ _⟩
          case round =>
            obtain ⟨⟨i, hi, rfl⟩, hkeep⟩ := hrel
            have HK9 := Lib.hid hkeep
            clear hkeep
            by_cases hli : i < 9
            · have hd9 : decide ((i : Int) < 9) = true := decide_eq_true (by omega)
              have hat : ∀ o : Nat, o < 7 → wr.cell? ⟨wB.heap.size + 1, i * 7 + o, none⟩ = some (.int .i64 (csK.getD (i * 7 + o) 0)) := fun o ho => by
                rw [Below.cell (p := ⟨wB.heap.size + 1, i * 7 + o, none⟩) HK9.out (by rw [HS3.out]; show wB.heap.size + 1 < _; omega)]; exact HC3.out _ (by omega)
              have c0 : wr.cell? ⟨wB.heap.size + 1, i * 7, none⟩ = some (.int .i64 (csK.getD (i * 7 + 0) 0)) := hat 0 (by omega)
              have c1 := hat 1 (by omega)
              have c2 := hat 2 (by omega)
              have c3 := hat 3 (by omega)
              have c4 := hat 4 (by omega)
              have c5 := hat 5 (by omega)
              have c6 := hat 6 (by omega)
              clear hat
              generalize csK.getD (i * 7 + 0) 0 = v0 at c0
              generalize csK.getD (i * 7 + 1) 0 = v1 at c1
              generalize csK.getD (i * 7 + 2) 0 = v2 at c2
              generalize csK.getD (i * 7 + 3) 0 = v3 at c3
              generalize csK.getD (i * 7 + 4) 0 = v4 at c4
              generalize csK.getD (i * 7 + 5) 0 = v5 at c5
              generalize csK.getD (i * 7 + 6) 0 = v6 at c6
              have hallU := Lib.hid (Below.trans HU.out (HK9.out.mono (Below.size HU.out)))
              have HKA := Lib.hid (Kept.go HK9.out ((Below.refl wr.heap.size wr).alloc (Nat.le_refl _) (.cells #[.int .i64 v0, .int .i64 v1, .int .i64 v2, .int .i64 v3, .int .i64 v4, .int .i64 v5, .int .i64 v6] 41)) (Nat.le_refl _))
              go_wp2_with fail
              refine (civilMicro_any v0 v1 v2 v3 v4 v5 v6 _ (HT.out.of (hallU.out.alloc hallU.out.size _))).mono ?_
              rintro e w1 ⟨rfl, hB⟩
              have HKB := Lib.hid (HKA.out.go hB (Nat.le_refl _))
              clear hB
              go_wp2
              go_roundw
              case rel => exact ⟨⟨i + 1, by omega, by go_num⟩, HKB.out⟩
              case measure => simp [intOf]; omega
            · obtain rfl : i = 9 := by omega
              have hallU := Lib.hid (Below.trans HU.out (HK9.out.mono (Below.size HU.out)))
              go_wp2_with fail
              refine (works_any _ (HT.out.of hallU.out)).mono ?_
              rintro e w1 ⟨rfl, hB⟩
              have HF := Lib.hid (hallU.out.trans (hB.mono hallU.out.size))
              clear hB
              go_wp2
              go_ret
              exact ⟨rfl, HF.out⟩
theorem civilKnown_any (w : World) (ht : Tab w) :
    Calls Tryd.prog 7 #[] w fun e w' => e = .returned (.bool true) ∧ Below w.heap.size w w' := known_one w ht
end Go.Proofs.YtcllimfaoajapabDoor.Cv
