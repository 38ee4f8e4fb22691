/-
  The document's own answer for the calendar: Days and Of, by counting.
-/
import Derived.Test.YtcllimfaoajapabDoorCvRef
namespace Go.Proofs.YtcllimfaoajapabDoor.Cv
open Go.RowKit

theorem dby_1970 : dby 1970 = 719162 := by unfold dby; omega
theorem dby_le {a b : Int} (h : a ≤ b) : dby a ≤ dby b := by
  rcases Int.lt_or_eq_of_le h with k | k
  · have := dby_mono a b k; have := yl_bd a; omega
  · subst k; omega

set_option maxHeartbeats 2000000 in
theorem rdays_at (y m d n : Int) (w : World) (h : Right y m d) (hn : num y m d = n) :
    Calls Tryd.prog 17 #[dv y m d] w fun e w' => e = .returned (.int .i64 n) ∧ Below w.heap.size w w' := by
  have hb := num_bd h
  rw [hn] at hb
  obtain ⟨h1, h2, h3, h4, h5, h6⟩ := h
  have HN := Lib.hid (show dby y + cum y m + d - 1 - 719162 = n from hn)
  have hml := ml_bd y m
  have hcb := cum_bd y m h3 (by omega)
  have hyl := yl_bd y
  have hdb := dby_bd y h1 (by omega)
  have hM : ∃ M : Int, 1970 ≤ M ∧ y ≤ M ∧ M ≤ 9999 ∧ (M = 1970 ∨ M = y) := ⟨max 1970 y, by omega, by omega, by omega, by omega⟩
  obtain ⟨M, M1, M2, M3, M4⟩ := hM
  have hMb := dby_bd M (by omega) (by omega)
  clear hn
  have hw0 := date_new y m d w 24
  have hwb := (Below.refl w.heap.size w).alloc (Nat.le_refl _) (.cells #[.int .i64 y, .int .i64 m, .int .i64 d] 24)
  have hsz : (w.alloc (.cells #[.int .i64 y, .int .i64 m, .int .i64 d] 24)).heap.size = w.heap.size + 1 := by simp
  go_enter Tryd.func17, Tryd.ntmps17
  go_wp2_with fail
  generalize w.alloc (.cells #[.int .i64 y, .int .i64 m, .int .i64 d] 24) = W at *
  have HW := Lib.hid hw0
  have HB := Lib.hid hwb
  have HS := Lib.hid hsz
  clear hw0 hwb hsz
  go_loopw [3, 4] (fun s k wr => (∃ j : Int, 1 ≤ j ∧ j ≤ m ∧ k = .int .i64 j ∧ s = .int .i64 (d - 1 + cum y j)) ∧ Below W.heap.size W wr) (fun _ k _ => (m - intOf k).toNat)
  case atStart => exact ⟨⟨1, by omega, by omega, rfl, by rw [cum_one]; simp⟩, Below.refl _ _⟩
  case round =>
    obtain ⟨⟨j, hj1, hj2, rfl, rfl⟩, hbr⟩ := hrel
    have hdt := HW.out.below hbr (by rw [HS.out]; omega)
    obtain ⟨c0, c1, c2⟩ := hdt
    have HBR := Lib.hid hbr
    clear hbr
    have hjb := cum_bd y j hj1 (by omega)
    by_cases hlt : j < m
    · have HC := Lib.hid (cum_succ y j hj1 (by omega))
      have hlj := ml_bd y j
      have HL := Lib.hid (long_in (y := y) (m := j) ⟨h1, h2, hj1, by omega⟩)
      go_wp2_with fail
      refine (rlong_at y j _ _ HL.out).mono ?_
      rintro e w1 ⟨rfl, hB⟩
      have HB1 := Lib.hid (HBR.out.trans (hB.mono HBR.out.size))
      clear hB
      go_wp2
      go_roundw
      case rel => exact ⟨⟨j + 1, by omega, by omega, by go_num, by rw [HC.out]; exact congrArg _ (by omega)⟩, HB1.out⟩
      case measure => simp [intOf]; omega
    · obtain rfl : j = m := by omega
      go_wp2
      go_loop [3, 5] (fun s k => ∃ a : Int, 1970 ≤ a ∧ a ≤ M ∧ k = .int .i64 a ∧ s = .int .i64 (d - 1 + cum y j + (dby a - 719162))) (fun _ k => (M - intOf k).toNat)
      case atStart => exact ⟨1970, by omega, by omega, rfl, by rw [dby_1970]; simp⟩
      case round =>
        obtain ⟨a, ha1, ha2, rfl, rfl⟩ := hrel
        have hab := dby_bd a (by omega) (by omega)
        by_cases hlt2 : a < y
        · have HD := Lib.hid (dby_succ a)
          have hya := yl_bd a
          go_wp2_with fail
          refine (ryear_any a _ (by omega) (by omega)).mono ?_
          rintro e w1 ⟨rfl, rfl⟩
          go_wp2
          go_round
          case rel => exact ⟨a + 1, by omega, by omega, by go_num, by rw [HD.out]; exact congrArg _ (by omega)⟩
          case measure => simp [intOf]; omega
        · obtain rfl : a = M := by omega
          go_wp2
          go_loop [3, 6] (fun s k => ∃ b : Int, y ≤ b ∧ b ≤ a ∧ k = .int .i64 b ∧ s = .int .i64 (d - 1 + cum y j + (dby a - 719162) - (dby b - dby y))) (fun _ k => (a - intOf k).toNat)
          case atStart => exact ⟨y, by omega, by omega, rfl, by simp⟩
          case round =>
            obtain ⟨b, hb1, hb2, rfl, rfl⟩ := hrel
            have hbb := dby_bd b (by omega) (by omega)
            by_cases hlt3 : b < 1970
            · have HD := Lib.hid (dby_succ b)
              have hyb := yl_bd b
              go_wp2_with fail
              refine (ryear_any b _ (by omega) (by omega)).mono ?_
              rintro e w1 ⟨rfl, rfl⟩
              go_wp2
              go_round
              case rel => exact ⟨b + 1, by omega, by omega, by go_num, by rw [HD.out]; exact congrArg _ (by omega)⟩
              case measure => simp [intOf]; omega
            · obtain rfl : b = a := by omega
              go_wp2
              go_ret
              refine ⟨ret_int (by rw [← HN.out]; omega), HB.out.trans (HBR.out.mono (by rw [HS.out]; omega))⟩

set_option maxHeartbeats 2000000 in
theorem rof_at (y m d n : Int) (w : World) (h : Right y m d) (hn : num y m d = n) :
    Calls Tryd.prog 20 #[.int .i64 n] w fun e w' => e = .returned (dv y m d) ∧ Below w.heap.size w w' := by
  have hb := num_bd h
  rw [hn] at hb
  obtain ⟨h1, h2, h3, h4, h5, h6⟩ := h
  have hml := ml_bd y m
  have hcb := cum_bd y m h3 (by omega)
  have hyl := yl_bd y
  have hdb := dby_bd y h1 (by omega)
  have hce := cum_mono y m 13 h3 (by omega) (by omega)
  rw [cum_end] at hce
  have hD : ∃ D : Int, D = dby y + (cum y m + d - 1) ∧ n = D - 719162 := ⟨_, rfl, by rw [← hn]; unfold num; omega⟩
  obtain ⟨D, hD1, hD2⟩ := hD
  have D0 : dby y ≤ D ∧ D < dby y + yl y := by omega
  have HD1 := Lib.hid hD1
  have HD2 := Lib.hid hD2
  clear hn hD1 hD2
  have hwb := (Below.refl w.heap.size w).alloc (Nat.le_refl _) (.cells #[.int .i64 0, .int .i64 0, .int .i64 0] 24)
  have hw0 := date_new 0 0 0 w 24
  have hsz : (w.alloc (.cells #[.int .i64 0, .int .i64 0, .int .i64 0] 24)).heap.size = w.heap.size + 1 := by simp
  go_enter Tryd.func20, Tryd.ntmps20
  go_wp2_with fail
  have hf : ∀ o, (w.alloc (.cells #[.int .i64 0, .int .i64 0, .int .i64 0] 24)).frozen? ⟨w.heap.size, o, none⟩ = false := fun o => by simp [go_sem]
  generalize w.alloc (.cells #[.int .i64 0, .int .i64 0, .int .i64 0] 24) = W at *
  have HW := Lib.hid hw0
  have HB := Lib.hid hwb
  have HS := Lib.hid hsz
  have HF := Lib.hid hf
  clear hw0 hwb hsz hf
  go_loop [0, 3] (fun s k => ∃ a : Int, 1 ≤ a ∧ a ≤ 1970 ∧ (y ≤ a ∨ a = 1970) ∧ k = .int .i64 a ∧ s = .int .i64 (D - dby a)) (fun _ k => (intOf k).toNat)
  case atStart => exact ⟨1970, by omega, by omega, by omega, rfl, by rw [dby_1970, ← HD2.out]⟩
  case round =>
    obtain ⟨a, ha1, ha2, ha3, rfl, rfl⟩ := hrel
    have hab := dby_bd a (by omega) (by omega)
    by_cases hlt : D - dby a < 0
    · have hya : y < a := by
        rcases Int.lt_or_le y a with k | k
        · exact k
        · have := dby_le k; omega
      have HE := Lib.hid (show dby a = dby (a - 1) + yl (a - 1) by have := dby_succ (a - 1); rw [show a - 1 + 1 = a by omega] at this; exact this)
      have hy1 := yl_bd (a - 1)
      go_wp2_with fail
      refine (ryear_any (a - 1) _ (by omega) (by omega)).mono ?_
      rintro e w1 ⟨rfl, rfl⟩
      go_wp2
      go_round
      case rel => exact ⟨a - 1, by omega, by omega, by omega, rfl, by rw [HE.out]; exact congrArg _ (by omega)⟩
      case measure => simp [intOf]; omega
    · have hay : a ≤ y := by
        rcases Int.lt_or_le y a with k | k
        · have := dby_mono y a k; omega
        · exact k
      go_wp2
      go_loop [0, 3] (fun s k => ∃ b : Int, 1 ≤ b ∧ b ≤ y ∧ k = .int .i64 b ∧ s = .int .i64 (D - dby b)) (fun _ k => (y - intOf k).toNat)
      case atStart => exact ⟨a, by omega, by omega, rfl, rfl⟩
      case round =>
        obtain ⟨b, hb1, hb2, rfl, rfl⟩ := hrel
        have hbb := dby_bd b (by omega) (by omega)
        have hyb := yl_bd b
        by_cases hlt2 : b < y
        · have hmo := dby_mono b y hlt2
          have HE := Lib.hid (dby_succ b)
          go_wp2_with fail
          refine (ryear_any b _ (by omega) (by omega)).mono ?_
          rintro e w1 ⟨rfl, rfl⟩
          go_wp2_with fail
          refine (ryear_any b _ (by omega) (by omega)).mono ?_
          rintro e w1 ⟨rfl, rfl⟩
          go_wp2
          go_round
          case rel => exact ⟨b + 1, by omega, by omega, by go_num, by rw [HE.out]; exact congrArg _ (by omega)⟩
          case measure => simp [intOf]; omega
        · obtain rfl : b = y := by omega
          go_wp2_with fail
          refine (ryear_any b _ (by omega) (by omega)).mono ?_
          rintro e w1 ⟨rfl, rfl⟩
          go_wp2
          go_loopw [0, 4] (fun s k wr => (∃ j : Int, 1 ≤ j ∧ j ≤ m ∧ k = .int .i64 j ∧ s = .int .i64 (cum b m + d - 1 - cum b j)) ∧ Below W.heap.size W wr) (fun _ k _ => (m - intOf k).toNat)
          case atStart => exact ⟨⟨1, by omega, by omega, rfl, by rw [cum_one, HD1.out]; exact congrArg _ (by omega)⟩, Below.refl _ _⟩
          case round =>
            obtain ⟨⟨j, hj1, hj2, rfl, rfl⟩, hbr⟩ := hrel
            have hjb := cum_bd b j hj1 (by omega)
            have hlj := ml_bd b j
            have HL := Lib.hid (long_in (y := b) (m := j) ⟨h1, h2, hj1, by omega⟩)
            have HBR := Lib.hid hbr
            clear hbr
            by_cases hlt3 : j < m
            · have HC := Lib.hid (cum_succ b j hj1 (by omega))
              have hmo := cum_mono b j m hj1 hlt3 (by omega)
              go_wp2_with fail
              refine (rlong_at b j _ _ HL.out).mono ?_
              rintro e w1 ⟨rfl, hB⟩
              have HB1 := Lib.hid (HBR.out.trans (hB.mono HBR.out.size))
              clear hB
              go_wp2_with fail
              refine (rlong_at b j _ _ HL.out).mono ?_
              rintro e w2 ⟨rfl, hB⟩
              have HB2 := Lib.hid (HB1.out.trans (hB.mono HB1.out.size))
              clear hB
              go_wp2
              go_roundw
              case rel => exact ⟨⟨j + 1, by omega, by omega, by go_num, by rw [HC.out]; exact congrArg _ (by omega)⟩, HB2.out⟩
              case measure => simp [intOf]; omega
            · obtain rfl : j = m := by omega
              go_wp2_with fail
              refine (rlong_at b j _ _ HL.out).mono ?_
              rintro e w1 ⟨rfl, hB⟩
              have hb1 := HBR.out.trans (hB.mono HBR.out.size)
              have hlt5 : w.heap.size < W.heap.size := by rw [HS.out]; omega
              have hdt := HW.out.below hb1 hlt5
              obtain ⟨c0, c1, c2⟩ := hdt
              have f0 : w1.frozen? ⟨w.heap.size, 0, none⟩ = false := by rw [hb1.frozen (p := ⟨w.heap.size, 0, none⟩) hlt5]; exact HF.out 0
              have f1 : w1.frozen? ⟨w.heap.size, 1, none⟩ = false := by rw [hb1.frozen (p := ⟨w.heap.size, 1, none⟩) hlt5]; exact HF.out 1
              have f2 : w1.frozen? ⟨w.heap.size, 2, none⟩ = false := by rw [hb1.frozen (p := ⟨w.heap.size, 2, none⟩) hlt5]; exact HF.out 2
              have HB1 := Lib.hid (HB.out.trans (hb1.mono (Nat.le_of_lt hlt5)))
              clear hB hb1
              go_wp2
              rw [show cum b j + d - 1 - cum b j + 1 = d by omega]
              exact bodyPost_ret (v := dv b j d) (by simp [results, Tryd.results20, go_sem, c0, c1, c2]) rfl ⟨rfl, ((HB1.out.setCell (Nat.le_refl _) _).setCell (Nat.le_refl _) _).setCell (Nat.le_refl _) _⟩
end Go.Proofs.YtcllimfaoajapabDoor.Cv
