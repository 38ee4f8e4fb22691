/-
  Layer 5: the law VfsPlays: its walk (written by gen_plays.py).
-/
import Derived.Test.YtdbcjiapbehacaaGreatDoorVqZ
namespace Go.Proofs.YtdbcjiapbehacaaGreatDoor.Vp
open Go.RowKit Go.Maps
open Go.Proofs.YtdbcjiapbehacaaGreatDoor.Vf (Hold OwnR Owns Fs FineD Moves bl_drewN)

set_option maxRecDepth 100000 in
set_option maxHeartbeats 8000000 in
theorem vfsPlays_any (most : Int) (A1 : Option Addr) (n1 c1 : Nat) (os1 : List Op) (w : World) (hmo : -9223372036854775808 ≤ most ∧ most ≤ 9223372036854775807) (hn1 : n1 ≤ 9223372036854775807) (ho1 : Ops w w.heap.size A1 n1 os1) :
    Calls Tryz.prog 3 #[.int .i64 most, .slice A1 n1 c1] w fun e w' => e = .returned (.bool true) ∧ Below w.heap.size w w' := by
  have HWK := Lib.hid (fun W => works_any W)
  by_cases hbig1 : 80 < n1
  · go_enter Tryz.func3, Tryz.ntmps3
    go_wp2_with (first
      | (go_at_call 10; refine (HWK.out _).mono ?_; rintro e w13 ⟨rfl, hbw⟩; have B13 := Lib.hid hbw; clear hbw)
      | fail)
    go_ret
    exact ⟨rfl, B13.out⟩
  by_cases hbig2 : 100000 < most
  · go_enter Tryz.func3, Tryz.ntmps3
    go_wp2_with (first
      | (go_at_call 10; refine (HWK.out _).mono ?_; rintro e w13 ⟨rfl, hbw⟩; have B13 := Lib.hid hbw; clear hbw)
      | fail)
    go_ret
    exact ⟨rfl, B13.out⟩
  have HO1 := Lib.hid ho1
  have HNF := Lib.hid (new_any most w)
  have HNG := Lib.hid (fun V => Vf.new_any most V)
  obtain ⟨R, hR⟩ : ∃ R, max most 0 = R := ⟨_, rfl⟩
  have hR0 : 0 ≤ R := by omega
  have hR1 : R ≤ 100000 := by omega
  have HL0 : Hid (Link (newS R) (Vf.newFs most)) := Lib.hid (by rw [← hR]; exact link_new most)
  have HM0 : Hid ((Vf.newFs most).most = R) := Lib.hid (by rw [← hR]; exact Int.max_comm _ _)
  rw [hR] at HNF
  have HR0 := Lib.hid hR0; have HR1 := Lib.hid hR1
  clear ho1 hR hR0 hR1
  go_enter Tryz.func3, Tryz.ntmps3
  go_wp2_with (first
    | (go_at_call 11; refine HNF.out.mono ?_; clear HNF; rintro e w1 ⟨rfl, hA, hb1⟩; have HA := Lib.hid hA; have HB1 := Lib.hid hb1; clear hA hb1)
    | (go_at_call 12; refine (HNG.out _).mono ?_; clear HNG; rintro e w2 ⟨rfl, hG, hb2⟩; have D0 := Lib.hid (duo_new HA.out HB1.out hG hb2); clear hG hb2)
    | fail)
  have hPw : w.heap.size ≤ w2.heap.size := D0.out.pn
  have R0 : Hid (Run w w2.heap.size R R 1 1 w.heap.size (newS R) (newL (w.heap.size + 1)) (w1.heap.size + 1) (Vf.newFs most) (w2.alloc (.cells #[.pointer (some ⟨w.heap.size, 0, none⟩), .pointer (some ⟨w1.heap.size + 1, 0, none⟩)] 30))) := Lib.hid ⟨D0.out, fine_new R, Vf.fine_newD most, inv_new R, rfl, HM0.out⟩
  clear D0 HM0
  obtain ⟨P, hP⟩ : ∃ P, w2.heap.size = P := ⟨_, rfl⟩
  rw [hP] at R0 hPw
  try rw [hP]
  clear HA HB1
  generalize w2.alloc (.cells #[.pointer (some ⟨w.heap.size, 0, none⟩), .pointer (some ⟨w1.heap.size + 1, 0, none⟩)] 30) = w3 at R0 ⊢
  clear hP
  go_loopw [6] (fun i wr => ∃ (k p : Nat) (s : Pf) (l : Loc) (pr : Nat) (fs : Fs), k ≤ n1 ∧ i = .int .i64 k ∧ Run w P R R (2 * k + 1) (2 * k + 1) p s l pr fs wr ∧ Link s fs) (fun i _ => n1 - (intOf i).toNat)
  case atStart => exact ⟨0, _, _, _, _, _, Nat.zero_le _, rfl, R0.out, HL0.out⟩
  case round =>
    obtain ⟨k, p, s, l, pr, fs, hk, rfl, hrn, hlk⟩ := hrel
    have HRN := Lib.hid hrn; have HLK := Lib.hid hlk
    clear hrn hlk R0 HL0
    by_cases hlt : k < n1
    · have hol : k < os1.length := by rw [HO1.out.len]; exact hlt
      obtain ⟨o, hoo⟩ : ∃ o, os1[k]? = some o := ⟨_, List.getElem?_eq_getElem hol⟩
      obtain ⟨hok, g, off, rfl, hg, q0, q1, q2, q3⟩ := HO1.out.at_ k o hoo
      have q0 := (HRN.out.duo.one.below.cell (p := ⟨g, off + k * 4, none⟩) hg).trans q0
      have q1 := (HRN.out.duo.one.below.cell (p := ⟨g, off + k * 4 + 1, none⟩) hg).trans q1
      have q2 := (HRN.out.duo.one.below.cell (p := ⟨g, off + k * 4 + 2, none⟩) hg).trans q2
      have q3 := (HRN.out.duo.one.below.cell (p := ⟨g, off + k * 4 + 3, none⟩) hg).trans q3
      have hk0 : (0 : Int) ≤ (k : Int) := by omega
      have hk1 : (k : Int) < (n1 : Int) := by omega
      by_cases hsa : o.a.size ≤ 300
      · by_cases hsb : o.b.size ≤ 300
        · obtain ⟨hre, hli⟩ := play_link HLK.out HRN.out.inv o (by unfold okS; omega) (by unfold okS; omega)
          have HLI := Lib.hid hli
          have hdo := run_do o hok ⟨hsa, hsb⟩ HRN.out (by omega) (by omega) HR0.out (by have := HR0.out; have := HR1.out; omega)
          rw [hre] at hdo
          have HDO := Lib.hid hdo
          have HKL : Hid (∀ V p' l' pr', Run w P R R (2 * k + 1 + 2) (2 * k + 1 + 2) p' (doS s o) l' pr' (doG fs o) V → Calls Tryz.prog 14 #[.pointer (some ⟨P, 0, none⟩)] V fun e V' => e = .returned (.bool true) ∧ Below V.heap.size V V') := Lib.hid fun V p' l' pr' h => looks_any h HLI.out (by omega) (by omega) HR0.out
          clear hre hli hdo
          go_wp2_with (first
            | (go_at_call 13; refine HDO.out.mono ?_; clear HDO; rintro e w5 ⟨rfl, p', l', pr', hr5⟩; have R5 := Lib.hid hr5; clear hr5)
            | (go_at_call 14; refine (HKL.out _ _ _ _ R5.out).mono ?_; clear HKL; rintro e w6 ⟨rfl, hb6⟩; have B6 := Lib.hid hb6; clear hb6)
            | fail)
          exact ⟨⟨k + 1, p', _, l', pr', _, hlt, by go_num, R5.out.keep B6.out, HLI.out⟩, by simp [intOf]; omega⟩
        · go_wp2_with (first
            | (go_at_call 10; refine (HWK.out _).mono ?_; rintro e w13 ⟨rfl, hbw⟩; have B13 := Lib.hid hbw; clear hbw)
            | fail)
          go_ret
          exact ⟨rfl, HRN.out.duo.one.below.trans (B13.out.mono HRN.out.duo.one.below.size)⟩
      · go_wp2_with (first
          | (go_at_call 10; refine (HWK.out _).mono ?_; rintro e w13 ⟨rfl, hbw⟩; have B13 := Lib.hid hbw; clear hbw)
          | fail)
        go_ret
        exact ⟨rfl, HRN.out.duo.one.below.trans (B13.out.mono HRN.out.duo.one.below.size)⟩
    · go_wp2_with (first
        | (go_at_call 10; refine (HWK.out _).mono ?_; rintro e w13 ⟨rfl, hbw⟩; have B13 := Lib.hid hbw; clear hbw)
        | fail)
      go_ret
      exact ⟨rfl, HRN.out.duo.one.below.trans (B13.out.mono HRN.out.duo.one.below.size)⟩
end Go.Proofs.YtdbcjiapbehacaaGreatDoor.Vp
