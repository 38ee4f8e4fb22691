/-
  Layer 5: the law VfsSynced: its walk (written by gen_synced.py).
-/
import Derived.Test.YtdbcjiapbehacaaGreatDoorVpW
namespace Go.Proofs.YtdbcjiapbehacaaGreatDoor.Vp
open Go.RowKit Go.Maps
open Go.Proofs.YtdbcjiapbehacaaGreatDoor.Vf (Hold OwnR Owns Fs FineD Moves Reads Reads.at_ Reads.keep bl_drewN wpMixG_free wpMixG_turn wpMixG_end permL)

def row3 : List Value := [.string ⟨#[47]⟩, .string ⟨#[47, 100]⟩, .string ⟨#[47, 101]⟩]
theorem row3_get {k : Nat} {d : ByteArray} (h : dirs3[k]? = some d) : row3[k]? = some (.string d) := by
  have e : row3 = dirs3.map Value.string := rfl
  rw [e, List.getElem?_map, h]; rfl
def pX1 : ByteArray := ⟨#[47, 120]⟩
theorem room_reboot (s : Pf) (n : Int) : (rebootS s n).room = s.room := room_do s ⟨9, ⟨#[]⟩, ⟨#[]⟩, n⟩
theorem room_sync (s : Pf) (a : ByteArray) : (syncS s a).room = s.room := room_do s ⟨2, a, ⟨#[]⟩, 0⟩
theorem room_syncDir (s : Pf) (a : ByteArray) : (syncDirS s a).room = s.room := room_do s ⟨3, a, ⟨#[]⟩, 0⟩
set_option maxRecDepth 100000 in
set_option maxHeartbeats 8000000 in
theorem vfsSynced_any (A1 : Option Addr) (n1 c1 : Nat) (os1 : List Op) (choice : Int) (w : World) (hn1 : n1 ≤ 9223372036854775807) (ho1 : Ops w w.heap.size A1 n1 os1) :
    Calls Tryz.prog 9 #[.slice A1 n1 c1, .int .i64 choice] w fun e w' => e = .returned (.bool true) ∧ Below w.heap.size w w' := by
  have HWK := Lib.hid (fun W => works_any W)
  by_cases hbig1 : 60 < n1
  · go_enter Tryz.func9, Tryz.ntmps9
    go_wp2_with (first
      | (go_at_call 10; refine (HWK.out _).mono ?_; rintro e w13 ⟨rfl, hbw⟩; have B13 := Lib.hid hbw; clear hbw)
      | fail)
    go_ret
    exact ⟨rfl, B13.out⟩
  have HO1 := Lib.hid ho1
  have HNF := Lib.hid (new_any 5000 w)
  have HNG := Lib.hid (fun V => Vf.new_any 5000 V)
  have hmx : max (5000 : Int) 0 = 5000 := by decide
  rw [hmx] at HNF
  clear ho1 hmx
  go_enter Tryz.func9, Tryz.ntmps9
  go_wp2_with (first
    | (go_at_call 11; refine HNF.out.mono ?_; clear HNF; rintro e w1 ⟨rfl, hA, hb1⟩; have HA := Lib.hid hA; have HB1 := Lib.hid hb1; clear hA hb1)
    | (go_at_call 12; refine (HNG.out _).mono ?_; clear HNG; rintro e w2 ⟨rfl, hG, hb2⟩; have R0 := Lib.hid (run_new HA.out HB1.out hG hb2 (by decide)); clear hG hb2)
    | fail)
  have hPw : w.heap.size ≤ w2.heap.size := R0.out.duo.pn
  obtain ⟨P, hP⟩ : ∃ P, w2.heap.size = P := ⟨_, rfl⟩
  rw [hP] at R0 hPw
  try rw [hP]
  clear HA HB1
  generalize w2.alloc (.cells #[.pointer (some ⟨w.heap.size, 0, none⟩), .pointer (some ⟨w1.heap.size + 1, 0, none⟩)] 30) = w3 at R0 ⊢
  clear hP
  go_loopw [6] (fun i wr => ∃ (k p : Nat) (s : Pf) (l : Loc) (pr : Nat) (fs : Fs), k ≤ n1 ∧ i = .int .i64 k ∧ Run w P 5000 5000 (2 * k + 1) (2 * k + 1) p s l pr fs wr) (fun i _ => n1 - (intOf i).toNat)
  case atStart => exact ⟨0, _, _, _, _, _, Nat.zero_le _, rfl, R0.out⟩
  case round =>
    obtain ⟨k, p, s, l, pr, fs, hk, rfl, hrn⟩ := hrel
    have HRN := Lib.hid hrn
    clear hrn R0
    by_cases hlt : k < n1
    · have hol : k < os1.length := by rw [HO1.out.len]; exact hlt
      obtain ⟨o, hoo⟩ : ∃ o, os1[k]? = some o := ⟨_, List.getElem?_eq_getElem hol⟩
      obtain ⟨hok, g, off, rfl, hg, q0, q1, q2, q3⟩ := HO1.out.at_ k o hoo
      have q0 := (HRN.out.duo.one.below.cell (p := ⟨g, off + k * 4, none⟩) hg).trans q0
      have q1 := (HRN.out.duo.one.below.cell (p := ⟨g, off + k * 4 + 1, none⟩) hg).trans q1
      have q2 := (HRN.out.duo.one.below.cell (p := ⟨g, off + k * 4 + 2, none⟩) hg).trans q2
      have q3 := (HRN.out.duo.one.below.cell (p := ⟨g, off + k * 4 + 3, none⟩) hg).trans q3
      have hk0 : (0 : Int) ≤ (k : Int) := by omega
      have hk1 : (k : Int) < (n1 : Int) := by omega
      by_cases hsa : o.a.size ≤ 300
      · by_cases hsb : o.b.size ≤ 300
        · have HDO := Lib.hid (run_do o hok ⟨hsa, hsb⟩ HRN.out (by omega) (by omega) (by decide) (by decide))
          go_wp2_with (first
            | (go_at_call 13; refine HDO.out.mono ?_; clear HDO; rintro e w5 ⟨rfl, p', l', pr', hr5⟩; have R5 := Lib.hid hr5; clear hr5)
            | fail)
          exact ⟨⟨k + 1, p', _, l', pr', _, hlt, by go_num, R5.out⟩, by simp [intOf]; omega⟩
        · go_wp2_with (first
            | (go_at_call 10; refine (HWK.out _).mono ?_; rintro e w13 ⟨rfl, hbw⟩; have B13 := Lib.hid hbw; clear hbw)
            | fail)
          go_ret
          exact ⟨rfl, HRN.out.duo.one.below.trans (B13.out.mono HRN.out.duo.one.below.size)⟩
      · go_wp2_with (first
          | (go_at_call 10; refine (HWK.out _).mono ?_; rintro e w13 ⟨rfl, hbw⟩; have B13 := Lib.hid hbw; clear hbw)
          | fail)
        go_ret
        exact ⟨rfl, HRN.out.duo.one.below.trans (B13.out.mono HRN.out.duo.one.below.size)⟩
    · have bF := HRN.out.duo.boxF
      have hfi0 := HRN.out.fine
      obtain ⟨s0, hs0⟩ : ∃ s0, rebootS s 0 = s0 := ⟨_, rfl⟩
      have HRB : Hid (∀ V l, Duo w P p s l pr fs V → Calls Tryz.prog 19 #[.pointer (some ⟨p, 0, none⟩), .int .i64 0] V fun e V' => (∃ r, e = .returned r) ∧ LeftF w P p s0 pr fs V V' ∧ Fine s0 (2 * k + 1)) := Lib.hid fun V l h => by have := rebootF h hfi0 (by omega) 0; rwa [hs0] at this
      have HU0 : Hid (Up s0) := Lib.hid (by rw [← hs0]; exact up_reboot s 0)
      have HI0 : Hid (Inv s0) := Lib.hid (by rw [← hs0]; exact HRN.out.inv.reboot 0)
      have HM0 : Hid (s0.room = 5000) := Lib.hid (by rw [← hs0, room_reboot]; exact HRN.out.room)
      have D0 := Lib.hid HRN.out.duo
      clear hfi0 hs0 HRN
      go_wp2_with (first
        | (go_at_call 19; refine (HRB.out _ _ D0.out).mono ?_; clear HRB; rintro e v1 ⟨⟨rr, rfl⟩, ⟨⟨l1, d1⟩, _⟩, hf1⟩; have D1 := Lib.hid d1; have F1 := Lib.hid hf1; clear d1 hf1)
        | fail)
      have hk60 : k ≤ 60 := by omega
      have hG := heap_alloc_new v1 (.cells #[.string ⟨#[47]⟩, .string ⟨#[47, 100]⟩, .string ⟨#[47, 101]⟩] 9)
      have hdg := D1.out.keep ((Below.refl _ _).alloc (Nat.le_refl _) (.cells #[.string ⟨#[47]⟩, .string ⟨#[47, 100]⟩, .string ⟨#[47, 101]⟩] 9))
      obtain ⟨G, hGe⟩ : ∃ G, v1.heap.size = G := ⟨_, rfl⟩
      generalize v1.alloc (.cells #[.string ⟨#[47]⟩, .string ⟨#[47, 100]⟩, .string ⟨#[47, 101]⟩] 9) = v2 at hG hdg ⊢
      rw [hGe] at hG
      try rw [hGe]
      have D2 := Lib.hid hdg
      have HROW0 : Hid (Hold v2 G 9 row3) := Lib.hid hG
      have F0 : Hid (Fine s0 200) := Lib.hid (F1.out.mono (by omega))
      have N0 : Hid (s0.names.length ≤ 121) := Lib.hid (Nat.le_trans F1.out.fits.names (by omega))
      clear D0 D1 F1 bF hG hdg hGe hlt hk hk60
      go_loopw [57] (fun i wr => ∃ (k : Nat) (s : Pf) (l : Loc), k ≤ 3 ∧ i = .int .i64 k ∧ Duo w P p s l pr fs wr ∧ Hold wr G 9 row3 ∧ Up s ∧ Inv s ∧ Fine s (200 + 200 * k) ∧ s.room = 5000 ∧ s.names.length ≤ 121 ∧ ∀ d ∈ dirs3.take k, Done s d) (fun i _ => 3 - (intOf i).toNat)
      case atStart => exact ⟨0, s0, _, by omega, rfl, D2.out, HROW0.out, HU0.out, HI0.out, F0.out, HM0.out, N0.out, fun d hd => by cases hd⟩
      case round =>
        clear D2 HROW0 HU0 HI0 F0 HM0 N0
        obtain ⟨k, s, l, hk, rfl, hd, hrow, hup, hin, hfi, hrm, hnl, hdn⟩ := hrel
        have D0 := Lib.hid hd; have HROW := Lib.hid hrow; have HUP := Lib.hid hup; have HIN := Lib.hid hin; have HFI := Lib.hid hfi; have HRM := Lib.hid hrm; have HNL := Lib.hid hnl; have HDN := Lib.hid hdn
        have bF := hd.boxF
        clear hd hrow hup hin hfi hrm hnl hdn
        by_cases hlt : k < 3
        · obtain ⟨d, hdk⟩ : ∃ d, dirs3[k]? = some d := ⟨_, List.getElem?_eq_getElem (by show k < 3; exact hlt)⟩
          have hdm := List.mem_of_getElem? hdk
          obtain ⟨hds, hdp⟩ := dirs_small hdm
          have hod : okS d := by unfold okS; omega
          have q0 : wr.cell? ⟨G, k, none⟩ = some (.string d) := by rw [HROW.out.cell]; exact row3_get hdk
          have hX := listX_len s d
          have HXS : Hid ((listX s d).length ≤ 121) := Lib.hid (Nat.le_trans hX HNL.out)
          clear hX
          obtain ⟨X, hXe⟩ : ∃ X, listX s d = X := ⟨_, rfl⟩
          obtain ⟨R, hR⟩ : ∃ R, findDirRes s d = R := ⟨_, rfl⟩
          have HLS : Hid (∀ V l, Duo w P p s l pr fs V → Calls Tryz.prog 26 #[.pointer (some ⟨p, 0, none⟩), .string d] V fun e V' => (∃ A c, e = .returned (.tuple #[.slice A X.length c, .int .i64 R]) ∧ Reads V' 9 1 (.slice A X.length c) (strs X)) ∧ LeftF w P p s pr fs V V') := Lib.hid fun V l h => (list_x h.one.f HFI.out (by omega) d hod).mono fun e V' ⟨he, ha⟩ => by
            rw [hXe, hR] at he
            rw [HUP.out.tick] at ha
            exact ⟨he, h.onF ha, stayF h.one.f ha⟩
          have HXM : Hid (∀ n ∈ X, Canon ⟨d, n⟩) := Lib.hid fun n hn => by
            rw [← hXe] at hn
            obtain ⟨i, hi⟩ := mem_listX hn
            exact HFI.out.canon.names _ hi
          have HXE := Lib.hid hXe
          rw [hXe] at HXS
          have hk0 : (0 : Int) ≤ (k : Int) := by omega
          have hk1 : (k : Int) < 3 := by omega
          have HDK := Lib.hid hdk; have HDM := Lib.hid hdm; have HDP := Lib.hid hdp
          clear hXe hR hdk hdm hdp
          go_wp2_with (first
            | (go_at_call 26; refine (HLS.out _ _ D0.out).mono ?_; clear HLS; rintro e v1 ⟨⟨A1, c1, rfl, hr1⟩, ⟨l1, d1⟩, st1⟩; have D1 := Lib.hid d1; have R1 := Lib.hid hr1; have HROW1 := Lib.hid (st1.hold HROW.out (by decide)); clear d1 hr1 st1)
            | fail)
          clear D0 HROW bF q0
          obtain ⟨wA, rfl⟩ : ∃ wo : World, wo = wr := ⟨_, rfl⟩
          go_loopw [11] (fun i wr => ∃ (j : Nat) (t : Pf) (l : Loc), j ≤ X.length ∧ i = .int .i64 j ∧ Duo w P p t l pr fs wr ∧ Hold wr G 9 row3 ∧ Reads wr 9 1 (.slice A1 X.length c1) (strs X) ∧ Calm s t ∧ Up t ∧ Inv t ∧ Fine t (200 + 200 * k + j) ∧ t.room = 5000 ∧ ∀ n ∈ X.take j, ∀ i, look s.names ⟨d, n⟩ = some i → (t.files i).c = (t.files i).d ∨ isDirS s (joinP d n) = true) (fun i _ => X.length - (intOf i).toNat)
          case atStart => exact ⟨0, s, _, Nat.zero_le _, rfl, D1.out, HROW1.out, R1.out, Calm.refl s, HUP.out, HIN.out, HFI.out, HRM.out, fun n hn => by cases hn⟩
          case round =>
            clear D1 R1 HROW1
            obtain ⟨j, t, l, hj, rfl, hd, hrow, hrd, hca, hup, hin, hfi, hrm, hnx⟩ := hrel
            have HD := Lib.hid hd; have HROW := Lib.hid hrow; have RD := Lib.hid hrd; have HCA := Lib.hid hca; have HUT := Lib.hid hup; have HIT := Lib.hid hin; have HFT := Lib.hid hfi; have HRT := Lib.hid hrm; have HNT := Lib.hid hnx
            clear hd hrow hrd hca hup hin hfi hrm hnx
            by_cases hlt2 : j < X.length
            · obtain ⟨n, hn⟩ : ∃ n, X[j]? = some n := ⟨_, List.getElem?_eq_getElem hlt2⟩
              have hcn := HXM.out n (List.mem_of_getElem? hn)
              have hn64 : n.size ≤ 64 := hcn.small
              obtain ⟨ga, cc, hA, hc1, hcA⟩ := RD.out.at_ (k := j) (cs := [.string n]) (by unfold strs; rw [List.getElem?_map, hn]; rfl)
              rw [show (strs X).length = X.length from List.length_map _] at hA
              injection hA with e1 _ e3
              subst e1; subst e3
              have c0 : wr.cell? ⟨ga, j, none⟩ = some (.string n) := by have := hcA 0 _ rfl; simpa using this
              have hk0 : (0 : Int) ≤ (j : Int) := by omega
              have hk1 : (j : Int) < (X.length : Int) := by omega
              have hxb := HXS.out
              have hqs := join_size hds hn64
              have hoq : okS (joinP d n) := by unfold okS; omega
              obtain ⟨hc1', hu1'⟩ := HUT.out.sync (joinP d n)
              have HCA1 := Lib.hid (HCA.out.trans hc1')
              have HUP1 := Lib.hid hu1'
              have HIN1 := Lib.hid (HIT.out.sync (joinP d n))
              have HFI1 : Hid (Fine (syncS t (joinP d n)) (200 + 200 * k + (j + 1))) := Lib.hid (HFT.out.sync (joinP d n))
              have HRM1 : Hid ((syncS t (joinP d n)).room = 5000) := Lib.hid ((room_sync t _).trans HRT.out)
              have HNX : Hid (∀ n' ∈ X.take (j + 1), ∀ i, look s.names ⟨d, n'⟩ = some i → ((syncS t (joinP d n)).files i).c = ((syncS t (joinP d n)).files i).d ∨ isDirS s (joinP d n') = true) := Lib.hid fun n' hn' i hi => by
                rw [Vf.take_snoc hn] at hn'
                rcases List.mem_append.1 hn' with h | h
                · exact (HNT.out n' h i hi).imp (hc1'.same i) id
                · rw [List.mem_singleton.1 h] at hi ⊢
                  have := HUT.out.synced HDM.out hcn (by rw [HCA.out.names]; exact hi)
                  rw [HCA.out.dir] at this
                  exact this
              have HSY : Hid (∀ V l, Duo w P p t l pr fs V → Calls Tryz.prog 17 #[.pointer (some ⟨p, 0, none⟩), .string (joinP d n)] V fun e V' => (∃ r, e = .returned (.int .i64 r)) ∧ LeftF w P p (syncS t (joinP d n)) pr fs V V') := Lib.hid fun V l h => (syncF h HFT.out (joinP d n) hoq).mono fun e V' ⟨he, hl⟩ => ⟨⟨_, he⟩, hl⟩
              have z1 : d.size + 1 ≤ 9223372036854775807 := by omega
              have z2 : d.size + (⟨#[47]⟩ : ByteArray).size ≤ 9223372036854775807 := by show d.size + 1 ≤ _; omega
              have z3 : (d ++ ⟨#[47]⟩).size + n.size ≤ 9223372036854775807 := by rw [ByteArray.size_append]; show d.size + 1 + n.size ≤ _; omega
              have z4 : d.size + 1 + n.size ≤ 9223372036854775807 := by omega
              have z5 : 1 + n.size ≤ 9223372036854775807 := by omega
              have z6 : (⟨#[47]⟩ : ByteArray).size + n.size ≤ 9223372036854775807 := by show 1 + n.size ≤ _; omega
              have y1 : ¬ 9223372036854775807 < d.size + 1 := by omega
              have y2 : ¬ 9223372036854775807 < d.size + 1 + n.size := by omega
              have y3 : ¬ 9223372036854775807 < (d ++ ⟨#[47]⟩).size + n.size := by omega
              have y4 : ¬ 9223372036854775807 < 1 + n.size := by omega
              clear hcn hcA hc1 hqs hoq hc1' hu1' hn
              cases hroot : (d.toList == [47])
              · have hq : (d ++ ⟨#[47]⟩) ++ n = joinP d n := by unfold joinP; rw [if_neg (by rw [hroot]; simp)]; rfl
                go_wp2_with fail
                have bF := HD.out.boxF
                refine Vf.wp_region_guard (fun z => z.cell? ⟨P, 0, none⟩ = some (.pointer (some ⟨p, 0, none⟩)) ∧ z.cell? ⟨ga, j, none⟩ = some (.string n)) [(0, true), (1, true), (2, true), (3, true), (4, true), (5, true), (6, true), (7, true), (8, true), (9, true), (10, true)] _ (by kernel_rfl) rfl (by kernel_rfl) (by kernel_rfl) ⟨bF, c0⟩ ?_
                simp only [permL, List.dropLast, List.getElem?_cons_zero, List.getElem?_cons_succ, List.getLast]
                repeat (apply wpMixG_free
                        · rfl
                        · intro z hz
                          try dsimp only at hz
                          go_simp
                          all_goals with_reducible rfl
                        simp only [Act.put, List.setIfInBounds_toArray, List.set_cons_zero, List.set_cons_succ])
                refine wpMixG_end ?_
                go_simp
                try rw [hq]
                refine (HSY.out _ _ (HD.out.keep (Below.refl _ _).drew)).mono ?_
                rintro e v1 ⟨⟨rr, rfl⟩, ⟨l1, d1⟩, st1⟩
                have D1 := Lib.hid d1
                have st2 : Stay wr v1 := (Stay.below (Below.refl _ _).drew).trans st1
                have RD1 := Lib.hid (RD.out.keep (st2.same (by decide))); have HR1 := Lib.hid (st2.hold HROW.out (by decide))
                clear d1 st1 st2 bF c0
                go_wp2_with fail
                exact ⟨⟨j + 1, _, l1, hlt2, by go_num, D1.out, HR1.out, RD1.out, HCA1.out, HUP1.out, HIN1.out, HFI1.out, HRM1.out, HNX.out⟩, by simp [intOf]; omega⟩
              · have hq : ⟨#[47]⟩ ++ n = joinP d n := by unfold joinP; rw [if_pos hroot]; rfl
                go_wp2_with fail
                have bF := HD.out.boxF
                refine Vf.wp_region_guard (fun z => z.cell? ⟨P, 0, none⟩ = some (.pointer (some ⟨p, 0, none⟩)) ∧ z.cell? ⟨ga, j, none⟩ = some (.string n)) [(0, true), (1, true), (2, true), (3, true), (4, true), (5, true), (6, true), (7, true), (8, true)] _ (by kernel_rfl) rfl (by kernel_rfl) (by kernel_rfl) ⟨bF, c0⟩ ?_
                simp only [permL, List.dropLast, List.getElem?_cons_zero, List.getElem?_cons_succ, List.getLast]
                repeat (apply wpMixG_free
                        · rfl
                        · intro z hz
                          try dsimp only at hz
                          go_simp
                          all_goals with_reducible rfl
                        simp only [Act.put, List.setIfInBounds_toArray, List.set_cons_zero, List.set_cons_succ])
                refine wpMixG_end ?_
                go_simp
                try rw [hq]
                refine (HSY.out _ _ (HD.out.keep (Below.refl _ _).drew)).mono ?_
                rintro e v1 ⟨⟨rr, rfl⟩, ⟨l1, d1⟩, st1⟩
                have D1 := Lib.hid d1
                have st2 : Stay wr v1 := (Stay.below (Below.refl _ _).drew).trans st1
                have RD1 := Lib.hid (RD.out.keep (st2.same (by decide))); have HR1 := Lib.hid (st2.hold HROW.out (by decide))
                clear d1 st1 st2 bF c0
                go_wp2_with fail
                exact ⟨⟨j + 1, _, l1, hlt2, by go_num, D1.out, HR1.out, RD1.out, HCA1.out, HUP1.out, HIN1.out, HFI1.out, HRM1.out, HNX.out⟩, by simp [intOf]; omega⟩
            · obtain rfl : j = X.length := by omega
              have bF := HD.out.boxF
              have HSD : Hid (∀ V l, Duo w P p t l pr fs V → Calls Tryz.prog 18 #[.pointer (some ⟨p, 0, none⟩), .string d] V fun e V' => (∃ r, e = .returned (.int .i64 r)) ∧ LeftF w P p (syncDirS t d) pr fs V V') := Lib.hid fun V l h => (syncDirF h HFT.out (by have := HXS.out; omega) d hod).mono fun e V' ⟨he, hl⟩ => ⟨⟨_, he⟩, hl⟩
              have HFI2 : Hid (Fine (syncDirS t d) (200 + 200 * (k + 1))) := Lib.hid (HFT.out.syncDir.mono (by have := HXS.out; omega))
              have HNL2 : Hid ((syncDirS t d).names.length ≤ 121) := Lib.hid (by rw [syncDir_names, HCA.out.names]; exact HNL.out)
              have hap := HD.out.one.f.names.apart
              rw [HCA.out.names] at hap
              have HDN2 : Hid (∀ e ∈ dirs3.take (k + 1), Done (syncDirS t d) e) := Lib.hid fun e he => by
                rw [Vf.take_snoc HDK.out] at he
                rcases List.mem_append.1 he with h | h
                · have hep := (dirs_small (List.mem_of_mem_take h)).2
                  exact ((HDN.out e h).calm HUP.out HUT.out hep HCA.out).syncDir HUT.out hep d
                · rw [List.mem_singleton.1 h]
                  refine done_dir HUP.out HUT.out HCA.out HDP.out fun n hn i hi => ?_
                  rw [HXE.out] at hn
                  exact HNT.out n (by rw [List.take_of_length_le (Nat.le_refl _)]; exact hn) i hi
              clear hap
              go_wp2_with (first
                | (go_at_call 18; refine (HSD.out _ _ HD.out).mono ?_; clear HSD; rintro e v1 ⟨⟨rr, rfl⟩, ⟨l1, d1⟩, st1⟩; have D1 := Lib.hid d1; have HROW1 := Lib.hid (st1.hold HROW.out (by decide)); clear d1 st1)
                | fail)
              exact ⟨⟨k + 1, _, l1, hlt, by go_num, D1.out, HROW1.out, HUT.out.syncDir d, HIT.out.syncDir d, HFI2.out, (room_syncDir t d).trans HRT.out, HNL2.out, HDN2.out⟩, by simp [intOf]; omega⟩
        · obtain rfl : k = 3 := by omega
          have HDA : Hid (∀ d ∈ dirs3, Done s d) := Lib.hid fun d hd => HDN.out d (by simpa [dirs3] using hd)
          clear HDN HROW
          obtain ⟨s1, hs1⟩ : ∃ s1, ({ s with left := max (1 : Int) 0 } : Pf) = s1 := ⟨_, rfl⟩
          have hl1 : s1.left = 1 := by rw [← hs1]; show max (1 : Int) 0 = 1; decide
          have hf1 : Fine s1 800 := by rw [← hs1]; exact HFI.out.crash 1 (by decide)
          obtain ⟨v, hv⟩ : ∃ v, ({ s with left := 0, down := true } : Pf) = v := ⟨_, rfl⟩
          have htv : tickS s1 = v := by rw [last_tick hl1, ← hv, ← hs1]
          have hfv : Fine v 801 := by rw [← htv]; exact hf1.tick
          obtain ⟨u, hu⟩ : ∃ u, rebootS v choice = u := ⟨_, rfl⟩
          have hul : tickS u = u := by rw [← hu]; exact (up_reboot v choice).tick
          have HCP : Hid (∀ V l, Duo w P p s l pr fs V → Calls Tryz.prog 25 #[.pointer (some ⟨p, 0, none⟩)] V fun e V' => ∃ po lo, e = .returned (.pointer (some ⟨po, 0, none⟩)) ∧ Trio w P p s l pr fs po s lo V') := Lib.hid fun V l h => copyT h HFI.out (by decide) (by rw [HRM.out]; decide)
          have HCR : Hid (∀ V l po lo, Trio w P p s l pr fs po s lo V → Calls Tryz.prog 15 #[.pointer (some ⟨p, 0, none⟩), .int .i64 1] V fun e V' => (∃ r, e = .returned r) ∧ ∃ l', Trio w P p s1 l' pr fs po s lo V') := Lib.hid fun V l po lo h => (crashAt_any p s l 1 V h.duo.one.f).mono fun e V' ⟨he, hA, hg⟩ => by
            have ha := after_p hA hg
            rw [hs1] at ha
            exact ⟨he, h.onF ha⟩
          have HRM' : Hid (∀ V l po lo, Trio w P p s1 l pr fs po s lo V → Calls Tryz.prog 27 #[.pointer (some ⟨p, 0, none⟩), .string ⟨#[47, 120]⟩] V fun e V' => (∃ r, e = .returned (.int .i64 r)) ∧ ∃ l', Trio w P p v l' pr fs po s lo V') := Lib.hid fun V l po lo h => (remove_any p s1 l 800 pX1 V h.duo.one.f hf1.fits (by decide) (by unfold okS; decide)).mono fun e V' ⟨he, ha⟩ => by
            have er : removeS s1 pX1 = v := by
              have e52 : (findRes s1 pX1).2 ≠ 0 := by
                unfold findRes
                rw [last_begin hl1, if_pos (by decide)]
                decide
              unfold removeS
              rw [if_pos e52, htv]
            rw [er] at ha
            exact ⟨⟨_, he⟩, h.onF ha⟩
          have HRB : Hid (∀ V l po lo, Trio w P p v l pr fs po s lo V → Calls Tryz.prog 19 #[.pointer (some ⟨p, 0, none⟩), .int .i64 choice] V fun e V' => (∃ r, e = .returned r) ∧ (∃ l', Trio w P p u l' pr fs po s lo V') ∧ Fine u 801) := Lib.hid fun V l po lo h => (reboot_any p v l 801 choice V h.duo.one.f hfv.fits (by decide) hfv.canon).mono fun e V' ⟨he, ha, h1, h2⟩ => by
            rw [hu] at ha h1 h2
            exact ⟨he, h.onF ha, h1, h2, by rw [← hu]; exact wapart_reboot hfv.apart choice⟩
          have HLK : Hid (∀ V l po lo, Trio w P p u l pr fs po s lo V → ∀ d ∈ dirs3, Like u s d) := Lib.hid fun V l po lo h => by
            have h2 := h.duo.one.f.names.apart
            rw [← hu, ← hv] at h2 ⊢
            exact reboot_like HUP.out HIN.out HFI.out.canon HFI.out.fits.root h.old.names.apart HDA.out choice h2
          have HA1 : Hid (∀ V l po lo, Fine u 801 → Trio w P p u l pr fs po s lo V → Calls Tryz.prog 28 #[.pointer (some ⟨p, 0, none⟩), .pointer (some ⟨po, 0, none⟩), .string ⟨#[47]⟩] V fun e V' => e = .returned (.bool true) ∧ ∃ l' lo', Trio w P p u l' pr fs po s lo' V') := Lib.hid fun V l po lo hf h => alike_any h hf (HFI.out.mono (by omega)) (by decide) hul HUP.out.tick (by decide) (HLK.out V l po lo h _ (List.mem_cons_self ..))
          have HA2 : Hid (∀ V l po lo, Fine u 801 → Trio w P p u l pr fs po s lo V → Calls Tryz.prog 28 #[.pointer (some ⟨p, 0, none⟩), .pointer (some ⟨po, 0, none⟩), .string ⟨#[47, 100]⟩] V fun e V' => e = .returned (.bool true) ∧ ∃ l' lo', Trio w P p u l' pr fs po s lo' V') := Lib.hid fun V l po lo hf h => alike_any h hf (HFI.out.mono (by omega)) (by decide) hul HUP.out.tick (by decide) (HLK.out V l po lo h _ (List.mem_cons_of_mem _ (List.mem_cons_self ..)))
          have HA3 : Hid (∀ V l po lo, Fine u 801 → Trio w P p u l pr fs po s lo V → Calls Tryz.prog 28 #[.pointer (some ⟨p, 0, none⟩), .pointer (some ⟨po, 0, none⟩), .string ⟨#[47, 101]⟩] V fun e V' => e = .returned (.bool true) ∧ ∃ l' lo', Trio w P p u l' pr fs po s lo' V') := Lib.hid fun V l po lo hf h => alike_any h hf (HFI.out.mono (by omega)) (by decide) hul HUP.out.tick (by decide) (HLK.out V l po lo h _ (List.mem_cons_of_mem _ (List.mem_cons_of_mem _ (List.mem_cons_self ..))))
          clear hs1 hl1 hf1 hv htv hfv hu hul
          go_wp2_with (first
            | (go_at_call 25; refine (HCP.out _ _ D0.out).mono ?_; clear HCP; rintro e v0 ⟨po, lo, rfl, t0⟩; have bF0 := t0.duo.boxF; have T0 := Lib.hid t0; clear t0)
            | (go_at_call 15; refine (HCR.out _ _ _ _ T0.out).mono ?_; clear HCR; rintro e v1 ⟨⟨rr, rfl⟩, l1, t1⟩; have bF1 := t1.duo.boxF; have T1 := Lib.hid t1; clear t1)
            | (go_at_call 27; refine (HRM'.out _ _ _ _ T1.out).mono ?_; clear HRM'; rintro e v2 ⟨⟨rr, rfl⟩, l2, t2⟩; have bF2 := t2.duo.boxF; have T2 := Lib.hid t2; clear t2)
            | (go_at_call 19; refine (HRB.out _ _ _ _ T2.out).mono ?_; clear HRB; rintro e v3 ⟨⟨rr, rfl⟩, ⟨l3, t3⟩, hf3⟩; have bF3 := t3.duo.boxF; have T3 := Lib.hid t3; have F3 := Lib.hid hf3; clear t3 hf3)
            | (go_at_call 28; refine (HA1.out _ _ _ _ F3.out T3.out).mono ?_; clear HA1; rintro e v4 ⟨rfl, l4, lo4, t4⟩; have bF4 := t4.duo.boxF; have T4 := Lib.hid t4; clear t4)
            | (go_at_call 28; refine (HA2.out _ _ _ _ F3.out T4.out).mono ?_; clear HA2; rintro e v5 ⟨rfl, l5, lo5, t5⟩; have bF5 := t5.duo.boxF; have T5 := Lib.hid t5; clear t5)
            | (go_at_call 28; refine (HA3.out _ _ _ _ F3.out T5.out).mono ?_; clear HA3; rintro e v6 ⟨rfl, l6, lo6, t6⟩; have T6 := Lib.hid t6; clear t6)
            | (go_at_call 10; refine (HWK.out _).mono ?_; rintro e w13 ⟨rfl, hbw⟩; have B13 := Lib.hid hbw; clear hbw)
            | fail)
          go_ret
          exact ⟨rfl, T6.out.duo.one.below.trans (B13.out.mono T6.out.duo.one.below.size)⟩
end Go.Proofs.YtdbcjiapbehacaaGreatDoor.Vp
