/-
  Layer 11 (lines): the document's Parse tells what the program's does (written by a program).
-/
import Derived.Test.YtokeepmlibolfaaDoorLnRefRp
import Derived.Test.YtokeepmlibolfaaDoorLnRefP
import Derived.Test.YtokeepmlibolfaaDoorLnPlainF
import Derived.Deep.RegionWith
import Derived.Test.YtokeepmlibolfaaDoorLnMix
import Derived.Deep.CutBlock
namespace Go.Proofs.YtokeepmlibolfaaDoor.Ln
open Go.RowKit
set_option maxRecDepth 100000

theorem at_z {c : UInt8} {r : List UInt8} (h : 0 < (bs (c :: r)).size) : (bs (c :: r))[0] = c := rfl
theorem sec_same {p : List (Nat × List UInt8)} {f : List (Nat × List UInt8 × List UInt8 × List UInt8)} {w : List (Nat × Int)} {s : List UInt8} (h : pfold p = ⟨f, w, s⟩) : Value.string (bs s) = .string (bs (pfold p).sec) := by rw [h]
theorem ne61 (b : UInt8) (h : b ≠ 61) : ((b.toNat : Int) != 61) = true := congrArg not ((u8_is b 61 (by decide)).trans (beq_eq_false_iff_ne.mpr h))
theorem eq61 (b : UInt8) (h : b = 61) : ((b.toNat : Int) != 61) = false := by subst h; rfl
set_option maxHeartbeats 8000000 in
theorem rparse_any (text : List UInt8) (hl : text.length ≤ 65536) (w : World) : Calls Tryd.prog 10 #[.string (bs text)] w fun e w' => ∃ v1 v2, e = .returned (.tuple #[v1, v2]) ∧ OwnR w' w.heap.size 34 4 v1 ((parseL text).found.map lineC) ∧ OwnR w' w.heap.size 37 2 v2 ((parseL text).wrong.map diagR) ∧ Below w.heap.size w w' := by
  obtain ⟨ls, hls⟩ : ∃ ls, linesL text = ls := ⟨_, rfl⟩
  have hT := tot_lines text (by omega)
  have hlen := lines_len text
  rw [hls] at hT hlen
  obtain ⟨N, hN⟩ : ∃ N, ls.length = N := ⟨_, rfl⟩
  have hN2 : N ≤ 1000000 := by
    have h1 : ∀ l : List (List UInt8), l.length ≤ tot l := fun l => by
      induction l with
      | nil => exact Nat.le_refl _
      | cons a l ih => show l.length + 1 ≤ a.length + 1 + tot l; omega
    have := h1 ls
    omega
  have HSP : Hid (Calls Tryd.prog 16 #[.string (bs text)] w fun e V0 => ∃ g cap, e = .returned (.slice (some ⟨g, 0, none⟩) N cap) ∧ g < V0.heap.size ∧ (∀ i l, ls[i]? = some l → V0.cell? ⟨g, i, none⟩ = some (.string (bs (crL l)))) ∧ Below w.heap.size w V0) := Lib.hid ((rsplit_any text (by omega) w).mono fun e V0 h => by
    obtain ⟨v, rfl, ho, hb⟩ := h
    rw [hls] at ho
    obtain ⟨g, cap, rfl, h1, h2⟩ := own_texts ho (by omega)
    rw [hN]
    exact ⟨g, cap, rfl, h1, h2, hb⟩)
  have HPL : Hid (parseL text = pfold (wholesL ls 0 0 [])) := Lib.hid (by unfold parseL; rw [hls])
  obtain ⟨WH, hWH⟩ : ∃ WH, wholesL ls 0 0 [] = WH := ⟨_, rfl⟩
  have hWL : WH.length ≤ 1000001 := by have := wholes_len ls 0 0 []; rw [hWH] at this; omega
  rw [hWH] at HPL
  have HWH := Lib.hid hWH
  have HTT : Hid (∀ k, tot (ls.drop k) ≤ 1000000) := Lib.hid fun k => Nat.le_trans (tot_le ls k) hT
  have HNN := Lib.hid hN
  have HWL := Lib.hid hWL
  clear hls hT hlen hN hWH hWL hl
  generalize bs text = TX at *
  go_enter Tryd.func10, Tryd.ntmps10
  go_wp2_with (first | (go_at_call 16; refine (HSP.out).mono ?_; clear HSP; rintro e V0 ⟨g, cap, rfl, hg, hcl, hb0⟩; have HG := Lib.hid hg; have HCL := Lib.hid hcl; have HB0 := Lib.hid hb0; clear hg hcl hb0) | fail)
  have HLD : Hid (∀ V, Below V0.heap.size V0 V → ∀ i l, ls[i]? = some l → V.cell? ⟨g, i, none⟩ = some (.string (bs (crL l)))) := Lib.hid fun V hb i l h => (hb.cell (p := ⟨g, i, none⟩) HG.out).trans (HCL.out i l h)
  clear HCL
  go_loopw [5, 6, 7, 8] (fun v1 v2 s i wr => ∃ (k : Nat) (pre : List (Nat × List UInt8)), k ≤ N + 1 ∧ i = .int .i64 k ∧ s = .string (bs (pfold pre).sec) ∧ Rp V0 (pfold pre) v1 v2 wr ∧ pre ++ wholesL (ls.drop k) k 0 [] = WH) (fun _ _ _ i _ => N + 2 - (intOf i).toNat)
  case atStart => exact ⟨0, [], Nat.zero_le _, rfl, rfl, Rp.nil V0, HWH.out⟩
  case round =>
    obtain ⟨k, pre, hk, rfl, rfl, hrp, hpre⟩ := hrel
    have HRP := Lib.hid hrp
    have HPR := Lib.hid hpre
    clear hrp hpre
    by_cases hks : k < N
    · obtain ⟨l, hl⟩ : ∃ l, ls[k]? = some l := ⟨_, List.getElem?_eq_getElem (by have := HNN.out; omega)⟩
      have hlc := HLD.out wr HRP.out.b k l hl
      have hll := tot_drop hl
      have HW := Lib.hid (fun b w => wholes_cons (b := b) (w := w) hl)
      have hT1 := HTT.out k
      rw [hll] at hT1
      have hcc : (crL l).length ≤ l.length := suffix_le _ _
      have HSK : Hid (skips 0 (crL l) = true → wholesL (ls.drop k) k 0 [] = wholesL (ls.drop (k + 1)) (k + 1) 0 []) := Lib.hid fun h => by rw [HW.out]; exact whole_skip _ _ _ _ h
      have HBG : Hid (skips 0 (crL l) = false → wholesL (ls.drop k) k 0 [] = contR (crL l) (ls.drop (k + 1)) k (k + 1)) := Lib.hid fun h => by rw [HW.out]; exact cont_begin _ _ h
      clear hl HW hll
      generalize crL l = c at *
      have HT : Hid (∀ V, Calls Tryd.prog 17 #[.string (bs c)] V fun e w' => e = .returned (.string (bs (trimL c))) ∧ V = w') := Lib.hid fun V => rtrim_any c (by omega) V
      have HC : Hid (∀ V, Calls Tryd.prog 18 #[.string (bs c)] V fun e w' => e = .returned (.bool (remB c)) ∧ V = w') := Lib.hid fun V => rcomment_any c (by omega) V
      have hem : (bs (trimL c)).toList.isEmpty = blankB c := bs_empty _
      have HCX : Hid (blankB c = false → c ≠ []) := Lib.hid fun h e => by rw [e] at h; revert h; decide
      have HC0 : Hid (c.length + tot (ls.drop (k + 1)) ≤ 1000000) := Lib.hid (by omega)
      unfold skips at HSK HBG
      generalize trimL c = tc at *
      generalize hbl : blankB c = bb at *
      generalize hrm : remB c = rr at *
      clear hT1 hcc
      cases bb with
      | true =>
        have HQ : Hid (pre ++ wholesL (ls.drop (k + 1)) (k + 1) 0 [] = WH) := Lib.hid (by rw [← HSK.out (by simp), HPR.out])
        clear HSK HBG HPR HC HCX HC0 hbl hrm
        generalize bs tc = TC at *
        generalize bs c = C at *
        go_wp2_with (first | (go_at_call 17; refine (HT.out _).mono ?_; clear HT; rintro e V ⟨rfl, rfl⟩) | fail)
        go_roundw
        case rel => exact ⟨k + 1, pre, by omega, by go_num, rfl, HRP.out, HQ.out⟩
        case measure => simp only [intOf]; omega
      | false =>
        cases rr with
        | true =>
          have HQ : Hid (pre ++ wholesL (ls.drop (k + 1)) (k + 1) 0 [] = WH) := Lib.hid (by rw [← HSK.out (by simp), HPR.out])
          clear HSK HBG HPR HCX HC0 hbl hrm
          generalize bs tc = TC at *
          generalize bs c = C at *
          go_wp2_with (first
            | (go_at_call 17; refine (HT.out _).mono ?_; clear HT; rintro e V ⟨rfl, rfl⟩)
            | (go_at_call 18; refine (HC.out _).mono ?_; clear HC; rintro e V ⟨rfl, rfl⟩)
            | fail)
          go_roundw
          case rel => exact ⟨k + 1, pre, by omega, by go_num, rfl, HRP.out, HQ.out⟩
          case measure => simp only [intOf]; omega
        | false =>
          have HQ : Hid (pre ++ contR c (ls.drop (k + 1)) k (k + 1) = WH) := Lib.hid (by rw [← HBG.out (by simp), HPR.out])
          have HCN : Hid (c ≠ []) := Lib.hid (HCX.out rfl)
          clear HSK HBG HPR HCX hbl hrm
          generalize bs tc = TC at *
          go_wp2_with (first
            | (go_at_call 17; refine (HT.out _).mono ?_; clear HT; rintro e V ⟨rfl, rfl⟩)
            | (go_at_call 18; refine (HC.out _).mono ?_; clear HC; rintro e V ⟨rfl, rfl⟩)
            | fail)
          clear hlc hem
          go_loop [8, 10] (fun i x => ∃ (j : Nat) (y : List UInt8), i = .int .i64 j ∧ x = .string (bs y) ∧ k ≤ j ∧ j ≤ N ∧ y ≠ [] ∧ (j < N ∨ onB y = false) ∧ y.length + tot (ls.drop (j + 1)) ≤ 1000000 ∧ pre ++ contR y (ls.drop (j + 1)) j (k + 1) = WH) (fun i _ => N + 2 - (intOf i).toNat)
          case atStart => exact ⟨k, c, rfl, rfl, Nat.le_refl _, Nat.le_of_lt hks, HCN.out, .inl hks, HC0.out, HQ.out⟩
          case round =>
            obtain ⟨j, y, rfl, rfl, hj1, hj2, hyn, hjn, hyl, hq⟩ := hrel
            clear HQ HCN HC0
            have HQ := Lib.hid hq
            clear hq
            rcases on_cases y with ⟨h1, z, h2, h3⟩ | ⟨h1, h2, h3⟩
            · have hjN : j < N := hjn.elim id fun h => by rw [h1] at h; cases h
              have HON : Hid (contR y (ls.drop (j + 1)) j (k + 1) = wholesL (ls.drop (j + 1)) (j + 1) (k + 1) (z ++ [32])) := Lib.hid (by rw [cont_on _ _ _ h1, h3])
              have hzl : (z ++ [32]).length + tot (ls.drop (j + 1)) ≤ 1000000 := by rw [h2] at hyl; rw [List.length_append] at hyl ⊢; exact hyl
              have hzl2 : z.length ≤ 1000000 := by rw [List.length_append] at hzl; omega
              have hsz : (bs y).size = z.length + 1 := by rw [bs_size, h2, List.length_append]; rfl
              have hxz : z.length < (bs y).size := by omega
              have hxb : (bs y)[z.length] = 92 := by rw [at_list hxz, h2, List.getD_eq_getElem?_getD]; simp
              have hs2 : ∀ V, (Instr.slice 9 (.string (bs y)) none (some (.int .i64 (z.length : Int))) none).run Tryd.prog V = .ok (.string (bs z)) V := fun V => by
                have := run_slice_string_h (P := Tryd.prog) V 9 (bs y) Tryd.underlying9 .i64 (z.length : Int) (by omega) (by omega)
                rw [this, cut_bs, h2]
                simp
              have ha := add_bs z [32] (z ++ [32]) rfl (by omega)
              have HQ2 : Hid (pre ++ wholesL (ls.drop (j + 1)) (j + 1) (k + 1) (z ++ [32]) = WH) := Lib.hid (by rw [← HON.out]; exact HQ.out)
              have HZB : Hid (onB (z ++ [32]) = false) := Lib.hid (on_blank z)
              have HZL := Lib.hid hzl
              have HZN : Hid (z ++ [32] ≠ []) := Lib.hid (by simp)
              clear HON HQ hyl hyn hjn h1 h2 h3 hzl
              generalize bs y = Y at *
              obtain ⟨q, hq⟩ : ∃ q, z.length = q := ⟨_, rfl⟩
              simp only [hq] at hsz hxz hxb hs2 hzl2
              have hqw : wrap64 (q : Int) = q := w_id (by omega) (by omega)
              have hqw1 : wrap64 ((Y.size : Int) - 1) = (q : Int) := by rw [hsz]; unfold wrap64; omega
              generalize bs z = Z at *
              generalize z ++ [32] = z' at *
              go_wp2
              go_loop [8] (fun i => ∃ p : Nat, i = .int .i64 p ∧ j + 1 ≤ p ∧ p ≤ N ∧ pre ++ wholesL (ls.drop p) p (k + 1) z' = WH) (fun i => N + 2 - (intOf i).toNat)
              case atStart => exact ⟨j + 1, by go_num, Nat.le_refl _, hjN, HQ2.out⟩
              case round =>
                obtain ⟨p, rfl, hp1, hp2, hp⟩ := hrel
                clear HQ2
                have HP := Lib.hid hp
                clear hp
                by_cases hpN : p < N
                · obtain ⟨l2, hl2⟩ : ∃ l, ls[p]? = some l := ⟨_, List.getElem?_eq_getElem (by have := HNN.out; omega)⟩
                  have hlc := HLD.out wr HRP.out.b p l2 hl2
                  have hll := tot_drop hl2
                  have HW := Lib.hid (fun b w => wholes_cons (b := b) (w := w) hl2)
                  have hcc : (crL l2).length ≤ l2.length := suffix_le _ _
                  have hT1 := HTT.out p
                  rw [hll] at hT1
                  have hmono : tot (ls.drop p) ≤ tot (ls.drop (j + 1)) := by
                    have := tot_le (ls.drop (j + 1)) (p - (j + 1))
                    rw [List.drop_drop] at this
                    rw [show j + 1 + (p - (j + 1)) = p by omega] at this
                    exact this
                  rw [hll] at hmono
                  have HSK : Hid (remB (crL l2) = true → wholesL (ls.drop p) p (k + 1) z' = wholesL (ls.drop (p + 1)) (p + 1) (k + 1) z') := Lib.hid fun h => by rw [HW.out]; exact whole_skip _ _ _ _ (rem_skips _ h)
                  have HNX : Hid (remB (crL l2) = false → wholesL (ls.drop p) p (k + 1) z' = contR (z' ++ crL l2) (ls.drop (p + 1)) p (k + 1)) := Lib.hid fun h => by rw [HW.out]; exact cont_next _ _ _ h (by omega) HZB.out
                  clear hl2 HW hll
                  generalize crL l2 = c2 at *
                  have hnl : (z' ++ c2).length + tot (ls.drop (p + 1)) ≤ 1000000 := by rw [List.length_append]; have := HZL.out; omega
                  have ha2 := add_bs z' c2 (z' ++ c2) rfl (by omega)
                  have HNL := Lib.hid hnl
                  have HC : Hid (∀ V, Calls Tryd.prog 18 #[.string (bs c2)] V fun e w' => e = .returned (.bool (remB c2)) ∧ V = w') := Lib.hid fun V => rcomment_any c2 (by omega) V
                  have HNN2 : Hid (z' ++ c2 ≠ []) := Lib.hid (by intro h; exact HZN.out (List.append_eq_nil_iff.mp h).1)
                  generalize hrm : remB c2 = rr at *
                  clear hT1 hcc hmono hnl hrm ha hs2
                  cases rr with
                  | true =>
                    have HP2 : Hid (pre ++ wholesL (ls.drop (p + 1)) (p + 1) (k + 1) z' = WH) := Lib.hid (by rw [← HSK.out rfl]; exact HP.out)
                    clear HSK HNX HP ha2 HNN2 HNL
                    generalize bs z' = ZZ at *
                    generalize bs c2 = C2 at *
                    go_wp2_with (first | (go_at_call 18; refine (HC.out _).mono ?_; clear HC; rintro e V ⟨rfl, rfl⟩) | fail)
                    go_round
                    case rel => exact ⟨p + 1, by go_num, by omega, hpN, HP2.out⟩
                    case measure => simp only [intOf]; omega
                  | false =>
                    have HP2 : Hid (pre ++ contR (z' ++ c2) (ls.drop (p + 1)) p (k + 1) = WH) := Lib.hid (by rw [← HNX.out rfl]; exact HP.out)
                    clear HSK HNX HP
                    generalize z' ++ c2 = zc at *
                    generalize hZC : bs zc = ZC at *
                    generalize hZZ : bs z' = ZZ at *
                    generalize bs c2 = C2 at *
                    go_wp2_with (first | (go_at_call 18; refine (HC.out _).mono ?_; clear HC; rintro e V ⟨rfl, rfl⟩) | fail)
                    go_round
                    case rel => exact ⟨p, zc, rfl, by rw [hZC], by omega, hp2, HNN2.out, .inl hpN, HNL.out, HP2.out⟩
                    case measure => simp only [intOf]; omega
                · obtain rfl : p = N := by omega
                  have hpp : ¬ (p : Int) < (p : Int) := by omega
                  have HP2 : Hid (pre ++ contR z' (ls.drop (p + 1)) p (k + 1) = WH) := Lib.hid (by
                    have h := HP.out
                    rw [List.drop_eq_nil_of_le (by have := HNN.out; omega), cont_end _ _ (by omega) HZB.out] at h
                    rw [List.drop_eq_nil_of_le (by have := HNN.out; omega)]
                    exact h)
                  have HZL2 : Hid (z'.length + tot (ls.drop (p + 1)) ≤ 1000000) := Lib.hid (by
                    have := tot_le (ls.drop (j + 1)) (p + 1 - (j + 1))
                    rw [List.drop_drop] at this
                    rw [show j + 1 + (p + 1 - (j + 1)) = p + 1 by omega] at this
                    have := HZL.out
                    omega)
                  clear HP ha hs2 HZL
                  generalize hZZ : bs z' = ZZ at *
                  go_wp2
                  go_round
                  case rel => exact ⟨p, z', rfl, by first | rfl | (rw [hZZ]), by omega, Nat.le_refl _, HZN.out, .inr HZB.out, HZL2.out, HP2.out⟩
                  case measure => simp only [intOf]; omega
            · obtain ⟨z, c', hyc, hc'⟩ : ∃ z c', y = z ++ [c'] ∧ (c' == (92 : UInt8)) = false := h3.resolve_left hyn
              have HOF : Hid (pre ++ (k + 1, trimL y) :: wholesL (ls.drop (j + 1)) (j + 1) 0 [] = WH) := Lib.hid (by rw [← cont_off _ _ _ h1]; exact HQ.out)
              have hsz : (bs y).size = z.length + 1 := by rw [bs_size, hyc, List.length_append]; rfl
              have hxz : z.length < (bs y).size := by omega
              have hxb : (bs y)[z.length] = c' := by rw [at_list hxz, hyc, List.getD_eq_getElem?_getD]; simp
              have hcc : ((c'.toNat : Int) == 92) = false := (u8_is c' 92 (by decide)).trans hc'
              have hzl2 : z.length ≤ 1000000 := by rw [hyc, List.length_append] at hyl; omega
              have hXl : (trimL y).length ≤ 1000000 := by have := trim_len y; omega
              have HT2 : Hid (∀ V, Calls Tryd.prog 17 #[.string (bs y)] V fun e w' => e = .returned (.string (bs (trimL y))) ∧ V = w') := Lib.hid fun V => rtrim_any y (by omega) V
              clear HQ hyl hyn hjn h1 h2 h3 hyc hc'
              generalize trimL y = X at *
              generalize bs y = Y at *
              obtain ⟨q, hq⟩ : ∃ q, z.length = q := ⟨_, rfl⟩
              simp only [hq] at hsz hxz hxb hzl2
              have hqw : wrap64 (q : Int) = q := w_id (by omega) (by omega)
              have hqw1 : wrap64 ((Y.size : Int) - 1) = (q : Int) := by rw [hsz]; unfold wrap64; omega
              have HSC : Hid (∀ V, Calls Tryd.prog 19 #[.string (bs X)] V fun e w' => e = .returned (.string (bs (secL X))) ∧ V = w') := Lib.hid fun V => rsection_any X (by omega) V
              obtain ⟨A, hA, hno, h61⟩ := eq_place X
              have HST := Lib.hid (ways X (pfold pre) (k + 1) A hA hno h61)
              have HSX : Hid (∀ i (hi : i < (bs X).size), (bs X)[i] = X.getD i 0) := Lib.hid fun i hi => at_list hi
              obtain ⟨n, hn⟩ : ∃ n, X.length = n := ⟨_, rfl⟩
              have hXs : (bs X).size = n := by rw [bs_size, hn]
              rw [hn] at hXl hA h61
              have HNO := Lib.hid hno
              have H61 := Lib.hid h61
              have HXN := Lib.hid hn
              clear hno h61 hn
              obtain ⟨SX, hSX⟩ : ∃ SX, bs X = SX := ⟨_, rfl⟩
              rw [hSX] at HT2 HSC hXs
              have HSX2 : Hid (∀ i (hi : i < SX.size), SX[i] = X.getD i 0) := by subst hSX; exact HSX
              have HEX := Lib.hid hSX
              clear HSX hSX
              go_upto_block 6 with (first | (go_at_call 17; refine (HT2.out _).mono ?_; clear HT2; rintro e V ⟨rfl, rfl⟩) | fail)
              clear hxb hcc hxz hsz hqw hqw1
              go_cut [11] from 84 to 95 (fun a wx => a = .int .i64 A ∧ wr = wx)
              case first =>
                go_wp2
                go_loop [11] (fun a => ∃ a' : Nat, a' ≤ A ∧ a = .int .i64 a') (fun a => A - (intOf a).toNat)
                case atStart => exact ⟨0, Nat.zero_le _, rfl⟩
                case round =>
                  obtain ⟨a, ha, rfl⟩ := hrel
                  by_cases haA : a < A
                  · have haz : a < SX.size := by omega
                    have hb := HSX2.out a haz
                    have f1 : ((SX[a].toNat : Int) != 61) = true := by rw [hb]; exact ne61 _ (HNO.out a haA)
                    clear hb
                    go_wp2
                    go_round
                    case rel => exact ⟨a + 1, by omega, by go_num⟩
                    case measure => simp only [intOf]; omega
                  · obtain rfl : a = A := by omega
                    by_cases hAn : a < n
                    · have haz : a < SX.size := by omega
                      have hb := HSX2.out a haz
                      have f1 : ((SX[a].toNat : Int) != 61) = false := by rw [hb]; exact eq61 _ (H61.out hAn)
                      clear hb
                      go_wp2
                      go_meet
                      exact ⟨rfl, rfl⟩
                    · have haz : ¬ (a : Int) < (SX.size : Int) := by omega
                      go_wp2
                      go_meet
                      exact ⟨rfl, rfl⟩
              case rest =>
                obtain ⟨rfl, rfl⟩ := hcut
                obtain ⟨SN, hSN⟩ : ∃ SN, bs (secL X) = SN := ⟨_, rfl⟩
                rw [hSN] at HSC
                have hSNe : SN.toList.isEmpty = (secL X).isEmpty := by rw [← hSN]; exact bs_empty _
                have hSXe : SX.toList.isEmpty = X.isEmpty := by rw [← HEX.out]; exact bs_empty _
                obtain ⟨SC, hSC⟩ : ∃ SC, bs (pfold pre).sec = SC := ⟨_, rfl⟩
                have hSCe : SC.toList.isEmpty = (pfold pre).sec.isEmpty := by rw [← hSC]; exact bs_empty _
                have HSC2 := Lib.hid hSC
                rw [hSC]
                clear hSC
                have HCN : Hid ((pfold pre).found.length ≤ 1000001 ∧ (pfold pre).wrong.length ≤ 1000001) := Lib.hid (by
                  have h := congrArg List.length HOF.out
                  rw [List.length_append, List.length_cons] at h
                  have := pfold_len pre
                  have := HWL.out
                  omega)
                have HOF2 : Hid ((pre ++ [(k + 1, X)]) ++ wholesL (ls.drop (j + 1)) (j + 1) 0 [] = WH) := Lib.hid (by rw [List.append_assoc]; exact HOF.out)
                have HSZ0 : Hid (V0.heap.size ≤ wr.heap.size) := Lib.hid HRP.out.b.size
                have hjN : j + 1 ≤ N + 1 := by omega
                clear HOF HSX2 HNO H61
                rcases HST.out with ⟨hL, hst⟩ | ⟨hL, hsn, hst⟩ | ⟨hL, hsn, ⟨r, hXr⟩, hst⟩ | ⟨hX0, hst⟩ | ⟨⟨hL, hsn, c, r, hXr, hcb⟩, hw⟩
                · have HPS := Lib.hid ((pfold_snoc pre (k + 1, X)).trans hst)
                  have hl4 : (4096 : Int) < (SX.size : Int) := by rw [hXs]; have := HXN.out; omega
                  clear hst
                  go_wp2_with (first
                    | (go_at_call 19; refine (HSC.out _).mono ?_; clear HSC; rintro e V ⟨rfl, rfl⟩)
                    | (at_builtin; refine plain_append_one (.tmp 117) (.tmp 120) rfl 29 37 2 16 _ rfl Tryd.underlying29 infoRD rfl (by decide) (by decide) V0.heap.size _ _ [.int .i64 ((k : Int) + 1), .bool true] ⟨wr.heap.size, 0, none⟩ 1 rfl rfl (HRP.out.o2.alloc _) rfl (new_cells wr _ rfl _ _) (by simp [Value.oneCell']) (by rw [List.length_map]; have := HCN.out.2; omega) (by have := HSZ0.out; simp; omega) ?_; intro v' w' hown hgr hat; have HV := Lib.hid (HRP.out.app2 _ (x := (k + 1, 3)) rfl hown hgr hat); clear hown hgr hat)
                    | fail)
                  go_roundw
                  case rel => exact ⟨j + 1, pre ++ [(k + 1, X)], hjN, by go_num, (congrArg Value.string HSC2.out.symm).trans (sec_same HPS.out), by rw [HPS.out]; exact HV.out, HOF2.out⟩
                  case measure => simp only [intOf]; omega
                · have HPS := Lib.hid ((pfold_snoc pre (k + 1, X)).trans hst)
                  rw [hsn] at hSNe
                  have hl4 : ¬ (4096 : Int) < (SX.size : Int) := by rw [hXs]; have := HXN.out; omega
                  clear hst
                  go_wp2_with (first
                    | (go_at_call 19; refine (HSC.out _).mono ?_; clear HSC; rintro e V ⟨rfl, rfl⟩)
                    | fail)
                  go_roundw
                  case rel => exact ⟨j + 1, pre ++ [(k + 1, X)], hjN, by go_num, (congrArg Value.string hSN.symm).trans (sec_same HPS.out), by rw [HPS.out]; exact (HRP.out.sec _), HOF2.out⟩
                  case measure => simp only [intOf]; omega
                · have HPS := Lib.hid ((pfold_snoc pre (k + 1, X)).trans hst)
                  rw [hsn] at hSNe
                  have hl4 : ¬ (4096 : Int) < (SX.size : Int) := by rw [hXs]; have := HXN.out; omega
                  have hXe : SX.toList.isEmpty = false := by rw [hSXe, hXr]; rfl
                  have hz : 0 < SX.size := by rw [hXs, ← HXN.out, hXr, List.length_cons]; omega
                  have e1 : ((SX[0].toNat : Int) == 91) = true := by
                    have h : SX = bs (91 :: r) := by rw [← HEX.out, hXr]
                    subst h
                    rfl
                  clear hst hSXe
                  go_wp2_with (first
                    | (go_at_call 19; refine (HSC.out _).mono ?_; clear HSC; rintro e V ⟨rfl, rfl⟩)
                    | (at_builtin; refine plain_append_one (.tmp 134) (.tmp 137) rfl 29 37 2 16 _ rfl Tryd.underlying29 infoRD rfl (by decide) (by decide) V0.heap.size _ _ [.int .i64 ((k : Int) + 1), .bool false] ⟨wr.heap.size, 0, none⟩ 1 rfl rfl (HRP.out.o2.alloc _) rfl (new_cells wr _ rfl _ _) (by simp [Value.oneCell']) (by rw [List.length_map]; have := HCN.out.2; omega) (by have := HSZ0.out; simp; omega) ?_; intro v' w' hown hgr hat; have HV := Lib.hid (HRP.out.app2 _ (x := (k + 1, 110)) rfl hown hgr hat); clear hown hgr hat)
                    | fail)
                  go_roundw
                  case rel => exact ⟨j + 1, pre ++ [(k + 1, X)], hjN, by go_num, sec_same HPS.out, by rw [HPS.out]; exact (HV.out.sec _), HOF2.out⟩
                  case measure => simp only [intOf]; omega
                · have HPS := Lib.hid ((pfold_snoc pre (k + 1, X)).trans hst)
                  have hn0 : n = 0 := by rw [← HXN.out, hX0]; rfl
                  have hA0 : A = 0 := by omega
                  subst hA0
                  have hSX0 : SX = ⟨#[]⟩ := by rw [← HEX.out, hX0]
                  have hSN0 : SN = ⟨#[]⟩ := by rw [← hSN, hX0]; rfl
                  subst hn0
                  subst hSX0
                  subst hSN0
                  clear hX0
                  clear hst hSXe hSNe
                  go_wp2_with (first
                    | (go_at_call 19; refine (HSC.out _).mono ?_; clear HSC; rintro e V ⟨rfl, rfl⟩)
                    | (at_builtin; refine plain_append_one (.tmp 156) (.tmp 159) rfl 29 37 2 16 _ rfl Tryd.underlying29 infoRD rfl (by decide) (by decide) V0.heap.size _ _ [.int .i64 ((k : Int) + 1), .bool false] ⟨wr.heap.size, 0, none⟩ 1 rfl rfl (HRP.out.o2.alloc _) rfl (new_cells wr _ rfl _ _) (by simp [Value.oneCell']) (by rw [List.length_map]; have := HCN.out.2; omega) (by have := HSZ0.out; simp; omega) ?_; intro v' w' hown hgr hat; have HV := Lib.hid (HRP.out.app2 _ (x := (k + 1, 110)) rfl hown hgr hat); clear hown hgr hat)
                    | fail)
                  go_roundw
                  case rel => exact ⟨j + 1, pre ++ [(k + 1, X)], hjN, by go_num, (congrArg Value.string HSC2.out.symm).trans (sec_same HPS.out), by rw [HPS.out]; exact HV.out, HOF2.out⟩
                  case measure => simp only [intOf]; omega
                · rw [hsn] at hSNe
                  have hl4 : ¬ (4096 : Int) < (SX.size : Int) := by rw [hXs]; have := HXN.out; omega
                  have hXe : SX.toList.isEmpty = false := by rw [hSXe, hXr]; rfl
                  have hz : 0 < SX.size := by rw [hXs, ← HXN.out, hXr, List.length_cons]; omega
                  have e1 : ((SX[0].toNat : Int) == 91) = false := by
                    have h : SX = bs (c :: r) := by rw [← HEX.out, hXr]
                    subst h
                    exact (u8_is c 91 (by decide)).trans hcb
                  clear hXr hcb hL
                  rcases hw with ⟨hAe, hst⟩ | ⟨hAl, hk1, hst⟩ | ⟨hAl, hk1, hse, hst⟩ | ⟨hAl, hk1, hse, hst⟩
                  · have HPS := Lib.hid ((pfold_snoc pre (k + 1, X)).trans hst)
                    have hAe2 : A = n := by have := HXN.out; omega
                    subst hAe2
                    clear hst hSXe hAe
                    go_wp2_with (first
                      | (go_at_call 19; refine (HSC.out _).mono ?_; clear HSC; rintro e V ⟨rfl, rfl⟩)
                      | (at_builtin; refine plain_append_one (.tmp 156) (.tmp 159) rfl 29 37 2 16 _ rfl Tryd.underlying29 infoRD rfl (by decide) (by decide) V0.heap.size _ _ [.int .i64 ((k : Int) + 1), .bool false] ⟨wr.heap.size, 0, none⟩ 1 rfl rfl (HRP.out.o2.alloc _) rfl (new_cells wr _ rfl _ _) (by simp [Value.oneCell']) (by rw [List.length_map]; have := HCN.out.2; omega) (by have := HSZ0.out; simp; omega) ?_; intro v' w' hown hgr hat; have HV := Lib.hid (HRP.out.app2 _ (x := (k + 1, 110)) rfl hown hgr hat); clear hown hgr hat)
                      | fail)
                    go_roundw
                    case rel => exact ⟨j + 1, pre ++ [(k + 1, X)], hjN, by go_num, (congrArg Value.string HSC2.out.symm).trans (sec_same HPS.out), by rw [HPS.out]; exact HV.out, HOF2.out⟩
                    case measure => simp only [intOf]; omega
                  · have HPS := Lib.hid ((pfold_snoc pre (k + 1, X)).trans hst)
                    have hAn : A < n := by have := HXN.out; omega
                    clear hAl
                    have hAe2 : ¬ (A : Int) = (SX.size : Int) := by rw [hXs]; omega
                    have hAz : A ≤ SX.size := by omega
                    have hs1 : ∀ V, (Instr.slice 9 (.string SX) none (some (.int .i64 (A : Int))) none).run Tryd.prog V = .ok (.string (bs (X.take A))) V := fun V => by
                      have := run_slice_string_h (P := Tryd.prog) V 9 SX Tryd.underlying9 .i64 (A : Int) (by omega) (by omega)
                      rw [this, ← HEX.out, cut_bs]
                      simp
                    have HTK : Hid (∀ V, Calls Tryd.prog 17 #[.string (bs (X.take A))] V fun e w' => e = .returned (.string (bs (trimL (X.take A)))) ∧ V = w') := Lib.hid fun V => rtrim_any _ (by rw [List.length_take]; omega) V
                    have HKY : Hid (∀ V, Calls Tryd.prog 20 #[.string (bs (trimL (X.take A)))] V fun e w' => e = .returned (.bool (keyB (trimL (X.take A)))) ∧ V = w') := Lib.hid fun V => rkey_any _ (by have := trim_len (X.take A); rw [List.length_take] at this; omega) V
                    rw [hk1] at HKY
                    generalize hKT : bs (trimL (X.take A)) = KT at *
                    generalize bs (X.take A) = KA at *
                    clear hst hSXe hk1
                    go_wp2_with (first
                      | (go_at_call 19; refine (HSC.out _).mono ?_; clear HSC; rintro e V ⟨rfl, rfl⟩)
                      | (go_at_call 17; refine (HTK.out _).mono ?_; rintro e V ⟨rfl, rfl⟩)
                      | (go_at_call 20; refine (HKY.out _).mono ?_; clear HKY; rintro e V ⟨rfl, rfl⟩)
                      | (at_builtin; refine plain_append_one (.tmp 156) (.tmp 159) rfl 29 37 2 16 _ rfl Tryd.underlying29 infoRD rfl (by decide) (by decide) V0.heap.size _ _ [.int .i64 ((k : Int) + 1), .bool false] ⟨wr.heap.size, 0, none⟩ 1 rfl rfl (HRP.out.o2.alloc _) rfl (new_cells wr _ rfl _ _) (by simp [Value.oneCell']) (by rw [List.length_map]; have := HCN.out.2; omega) (by have := HSZ0.out; simp; omega) ?_; intro v' w' hown hgr hat; have HV := Lib.hid (HRP.out.app2 _ (x := (k + 1, 110)) rfl hown hgr hat); clear hown hgr hat)
                      | fail)
                    go_roundw
                    case rel => exact ⟨j + 1, pre ++ [(k + 1, X)], hjN, by go_num, (congrArg Value.string HSC2.out.symm).trans (sec_same HPS.out), by rw [HPS.out]; exact HV.out, HOF2.out⟩
                    case measure => simp only [intOf]; omega
                  · have HPS := Lib.hid ((pfold_snoc pre (k + 1, X)).trans hst)
                    have hAn : A < n := by have := HXN.out; omega
                    clear hAl
                    have hAe2 : ¬ (A : Int) = (SX.size : Int) := by rw [hXs]; omega
                    have hAz : A ≤ SX.size := by omega
                    have hs1 : ∀ V, (Instr.slice 9 (.string SX) none (some (.int .i64 (A : Int))) none).run Tryd.prog V = .ok (.string (bs (X.take A))) V := fun V => by
                      have := run_slice_string_h (P := Tryd.prog) V 9 SX Tryd.underlying9 .i64 (A : Int) (by omega) (by omega)
                      rw [this, ← HEX.out, cut_bs]
                      simp
                    have HTK : Hid (∀ V, Calls Tryd.prog 17 #[.string (bs (X.take A))] V fun e w' => e = .returned (.string (bs (trimL (X.take A)))) ∧ V = w') := Lib.hid fun V => rtrim_any _ (by rw [List.length_take]; omega) V
                    have HKY : Hid (∀ V, Calls Tryd.prog 20 #[.string (bs (trimL (X.take A)))] V fun e w' => e = .returned (.bool (keyB (trimL (X.take A)))) ∧ V = w') := Lib.hid fun V => rkey_any _ (by have := trim_len (X.take A); rw [List.length_take] at this; omega) V
                    rw [hk1] at HKY
                    generalize hKT : bs (trimL (X.take A)) = KT at *
                    generalize bs (X.take A) = KA at *
                    rw [hse] at hSCe
                    clear hst hSXe hk1
                    go_wp2_with (first
                      | (go_at_call 19; refine (HSC.out _).mono ?_; clear HSC; rintro e V ⟨rfl, rfl⟩)
                      | (go_at_call 17; refine (HTK.out _).mono ?_; rintro e V ⟨rfl, rfl⟩)
                      | (go_at_call 20; refine (HKY.out _).mono ?_; clear HKY; rintro e V ⟨rfl, rfl⟩)
                      | (at_builtin; refine plain_append_one (.tmp 156) (.tmp 159) rfl 29 37 2 16 _ rfl Tryd.underlying29 infoRD rfl (by decide) (by decide) V0.heap.size _ _ [.int .i64 ((k : Int) + 1), .bool false] ⟨wr.heap.size, 0, none⟩ 1 rfl rfl (HRP.out.o2.alloc _) rfl (new_cells wr _ rfl _ _) (by simp [Value.oneCell']) (by rw [List.length_map]; have := HCN.out.2; omega) (by have := HSZ0.out; simp; omega) ?_; intro v' w' hown hgr hat; have HV := Lib.hid (HRP.out.app2 _ (x := (k + 1, 110)) rfl hown hgr hat); clear hown hgr hat)
                      | fail)
                    go_roundw
                    case rel => exact ⟨j + 1, pre ++ [(k + 1, X)], hjN, by go_num, (congrArg Value.string HSC2.out.symm).trans (sec_same HPS.out), by rw [HPS.out]; exact HV.out, HOF2.out⟩
                    case measure => simp only [intOf]; omega
                  · have HPS := Lib.hid ((pfold_snoc pre (k + 1, X)).trans hst)
                    have hAn : A < n := by have := HXN.out; omega
                    clear hAl
                    have hAe2 : ¬ (A : Int) = (SX.size : Int) := by rw [hXs]; omega
                    have hAz : A ≤ SX.size := by omega
                    have hs1 : ∀ V, (Instr.slice 9 (.string SX) none (some (.int .i64 (A : Int))) none).run Tryd.prog V = .ok (.string (bs (X.take A))) V := fun V => by
                      have := run_slice_string_h (P := Tryd.prog) V 9 SX Tryd.underlying9 .i64 (A : Int) (by omega) (by omega)
                      rw [this, ← HEX.out, cut_bs]
                      simp
                    have HTK : Hid (∀ V, Calls Tryd.prog 17 #[.string (bs (X.take A))] V fun e w' => e = .returned (.string (bs (trimL (X.take A)))) ∧ V = w') := Lib.hid fun V => rtrim_any _ (by rw [List.length_take]; omega) V
                    have HKY : Hid (∀ V, Calls Tryd.prog 20 #[.string (bs (trimL (X.take A)))] V fun e w' => e = .returned (.bool (keyB (trimL (X.take A)))) ∧ V = w') := Lib.hid fun V => rkey_any _ (by have := trim_len (X.take A); rw [List.length_take] at this; omega) V
                    rw [hk1] at HKY
                    have hE1 : SX.extract 0 A = bs (X.take A) := by rw [← HEX.out, cut_bs]; simp
                    have hE2 : SX.extract ((A : Int) + 1).toNat n = bs (X.drop (A + 1)) := by
                      rw [← HEX.out, cut_bs, ← HXN.out, List.take_length]
                      rfl
                    generalize hKT : bs (trimL (X.take A)) = KT at *
                    generalize bs (X.take A) = KA at *
                    rw [hse] at hSCe
                    have hA1 : wrap64 ((A : Int) + 1) = (A : Int) + 1 := w_id (by omega) (by omega)
                    have hA2 : IntKind.i64.wrap ((A : Int) + 1) = (A : Int) + 1 := (IntWalk.i64_left _).trans hA1
                    have hs3 : ∀ V, (Instr.slice 9 (.string SX) (some (.int .i64 ((A : Int) + 1))) none none).run Tryd.prog V = .ok (.string (bs (X.drop (A + 1)))) V := fun V => by
                      have := run_slice_string_l (P := Tryd.prog) V 9 SX Tryd.underlying9 .i64 ((A : Int) + 1) (by omega) (by omega)
                      rw [this, ← HEX.out, cut_bs]
                      have h : (bs X).size = X.length := rfl
                      rw [h, List.take_length]
                      rfl
                    have HTV : Hid (∀ V, Calls Tryd.prog 17 #[.string (bs (X.drop (A + 1)))] V fun e w' => e = .returned (.string (bs (trimL (X.drop (A + 1))))) ∧ V = w') := Lib.hid fun V => rtrim_any _ (by have := HXN.out; rw [List.length_drop]; omega) V
                    generalize hVT : bs (trimL (X.drop (A + 1))) = VT at *
                    generalize bs (X.drop (A + 1)) = VA at *
                    clear hst hSXe hk1
                    go_upto_region 23 with (first
                      | (go_at_call 19; refine (HSC.out _).mono ?_; clear HSC; rintro e V ⟨rfl, rfl⟩)
                      | (go_at_call 17; refine (HTK.out _).mono ?_; rintro e V ⟨rfl, rfl⟩)
                      | (go_at_call 20; refine (HKY.out _).mono ?_; clear HKY; rintro e V ⟨rfl, rfl⟩)
                      | fail)
                    refine wp_region_perm (fun _ => True) [(0, true), (1, true), (2, true), (3, true), (4, true), (5, true), (7, true), (8, true), (9, true), (10, true), (6, false), (11, false), (12, true), (13, false), (14, false)] _ (by kernel_rfl) rfl (by kernel_rfl) rfl trivial ?_
                    simp only [permL, List.dropLast, List.getElem?_cons_zero, List.getElem?_cons_succ, List.getLast]
                    iterate 5
                      (apply wpMix_free
                       · intro z _
                         go_simp
                         all_goals with_reducible rfl
                       simp only [Act.put, List.setIfInBounds_toArray, List.set_cons_zero, List.set_cons_succ])
                    refine wpMix_free (.string KA) (fun z _ => ?_) ?_
                    · go_simp
                      all_goals first | rw [hE1] | (rw [if_pos ⟨by omega, by omega⟩, hE1])
                    simp only [Act.put, List.setIfInBounds_toArray, List.set_cons_zero, List.set_cons_succ]
                    iterate 3
                      (apply wpMix_free
                       · intro z _
                         go_simp
                         all_goals with_reducible rfl
                       simp only [Act.put, List.setIfInBounds_toArray, List.set_cons_zero, List.set_cons_succ])
                    refine wpMix_free (.string VA) (fun z _ => ?_) ?_
                    · go_simp
                      all_goals rw [hA2, if_pos ⟨by omega, by omega⟩, hE2]
                    simp only [Act.put, List.setIfInBounds_toArray, List.set_cons_zero, List.set_cons_succ]
                    refine wpMix_turn (fun K hK => ?_)
                    have HK := Lib.hid hK
                    clear hK
                    go_simp
                    refine (HTK.out _).mono ?_
                    rintro e V ⟨rfl, rfl⟩
                    refine HK.out _ _ trivial ?_
                    clear HK
                    try simp only [Act.put, List.setIfInBounds_toArray, List.set_cons_zero, List.set_cons_succ]
                    refine wpMix_turn (fun K hK => ?_)
                    have HK := Lib.hid hK
                    clear hK
                    go_simp
                    refine (HTV.out _).mono ?_
                    rintro e V ⟨rfl, rfl⟩
                    refine HK.out _ _ trivial ?_
                    clear HK
                    try simp only [Act.put, List.setIfInBounds_toArray, List.set_cons_zero, List.set_cons_succ]
                    try simp only [Act.put, List.setIfInBounds_toArray, List.set_cons_zero, List.set_cons_succ]
                    repeat (apply wpMix_free
                            · intro z _
                              go_simp
                              all_goals with_reducible rfl
                            simp only [Act.put, List.setIfInBounds_toArray, List.set_cons_zero, List.set_cons_succ])
                    refine wpMix_turn (fun K hK => ?_)
                    have HK := Lib.hid hK
                    clear hK
                    go_simp
                    refine HK.out _ _ trivial ?_
                    clear HK
                    try simp only [Act.put, List.setIfInBounds_toArray, List.set_cons_zero, List.set_cons_succ]
                    refine wpMix_turn (fun K hK => ?_)
                    have HK := Lib.hid hK
                    clear hK
                    refine wp_append_one (.tmp 98) (.tmp 111) 28 34 4 56 _ rfl Tryd.underlying28 infoRL rfl (by decide) (by decide) V0.heap.size _ _ [.int .i64 ((k : Int) + 1), .string SC, .string KT, .string VT] ⟨wr.heap.size, 0, none⟩ 1 rfl rfl (HRP.out.drew.o1.alloc _) rfl (new_cells wr.drew _ rfl _ _) (by simp [Value.oneCell']) (by rw [List.length_map]; have := HCN.out.1; omega) (by have := HSZ0.out; simp; omega) ?_
                    intro v' w' hown hgr hat
                    have HV := Lib.hid (HRP.out.drew.app1 _ (x := (k + 1, (pfold pre).sec, trimL (X.take A), trimL (X.drop (A + 1)))) (by unfold lineC; rw [hKT, hVT, HSC2.out]; rfl) hown hgr hat)
                    clear hown hgr hat
                    refine HK.out _ _ trivial ?_
                    clear HK
                    try simp only [Act.put, List.setIfInBounds_toArray, List.set_cons_zero, List.set_cons_succ]
                    refine wpMix_end ?_
                    go_wp2_with fail
                    go_roundw
                    case rel => exact ⟨j + 1, pre ++ [(k + 1, X)], hjN, by go_num, (congrArg Value.string HSC2.out.symm).trans (sec_same HPS.out), by rw [HPS.out]; exact HV.out, HOF2.out⟩
                    case measure => simp only [intOf]; omega
    · have hkn : ¬ (k : Int) < (N : Int) := by omega
      have HE : Hid (pfold pre = parseL text) := Lib.hid (by
        have h := HPR.out
        rw [List.drop_eq_nil_of_le (by have := HNN.out; omega)] at h
        rw [HPL.out, ← h]
        simp [wholesL])
      clear HPR
      go_wp2
      go_ret2
      have r := HRP.out
      rw [HE.out] at r
      exact ⟨_, _, rfl, r.o1.mono HB0.out.size, r.o2.mono HB0.out.size, HB0.out.trans (r.b.mono HB0.out.size)⟩
end Go.Proofs.YtokeepmlibolfaaDoor.Ln
