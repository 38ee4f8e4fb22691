/-
  Layer 11 (lines): the law LinesPassed, walked (written by a program).
-/
import Derived.Test.YtokeepmlibolfaaDoorLnMv
import Derived.Test.YtokeepmlibolfaaDoorLinesBackWalk
import Derived.Test.YtokeepmlibolfaaDoorLnPlainF
import Derived.Test.YtokeepmlibolfaaDoorLnWorks
import Derived.BigQuiet
import Derived.Deep.QuietTactic
namespace Go.Proofs.YtokeepmlibolfaaDoor.Ln
open Go.RowKit
set_option maxRecDepth 100000

set_option maxHeartbeats 1000000 in
theorem passed_long (A : Option Addr) (n c : Nat) (A2 : Option Addr) (K c2 : Nat) (m : Int) (w : World) (hm : w.cell? ⟨0, 0, none⟩ = some (.int .i64 m)) (h0 : 0 < w.heap.size) (hn : 3000 < n ∨ 40 < K) : Calls Tryd.prog 5 #[.slice A n c, .slice A2 K c2] w fun e w' => e = .returned (.bool true) ∧ Below w.heap.size w w' := by
  have HWK := Lib.hid (works_any m w hm h0)
  clear hm h0
  by_cases hn1 : 3000 < n
  · have hn2 : (3000 : Int) < (n : Int) := by omega
    clear hn hn1
    go_enter Tryd.func5, Tryd.ntmps5
    go_wp2_with (first | (go_at_call 8; refine (HWK.out).mono ?_; rintro e V ⟨rfl, hb⟩; have HB := Lib.hid hb; clear hb) | fail)
    go_ret
    exact ⟨rfl, HB.out⟩
  · have hn2 : ¬ (3000 : Int) < (n : Int) := by omega
    have hk2 : (40 : Int) < (K : Int) := by omega
    clear hn hn1
    go_enter Tryd.func5, Tryd.ntmps5
    go_wp2_with (first | (go_at_call 8; refine (HWK.out).mono ?_; rintro e V ⟨rfl, hb⟩; have HB := Lib.hid hb; clear hb) | fail)
    go_ret
    exact ⟨rfl, HB.out⟩
theorem keep_snoc {o : List UInt8} {j : Nat} (hj : j < o.length) : ((o.take (j + 1)).filter okp) = (o.take j).filter okp ++ (if okp (o.getD j 0) then [o.getD j 0] else []) := by
  rw [List.take_add_one, List.getElem?_eq_getElem hj, List.filter_append, List.getD_eq_getElem?_getD, List.getElem?_eq_getElem hj]
  congr 1
  simp only [Option.toList_some, Option.getD_some, List.filter_cons, List.filter_nil]
theorem mod_int (k q : Nat) : (Int.tmod (k : Int) (q : Int)) = ((k % q : Nat) : Int) := by
  rw [Int.ofNat_tmod]
theorem keep_le (o : List UInt8) (j : Nat) (hj : j ≤ 60) : ((o.take j).filter okp).length ≤ 60 := by
  have h1 := List.length_filter_le okp (o.take j)
  have h2 := List.length_take_le j o
  omega
set_option maxHeartbeats 16000000 in
theorem passed_short (A : Option Addr) (c : Nat) (text : List UInt8) (A2 : Option Addr) (c2 : Nat) (os : List (List UInt8)) (m : Int) (w : World) (hm : w.cell? ⟨0, 0, none⟩ = some (.int .i64 m)) (h0 : 0 < w.heap.size) (hn : text.length ≤ 3000) (hK : os.length ≤ 40) (hol : ∀ o ∈ os, o.length ≤ 9223372036854775807) (hsr : StrRow w A2 os)
    (hcv : ∀ W', Below w.heap.size w W' → (convert 22 9 (.slice A text.length c)).run Tryd.prog W' = .ok (.string (bs text)) W') : Calls Tryd.prog 5 #[.slice A text.length c, .slice A2 os.length c2] w fun e w' => e = .returned (.bool true) ∧ Below w.heap.size w w' := by
  have HPA : Hid (∀ V, Below w.heap.size w V → Calls Tryd.prog 9 #[.slice A text.length c] V fun e W' => ∃ p1 k1 p2 k2, e = .returned (.tuple #[.slice p1 (parseL text).found.length k1, .slice p2 (parseL text).wrong.length k2]) ∧ RowB W' V.heap.size 33 p1 4 ((parseL text).found.map lineC) ∧ RowB W' V.heap.size 39 p2 2 ((parseL text).wrong.map diagC) ∧ Below V.heap.size V W') := Lib.hid fun V b => (parse_any A c text m V ((b.cell (p := ⟨0, 0, none⟩) h0).trans hm) (by have := b.size; omega) (fun W' hb => hcv W' (b.trans (hb.mono b.size))) (by omega)).mono fun e W' h => by
    obtain ⟨v1, v2, rfl, o1, o2, hb⟩ := h
    obtain ⟨p1, k1, rfl, r1⟩ := lines_b o1
    obtain ⟨p2, k2, rfl, r2⟩ := diags_b o2
    refine ⟨p1, k1, p2, k2, rfl, fun i cs hi => ?_, fun i cs hi => ?_, hb⟩
    · obtain ⟨g, q1, q2, q3⟩ := r1 i cs hi; exact ⟨g, q1, by omega, q3⟩
    · obtain ⟨g, q1, q2, q3⟩ := r2 i cs hi; exact ⟨g, q1, by omega, q3⟩
  have HWK : Hid (∀ V, Below w.heap.size w V → Calls Tryd.prog 8 #[] V fun e w' => e = .returned (.bool true) ∧ Below w.heap.size w w') := Lib.hid fun V b => by
    refine (works_any m V ((b.cell (p := ⟨0, 0, none⟩) h0).trans hm) (by have := b.size; omega)).mono ?_
    rintro e w' ⟨he, hb'⟩
    exact ⟨he, b.trans (hb'.mono b.size)⟩
  have hpl := pass_len os 0
  have hmv := parse_pass os text
  have HPB : Hid (∀ V, Below w.heap.size w V → Calls Tryd.prog 9 #[cV V (passL 0 os ++ text)] (cW V (passL 0 os ++ text)) fun e W' => ∃ p1 k1 p2 k2, e = .returned (.tuple #[.slice p1 (parseL text).found.length k1, .slice p2 (parseL text).wrong.length k2]) ∧ RowB W' V.heap.size 33 p1 4 (((parseL text).found.map (mvL os.length)).map lineC) ∧ RowB W' V.heap.size 39 p2 2 (((parseL text).wrong.map (mvD os.length)).map diagC) ∧ Below V.heap.size V W') := Lib.hid fun V b => (parse_lit (passL 0 os ++ text) m V ((b.cell (p := ⟨0, 0, none⟩) h0).trans hm) (by have := b.size; omega) (by rw [List.length_append]; omega)).mono fun e W' h => by
    obtain ⟨v1, v2, rfl, o1, o2, hb⟩ := h
    obtain ⟨p1, k1, rfl, r1⟩ := lines_b o1
    obtain ⟨p2, k2, rfl, r2⟩ := diags_b o2
    rw [hmv] at r1 r2 ⊢
    refine ⟨p1, k1, p2, k2, by simp [mvF], fun i cs hi => ?_, fun i cs hi => ?_, (cW_below _ V).trans (hb.mono (by omega))⟩
    · obtain ⟨g, q1, q2, q3⟩ := r1 i cs hi; exact ⟨g, q1, by omega, q3⟩
    · obtain ⟨g, q1, q2, q3⟩ := r2 i cs hi; exact ⟨g, q1, by omega, q3⟩
  have HNM := Lib.hid (parse_nums text (by omega))
  have HER := Lib.hid (parse_errs text)
  have hNM : (parseL text).found.length ≤ 1000001 ∧ (parseL text).wrong.length ≤ 1000001 := by
    have h1 := pfold_len (wholesL (linesL text) 0 0 [])
    have h2 := wholes_len (linesL text) 0 0 []
    have h3 := tot_lines text (by omega)
    have h4 : ∀ l : List (List UInt8), l.length ≤ tot l := fun l => by
      induction l with
      | nil => exact Nat.le_refl _
      | cons a l ih => show l.length + 1 ≤ a.length + 1 + tot l; omega
    have h5 := h4 (linesL text)
    unfold parseL
    omega
  obtain ⟨fd, hfd⟩ : ∃ fd, (parseL text).found = fd := ⟨_, rfl⟩
  obtain ⟨wr', hwr⟩ : ∃ wr, (parseL text).wrong = wr := ⟨_, rfl⟩
  rw [hfd, hwr] at HPA HPB HNM hNM
  rw [hwr] at HER
  clear hmv hfd hwr
  obtain ⟨N, hN⟩ : ∃ N, fd.length = N := ⟨_, rfl⟩
  obtain ⟨M, hM⟩ : ∃ M, wr'.length = M := ⟨_, rfl⟩
  rw [hN, hM] at HPA HPB hNM
  have HN := Lib.hid hN
  have HMM := Lib.hid hM
  have HCV := Lib.hid hcv
  have HSR := Lib.hid hsr
  have HOL := Lib.hid hol
  obtain ⟨K, hKe⟩ : ∃ K, os.length = K := ⟨_, rfl⟩
  rw [hKe] at HPB hpl hK ⊢
  have HPL : Hid (∀ k, (passL 0 (os.take k)).length ≤ 63 * 40) := Lib.hid fun k => by
    have h1 := pass_len (os.take k) 0
    rw [List.length_take] at h1
    omega
  have HKE := Lib.hid hKe
  have hn2 : ¬ (3000 : Int) < (text.length : Int) := by omega
  have hk2 : ¬ (40 : Int) < (K : Int) := by omega
  have HTL : Hid (text.length ≤ 3000) := Lib.hid hn
  obtain ⟨n, hn'⟩ : ∃ n, text.length = n := ⟨_, rfl⟩
  rw [hn'] at HPA HCV hn2 ⊢
  clear hn'
  clear hm h0 hcv hsr hol hN hM hKe hpl hn
  go_enter Tryd.func5, Tryd.ntmps5
  go_wp2_with fail
  go_loopw [5, 6] (fun s i wr => ∃ k : Nat, k ≤ K ∧ i = .int .i64 k ∧ s = .string (bs (passL 0 (os.take k))) ∧ Below w.heap.size w wr) (fun _ i _ => K - (intOf i).toNat)
  case atStart => exact ⟨0, Nat.zero_le _, rfl, rfl, Below.refl _ _⟩
  case round =>
    obtain ⟨k, hk, rfl, rfl, hb⟩ := hrel
    by_cases hlt : k < K
    · obtain ⟨o, ho⟩ : ∃ o, os[k]? = some o := ⟨_, List.getElem?_eq_getElem (by have := HKE.out; omega)⟩
      have holn := HOL.out o (List.mem_of_getElem? ho)
      obtain ⟨a, ea, hab, hac⟩ := (HSR.out.keep hb) k o ho
      have HST : Hid (passL 0 (os.take (k + 1)) = passL 0 (os.take k) ++ (passX k (keepL o) ++ [10])) := Lib.hid (by
        have h1 : os.take (k + 1) = os.take k ++ [o] := by rw [List.take_add_one, ho]; rfl
        rw [h1, pass_snoc, Nat.zero_add, List.length_take, Nat.min_eq_left (by have := HKE.out; omega)])
      have hL1 := HPL.out (k + 1)
      have HAC : Hid (∀ V, Below wr.heap.size wr V → V.cell? (a.add k) = some (.string (bs o))) := Lib.hid fun V hV => (hV.cell (by rw [block_add]; exact hab)).trans hac
      subst ea
      have HB := Lib.hid hb
      clear hb ho hab hac HSR HOL
      have HS : Hid (∀ q (hq : q < (bs o).size), (bs o)[q] = o.getD q 0) := Lib.hid fun q hq => at_list hq
      have hsz : (bs o).size = o.length := rfl
      have HKP : Hid (∀ q, q < o.length → (o.take (q + 1)).filter okp = (o.take q).filter okp ++ (if okp (o.getD q 0) then [o.getD q 0] else [])) := Lib.hid fun q hq => keep_snoc hq
      have HKL : Hid (∀ q, q ≤ 60 → ((o.take q).filter okp).length ≤ 60) := Lib.hid fun q hq => keep_le o q hq
      have HKN : Hid (∀ q, (q = 60 ∨ (o.length = q ∧ q ≤ 60)) → (o.take q).filter okp = keepL o) := Lib.hid fun q hq => by
        unfold keepL
        rcases hq with rfl | ⟨h1, h2⟩
        · rfl
        · rw [List.take_of_length_le (by omega), List.take_of_length_le (by omega)]
      obtain ⟨z, hz⟩ : ∃ z, o.length = z := ⟨_, rfl⟩
      rw [hz] at hsz HKP HKN holn
      clear hz
      generalize hO : bs o = O at *
      have hac1 := HAC.out wr (Below.refl _ _)
      generalize passL 0 (os.take k) = P0 at *
      go_wp2_with fail
      go_loopw [7, 8] (fun x q wx => ∃ j : Nat, j ≤ z ∧ j ≤ 60 ∧ q = .int .i64 j ∧ x = .string (bs ((o.take j).filter okp)) ∧ Below wr.heap.size wr wx) (fun _ q _ => 61 - (intOf q).toNat)
      case atStart => exact ⟨0, Nat.zero_le _, Nat.zero_le _, rfl, rfl, Below.refl _ _⟩
      case round =>
        obtain ⟨j, hj, hj60, rfl, rfl, hbx⟩ := hrel
        have hac2 := HAC.out _ hbx
        have HBX := Lib.hid hbx
        clear hbx hac1
        by_cases hjz : j < z
        · by_cases hj6 : j < 60
          · have hjo : j < O.size := by omega
            have hb0 := HS.out j hjo
            have hT := HKP.out j hjz
            have hL2 := HKL.out (j + 1) (by omega)
            obtain ⟨b, hbb⟩ : ∃ b, o.getD j 0 = b := ⟨_, rfl⟩
            rw [hbb] at hb0 hT
            have e1 := u8_eq b 10 (by decide)
            have e2 := u8_eq b 13 (by decide)
            by_cases h10 : b = 10
            · have e1 : ((b.toNat : Int) != 10) = false := congrArg not (e1.trans (beq_iff_eq.mpr h10))
              rw [if_neg (by rw [h10]; decide), List.append_nil] at hT
              have HT := Lib.hid hT
              clear hT hbb h10 e2 HKP HKL HKN HS HST hL1 hL2
              generalize hX : bs ((o.take j).filter okp) = X at *
              go_wp2_with fail
              go_roundw
              case rel => exact ⟨j + 1, by omega, by omega, by go_num, by rw [HT.out, hX], HBX.out⟩
              case measure => simp only [intOf]; omega
            · have e1 : ((b.toNat : Int) != 10) = true := congrArg not (e1.trans (beq_eq_false_iff_ne.mpr h10))
              by_cases h13 : b = 13
              · have e2 : ((b.toNat : Int) != 13) = false := congrArg not (e2.trans (beq_iff_eq.mpr h13))
                rw [if_neg (by rw [h13]; decide), List.append_nil] at hT
                have HT := Lib.hid hT
                clear hT hbb h10 h13 HKP HKL HKN HS HST hL1 hL2
                generalize hX : bs ((o.take j).filter okp) = X at *
                go_wp2_with fail
                go_roundw
                case rel => exact ⟨j + 1, by omega, by omega, by go_num, by rw [HT.out, hX], HBX.out⟩
                case measure => simp only [intOf]; omega
              · have e2 : ((b.toNat : Int) != 13) = true := congrArg not (e2.trans (beq_eq_false_iff_ne.mpr h13))
                rw [if_pos (by unfold okp; simp [h10, h13])] at hT
                have HT := Lib.hid hT
                rw [hT] at hL2
                have ha := add_bs ((o.take j).filter okp) [b] _ rfl (by omega)
                have cw := conv_one b wr
                clear hT hbb h10 h13 HKP HKL HKN HS HST hL1 hL2
                generalize hX : bs ((o.take j).filter okp) = X at *
                generalize hX2 : bs ((o.take j).filter okp ++ [b]) = X2 at *
                go_wp2_with fail
                go_roundw
                case rel => exact ⟨j + 1, by omega, by omega, by go_num, by rw [HT.out, hX2], HBX.out.alloc HBX.out.size _⟩
                case measure => simp only [intOf]; omega
          · have hK60 := HKN.out j (.inl (by omega))
            have hjj : ¬ (j : Int) < 60 := by omega
            have hzz : (j : Int) < (O.size : Int) := by omega
            clear HKN HS HKP HKL
            rw [hK60]
            have HXL : Hid ((keepL o).length ≤ 60) := Lib.hid (keep_len o)
            have HBW := Lib.hid (HB.out.trans (HBX.out.mono HB.out.size))
            clear hK60 HBX
            have hm3 := mod_int k 3
            have hm2 := mod_int k 2
            have hm3 : (Int.tmod (k : Int) 3) = ((k % 3 : Nat) : Int) := hm3
            have hm2 : (Int.tmod (k : Int) 2) = ((k % 2 : Nat) : Int) := hm2
            generalize keepL o = x at *
            by_cases h3 : k % 3 = 0
            · have HST2 : Hid (P0 ++ (passX k x ++ [10]) = P0 ++ [32, 9, 10]) := Lib.hid (by unfold passX; rw [if_pos h3]; rfl)
              rw [HST.out, HST2.out] at hL1
              have ha := add_bs P0 [32, 9, 10] _ rfl (by omega)
              rw [h3] at hm3
              clear h3 hL1 hm2
              generalize hQ : bs (P0 ++ [32, 9, 10]) = Q at *
              generalize bs P0 = S0 at *
              generalize bs x = X at *
              go_wp2_with fail
              go_roundw
              case rel => exact ⟨k + 1, hlt, by go_num, by rw [HST.out, HST2.out, hQ], HBW.out⟩
              case measure => simp only [intOf]; omega
            · have h3n : ¬ (((k % 3 : Nat) : Int)) = 0 := by omega
              by_cases h2 : k % 2 = 0
              · have HST2 : Hid (P0 ++ (passX k x ++ [10]) = (((P0 ++ [32]) ++ [35]) ++ x) ++ [10]) := Lib.hid (by unfold passX; rw [if_neg h3, if_pos h2]; simp)
                rw [HST.out, HST2.out] at hL1
                have hl1 : ((P0 ++ [32]) ++ [35] ++ x).length ≤ 2600 := by rw [List.length_append] at hL1; omega
                have hl2 : ((P0 ++ [32]) ++ [35]).length ≤ 2600 := by rw [List.length_append] at hl1; omega
                have hl3 : (P0 ++ [32]).length ≤ 2600 := by rw [List.length_append] at hl2; omega
                have ha1 := add_bs P0 [32] _ rfl (by omega)
                have ha2 := add_bs (P0 ++ [32]) [35] _ rfl (by omega)
                have ha3 := add_bs ((P0 ++ [32]) ++ [35]) x _ rfl (by omega)
                have ha4 := add_bs (((P0 ++ [32]) ++ [35]) ++ x) [10] _ rfl (by omega)
                have hsl : ∀ V, (Instr.slice 9 (.string ⟨#[35, 59]⟩) (some (.int .i64 0)) (some (.int .i64 1)) none).run Tryd.prog V = .ok (.string ⟨#[35]⟩) V := fun V => sl_run ⟨#[35, 59]⟩ 0 1 (by decide) (by decide) V
                rw [h2] at hm2
                clear h2 h3 hL1 hl1 hl2 hl3
                generalize hQ : bs ((((P0 ++ [32]) ++ [35]) ++ x) ++ [10]) = Q at *
                generalize bs (((P0 ++ [32]) ++ [35]) ++ x) = Q1 at *
                generalize bs ((P0 ++ [32]) ++ [35]) = Q2 at *
                generalize bs (P0 ++ [32]) = Q3 at *
                generalize bs P0 = S0 at *
                generalize bs x = X at *
                go_wp2_with fail
                go_roundw
                case rel => exact ⟨k + 1, hlt, by go_num, by rw [HST.out, HST2.out, hQ], HBW.out⟩
                case measure => simp only [intOf]; omega
              · have h2 : k % 2 = 1 := by omega
                have HST2 : Hid (P0 ++ (passX k x ++ [10]) = (((P0 ++ [32]) ++ [59]) ++ x) ++ [10]) := Lib.hid (by unfold passX; rw [if_neg h3, if_neg (by omega)]; simp)
                rw [HST.out, HST2.out] at hL1
                have hl1 : ((P0 ++ [32]) ++ [59] ++ x).length ≤ 2600 := by rw [List.length_append] at hL1; omega
                have hl2 : ((P0 ++ [32]) ++ [59]).length ≤ 2600 := by rw [List.length_append] at hl1; omega
                have hl3 : (P0 ++ [32]).length ≤ 2600 := by rw [List.length_append] at hl2; omega
                have ha1 := add_bs P0 [32] _ rfl (by omega)
                have ha2 := add_bs (P0 ++ [32]) [59] _ rfl (by omega)
                have ha3 := add_bs ((P0 ++ [32]) ++ [59]) x _ rfl (by omega)
                have ha4 := add_bs (((P0 ++ [32]) ++ [59]) ++ x) [10] _ rfl (by omega)
                have hsl : ∀ V, (Instr.slice 9 (.string ⟨#[35, 59]⟩) (some (.int .i64 1)) (some (.int .i64 2)) none).run Tryd.prog V = .ok (.string ⟨#[59]⟩) V := fun V => sl_run ⟨#[35, 59]⟩ 1 2 (by decide) (by decide) V
                rw [h2] at hm2
                clear h2 h3 hL1 hl1 hl2 hl3
                generalize hQ : bs ((((P0 ++ [32]) ++ [59]) ++ x) ++ [10]) = Q at *
                generalize bs (((P0 ++ [32]) ++ [59]) ++ x) = Q1 at *
                generalize bs ((P0 ++ [32]) ++ [59]) = Q2 at *
                generalize bs (P0 ++ [32]) = Q3 at *
                generalize bs P0 = S0 at *
                generalize bs x = X at *
                go_wp2_with fail
                go_roundw
                case rel => exact ⟨k + 1, hlt, by go_num, by rw [HST.out, HST2.out, hQ], HBW.out⟩
                case measure => simp only [intOf]; omega
        · have hK60 := HKN.out j (.inr ⟨by omega, hj60⟩)
          have hzz : ¬ (j : Int) < (O.size : Int) := by omega
          clear HKN HS HKP HKL
          rw [hK60]
          have HXL : Hid ((keepL o).length ≤ 60) := Lib.hid (keep_len o)
          have HBW := Lib.hid (HB.out.trans (HBX.out.mono HB.out.size))
          clear hK60 HBX
          have hm3 := mod_int k 3
          have hm2 := mod_int k 2
          have hm3 : (Int.tmod (k : Int) 3) = ((k % 3 : Nat) : Int) := hm3
          have hm2 : (Int.tmod (k : Int) 2) = ((k % 2 : Nat) : Int) := hm2
          generalize keepL o = x at *
          by_cases h3 : k % 3 = 0
          · have HST2 : Hid (P0 ++ (passX k x ++ [10]) = P0 ++ [32, 9, 10]) := Lib.hid (by unfold passX; rw [if_pos h3]; rfl)
            rw [HST.out, HST2.out] at hL1
            have ha := add_bs P0 [32, 9, 10] _ rfl (by omega)
            rw [h3] at hm3
            clear h3 hL1 hm2
            generalize hQ : bs (P0 ++ [32, 9, 10]) = Q at *
            generalize bs P0 = S0 at *
            generalize bs x = X at *
            go_wp2_with fail
            go_roundw
            case rel => exact ⟨k + 1, hlt, by go_num, by rw [HST.out, HST2.out, hQ], HBW.out⟩
            case measure => simp only [intOf]; omega
          · have h3n : ¬ (((k % 3 : Nat) : Int)) = 0 := by omega
            by_cases h2 : k % 2 = 0
            · have HST2 : Hid (P0 ++ (passX k x ++ [10]) = (((P0 ++ [32]) ++ [35]) ++ x) ++ [10]) := Lib.hid (by unfold passX; rw [if_neg h3, if_pos h2]; simp)
              rw [HST.out, HST2.out] at hL1
              have hl1 : ((P0 ++ [32]) ++ [35] ++ x).length ≤ 2600 := by rw [List.length_append] at hL1; omega
              have hl2 : ((P0 ++ [32]) ++ [35]).length ≤ 2600 := by rw [List.length_append] at hl1; omega
              have hl3 : (P0 ++ [32]).length ≤ 2600 := by rw [List.length_append] at hl2; omega
              have ha1 := add_bs P0 [32] _ rfl (by omega)
              have ha2 := add_bs (P0 ++ [32]) [35] _ rfl (by omega)
              have ha3 := add_bs ((P0 ++ [32]) ++ [35]) x _ rfl (by omega)
              have ha4 := add_bs (((P0 ++ [32]) ++ [35]) ++ x) [10] _ rfl (by omega)
              have hsl : ∀ V, (Instr.slice 9 (.string ⟨#[35, 59]⟩) (some (.int .i64 0)) (some (.int .i64 1)) none).run Tryd.prog V = .ok (.string ⟨#[35]⟩) V := fun V => sl_run ⟨#[35, 59]⟩ 0 1 (by decide) (by decide) V
              rw [h2] at hm2
              clear h2 h3 hL1 hl1 hl2 hl3
              generalize hQ : bs ((((P0 ++ [32]) ++ [35]) ++ x) ++ [10]) = Q at *
              generalize bs (((P0 ++ [32]) ++ [35]) ++ x) = Q1 at *
              generalize bs ((P0 ++ [32]) ++ [35]) = Q2 at *
              generalize bs (P0 ++ [32]) = Q3 at *
              generalize bs P0 = S0 at *
              generalize bs x = X at *
              go_wp2_with fail
              go_roundw
              case rel => exact ⟨k + 1, hlt, by go_num, by rw [HST.out, HST2.out, hQ], HBW.out⟩
              case measure => simp only [intOf]; omega
            · have h2 : k % 2 = 1 := by omega
              have HST2 : Hid (P0 ++ (passX k x ++ [10]) = (((P0 ++ [32]) ++ [59]) ++ x) ++ [10]) := Lib.hid (by unfold passX; rw [if_neg h3, if_neg (by omega)]; simp)
              rw [HST.out, HST2.out] at hL1
              have hl1 : ((P0 ++ [32]) ++ [59] ++ x).length ≤ 2600 := by rw [List.length_append] at hL1; omega
              have hl2 : ((P0 ++ [32]) ++ [59]).length ≤ 2600 := by rw [List.length_append] at hl1; omega
              have hl3 : (P0 ++ [32]).length ≤ 2600 := by rw [List.length_append] at hl2; omega
              have ha1 := add_bs P0 [32] _ rfl (by omega)
              have ha2 := add_bs (P0 ++ [32]) [59] _ rfl (by omega)
              have ha3 := add_bs ((P0 ++ [32]) ++ [59]) x _ rfl (by omega)
              have ha4 := add_bs (((P0 ++ [32]) ++ [59]) ++ x) [10] _ rfl (by omega)
              have hsl : ∀ V, (Instr.slice 9 (.string ⟨#[35, 59]⟩) (some (.int .i64 1)) (some (.int .i64 2)) none).run Tryd.prog V = .ok (.string ⟨#[59]⟩) V := fun V => sl_run ⟨#[35, 59]⟩ 1 2 (by decide) (by decide) V
              rw [h2] at hm2
              clear h2 h3 hL1 hl1 hl2 hl3
              generalize hQ : bs ((((P0 ++ [32]) ++ [59]) ++ x) ++ [10]) = Q at *
              generalize bs (((P0 ++ [32]) ++ [59]) ++ x) = Q1 at *
              generalize bs ((P0 ++ [32]) ++ [59]) = Q2 at *
              generalize bs (P0 ++ [32]) = Q3 at *
              generalize bs P0 = S0 at *
              generalize bs x = X at *
              go_wp2_with fail
              go_roundw
              case rel => exact ⟨k + 1, hlt, by go_num, by rw [HST.out, HST2.out, hQ], HBW.out⟩
              case measure => simp only [intOf]; omega
    · obtain rfl : k = K := by omega
      have hkk : ¬ (k : Int) < (k : Int) := by omega
      have hfl : os.take k = os := List.take_of_length_le (Nat.le_of_eq HKE.out)
      have hpx := HPL.out k
      rw [hfl] at hpx ⊢
      obtain ⟨TT, hTT⟩ : ∃ TT, passL 0 os ++ text = TT := ⟨_, rfl⟩
      rw [hTT] at HPB
      have ha := add_bs (passL 0 os) text TT hTT (by rw [← hTT, List.length_append]; have := HTL.out; omega)
      have HP1 := Lib.hid (HPA.out wr hb)
      have HB := Lib.hid hb
      have hKb : (k : Int) ≤ 40 := by omega
      clear hb hTT hpx hfl HPL HOL HSR HPA
      generalize bs (passL 0 os) = PX at *
      generalize hTXT : bs text = TX at *
      generalize hTTT : bs TT = T3 at *
      obtain ⟨B, hBe⟩ : ∃ B, wr.heap.size = B := ⟨_, rfl⟩
      rw [hBe] at HP1
      go_wp2_with (first
        | (go_at_call 9; refine (HP1.out).mono ?_; clear HP1; rintro e W1 ⟨p1, k1, p2, k2, rfl, hr1, hr2, hb1⟩; have R1 := Lib.hid hr1; have R2 := Lib.hid hr2; have B1 := Lib.hid (HB.out.trans (hb1.mono (by rw [← hBe]; exact HB.out.size))); have hc3 := HCV.out W1 B1.out; have hcv2 := conv_run TT W1; rw [hTTT] at hcv2; have HP3 := Lib.hid (HPB.out W1 B1.out); clear hr1 hr2 hb1)
        | (go_at_call 9; refine (HP3.out).mono ?_; clear HP3; rintro e W3 ⟨p3, k3, p4, k4, rfl, hr3, hr4, hb3⟩; have R3 := Lib.hid hr3; have R4 := Lib.hid hr4; have R1' := Lib.hid (R1.out.keep hb3); have R2' := Lib.hid (R2.out.keep hb3); have B3 := Lib.hid (B1.out.trans (hb3.mono B1.out.size)); clear hr3 hr4 hb3)
        | fail)
      have HBB : Hid (w.heap.size ≤ B) := Lib.hid (by rw [← hBe]; exact HB.out.size)
      clear hc3 hcv2 ha HCV HPB hTXT hTTT
      go_loopw [14] (fun i wx => ∃ j : Nat, j ≤ N ∧ i = .int .i64 j ∧ Mv W3 B 33 p1 4 (fd.map lineC) j wx) (fun i _ => N - (intOf i).toNat)
      case atStart => exact ⟨0, Nat.zero_le _, rfl, Mv.start R1'.out⟩
      case round =>
        obtain ⟨j, hj, rfl, hmv⟩ := hrel
        by_cases hjm : j < N
        · obtain ⟨x, hx⟩ : ∃ x, fd[j]? = some x := ⟨_, List.getElem?_eq_getElem (by have := HN.out; omega)⟩
          have hxm := HNM.out.1 x (List.mem_of_getElem? hx)
          have hxl : (fd.map lineC)[j]? = some (lineC x) := by rw [List.getElem?_map, hx]; rfl
          obtain ⟨g1, e1, _, hg1, ⟨cur, hcur⟩, hq1⟩ := hmv.row j _ (Nat.le_refl _) hxl
          have hr3 := hmv.rowB R3.out (apart_old R1.out R3.out (Nat.le_refl _))
          obtain ⟨g3, e3, hg31, hg3, _, hq3⟩ := hr3 j (lineC (mvL k x)) (by rw [List.getElem?_map, List.getElem?_map, hx]; rfl)
          have h13 : g1 ≠ g3 := by
            obtain ⟨q1, qe, _, ql, _⟩ := R1.out j _ hxl
            rw [e1] at qe
            cases qe
            omega
          obtain ⟨x0, sec, key, val⟩ := x
          have hxm : x0 ≤ 1000001 := hxm
          have a0 : wr.cell? ⟨g1, j * 4, none⟩ = some (.int .i64 (x0 : Int)) := hq1 0 _ rfl
          have a1 : wr.cell? ⟨g1, j * 4 + 1, none⟩ = some (.string (bs sec)) := hq1 1 _ rfl
          have a2 : wr.cell? ⟨g1, j * 4 + 2, none⟩ = some (.string (bs key)) := hq1 2 _ rfl
          have a3 : wr.cell? ⟨g1, j * 4 + 3, none⟩ = some (.string (bs val)) := hq1 3 _ rfl
          have b0 : wr.cell? ⟨g3, j * 4, none⟩ = some (.int .i64 ((x0 : Int) + (k : Int))) := hq3 0 _ rfl
          have b1 : wr.cell? ⟨g3, j * 4 + 1, none⟩ = some (.string (bs sec)) := hq3 1 _ rfl
          have b2 : wr.cell? ⟨g3, j * 4 + 2, none⟩ = some (.string (bs key)) := hq3 2 _ rfl
          have b3 : wr.cell? ⟨g3, j * 4 + 3, none⟩ = some (.string (bs val)) := hq3 3 _ rfl
          have hfz : wr.frozen? ⟨g1, j * 4, none⟩ = false := by simp [World.frozen?, hcur]
          subst e1
          subst e3
          have HMV : Hid (∀ v, Mv W3 B 33 (some ⟨g1, 0, none⟩) 4 (fd.map lineC) (j + 1) (wr.setCell ⟨g1, j * 4, none⟩ v)) := Lib.hid fun v => hmv.set (by decide) hxl v
          clear hq1 hq3 hx hxl hr3 hmv hcur R1 R2 R1' R2' R3 R4 HNM
          generalize bs sec = SS at *
          generalize bs key = SK at *
          generalize bs val = SV at *
          generalize mvL k (x0, sec, key, val) = mx at *
          go_upto_region 25 with (fail)
          have hoth : ∀ (q : Addr) (u v : Value), (⟨g1, j * 4, none⟩ : Addr) ≠ q → wr.cell? q = some u → (wr.setCell ⟨g1, j * 4, none⟩ v).cell? q = some u := fun q u v hq hu => (World.cell?_setCell_other (w := wr) (a := ⟨g1, j * 4, none⟩) (b := q) (v := v) (h := hq)).trans hu
          have hsm : ∀ v, (wr.setCell ⟨g1, j * 4, none⟩ v).cell? ⟨g1, j * 4, none⟩ = some v := fun v => World.cell?_setCell_same (w := wr) (a := ⟨g1, j * 4, none⟩) (v := v) a0
          have hn1 : ∀ q, q ≠ j * 4 → (⟨g1, j * 4, none⟩ : Addr) ≠ ⟨g1, q, none⟩ := fun q hq e => by injection e with _ e _; exact hq e.symm
          have hn3 : ∀ q, (⟨g1, j * 4, none⟩ : Addr) ≠ ⟨g3, q, none⟩ := fun q e => by injection e with e _ _; exact h13 e
          refine wp_world (R := fun X => X.cell? ⟨g1, j * 4, none⟩ = some (.int .i64 ((x0 : Int) + (k : Int))) ∧ X.cell? ⟨g1, j * 4 + 1, none⟩ = some (.string SS) ∧ X.cell? ⟨g1, j * 4 + 2, none⟩ = some (.string SK) ∧ X.cell? ⟨g1, j * 4 + 3, none⟩ = some (.string SV) ∧ X.cell? ⟨g3, j * 4, none⟩ = some (.int .i64 ((x0 : Int) + (k : Int))) ∧ X.cell? ⟨g3, j * 4 + 1, none⟩ = some (.string SS) ∧ X.cell? ⟨g3, j * 4 + 2, none⟩ = some (.string SK) ∧ X.cell? ⟨g3, j * 4 + 3, none⟩ = some (.string SV) ∧ Mv W3 B 33 (some ⟨g1, 0, none⟩) 4 (fd.map lineC) (j + 1) X) ⟨hsm _, hoth _ _ _ (hn1 _ (by omega)) a1, hoth _ _ _ (hn1 _ (by omega)) a2, hoth _ _ _ (hn1 _ (by omega)) a3, hoth _ _ _ (hn3 _) b0, hoth _ _ _ (hn3 _) b1, hoth _ _ _ (hn3 _) b2, hoth _ _ _ (hn3 _) b3, HMV.out _⟩ ?_
          clear hoth hsm hn1 hn3 a0 a1 a2 a3 b0 b1 b2 b3 HMV hfz h13
          rintro X ⟨a0, a1, a2, a3, b0, b1, b2, b3, hmx⟩
          have HMX := Lib.hid hmx
          clear hmx
          go_quiet (fail)
          go_wp2
          go_roundw
          case rel => exact ⟨j + 1, by omega, by go_num, HMX.out.drewN _⟩
          case measure => simp only [intOf]; omega
        · obtain rfl : j = N := by omega
          have hjj : ¬ (j : Int) < (j : Int) := by omega
          have R2'' := Lib.hid (hmv.rowB R2'.out (apart_rows R1'.out R2'.out (by decide)))
          have R4'' := Lib.hid (hmv.rowB R4.out (apart_old R1.out R4.out (Nat.le_refl _)))
          have R24 := Lib.hid (apart_old R2.out R4.out (Nat.le_refl _))
          have hW3 : w.heap.size ≤ W3.heap.size := B3.out.size
          have B4 := Lib.hid (B3.out.trans (hmv.below R1'.out HBB.out hW3))
          clear hmv R1 R2 R1' R2' R3 R4
          obtain ⟨W4, hW4⟩ : ∃ W4, wr = W4 := ⟨_, rfl⟩
          rw [hW4] at R2'' R4'' B4 ⊢
          clear hW4
          go_wp2_with fail
          go_loopw [15] (fun i wx => ∃ q : Nat, q ≤ M ∧ i = .int .i64 q ∧ Mv W4 B 39 p2 2 (wr'.map diagC) q wx) (fun i _ => M - (intOf i).toNat)
          case atStart => exact ⟨0, Nat.zero_le _, rfl, Mv.start R2''.out⟩
          case round =>
            obtain ⟨q, hq, rfl, hmv⟩ := hrel
            by_cases hqm : q < M
            · obtain ⟨x, hx⟩ : ∃ x, wr'[q]? = some x := ⟨_, List.getElem?_eq_getElem (by have := HMM.out; omega)⟩
              have hxm := HNM.out.2 x (List.mem_of_getElem? hx)
              have hxl : (wr'.map diagC)[q]? = some (diagC x) := by rw [List.getElem?_map, hx]; rfl
              obtain ⟨g1, e1, _, hg1, ⟨cur, hcur⟩, hq1⟩ := hmv.row q _ (Nat.le_refl _) hxl
              have hr3 := hmv.rowB R4''.out R24.out
              have hxl2 : ((wr'.map (mvD k)).map diagC)[q]? = some (diagC (mvD k x)) := by rw [List.getElem?_map, List.getElem?_map, hx]; rfl
              obtain ⟨g3, e3, hg31, hg3, _, hq3⟩ := hr3 q _ hxl2
              have h13 : g1 ≠ g3 := fun e => R24.out g1 e1 (fun h => by rw [h] at hxl; simp at hxl) (fun h => by rw [h] at hxl2; simp at hxl2) (by rw [e]; exact e3)
              obtain ⟨x0, er⟩ := x
              have hxm : x0 ≤ 1000001 := hxm
              have a0 : wr.cell? ⟨g1, q * 2, none⟩ = some (.int .i64 (x0 : Int)) := hq1 0 _ rfl
              have a1 : wr.cell? ⟨g1, q * 2 + 1, none⟩ = some (.int .i64 er) := hq1 1 _ rfl
              have b0 : wr.cell? ⟨g3, q * 2, none⟩ = some (.int .i64 ((x0 : Int) + (k : Int))) := hq3 0 _ rfl
              have b1 : wr.cell? ⟨g3, q * 2 + 1, none⟩ = some (.int .i64 er) := hq3 1 _ rfl
              have hfz : wr.frozen? ⟨g1, q * 2, none⟩ = false := by simp [World.frozen?, hcur]
              have hoB := HER.out (x0, er) (List.mem_of_getElem? hx)
              subst e1
              subst e3
              have HMV : Hid (∀ v, Mv W4 B 39 (some ⟨g1, 0, none⟩) 2 (wr'.map diagC) (q + 1) (wr.setCell ⟨g1, q * 2, none⟩ v)) := Lib.hid fun v => hmv.set (by decide) hxl v
              clear hq1 hq3 hx hxl hxl2 hr3 hmv hcur R2'' R4'' R24 HNM HER
              generalize mvD k (x0, er) = mx at *
              go_upto_region 31 with (fail)
              have hoth : ∀ (p : Addr) (u v : Value), (⟨g1, q * 2, none⟩ : Addr) ≠ p → wr.cell? p = some u → (wr.setCell ⟨g1, q * 2, none⟩ v).cell? p = some u := fun p u v hq hu => (World.cell?_setCell_other (w := wr) (a := ⟨g1, q * 2, none⟩) (b := p) (v := v) (h := hq)).trans hu
              have hsm : ∀ v, (wr.setCell ⟨g1, q * 2, none⟩ v).cell? ⟨g1, q * 2, none⟩ = some v := fun v => World.cell?_setCell_same (w := wr) (a := ⟨g1, q * 2, none⟩) (v := v) a0
              have hn1 : ∀ p, p ≠ q * 2 → (⟨g1, q * 2, none⟩ : Addr) ≠ ⟨g1, p, none⟩ := fun p hq e => by injection e with _ e _; exact hq e.symm
              have hn3 : ∀ p, (⟨g1, q * 2, none⟩ : Addr) ≠ ⟨g3, p, none⟩ := fun p e => by injection e with e _ _; exact h13 e
              refine wp_world (R := fun X => X.cell? ⟨g1, q * 2, none⟩ = some (.int .i64 ((x0 : Int) + (k : Int))) ∧ X.cell? ⟨g1, q * 2 + 1, none⟩ = some (.int .i64 er) ∧ X.cell? ⟨g3, q * 2, none⟩ = some (.int .i64 ((x0 : Int) + (k : Int))) ∧ X.cell? ⟨g3, q * 2 + 1, none⟩ = some (.int .i64 er) ∧ Mv W4 B 39 (some ⟨g1, 0, none⟩) 2 (wr'.map diagC) (q + 1) X) ⟨hsm _, hoth _ _ _ (hn1 _ (by omega)) a1, hoth _ _ _ (hn3 _) b0, hoth _ _ _ (hn3 _) b1, HMV.out _⟩ ?_
              clear hoth hsm hn1 hn3 a0 a1 b0 b1 HMV hfz h13
              rintro X ⟨a0, a1, b0, b1, hmx⟩
              have HMX := Lib.hid hmx
              clear hmx
              rcases hoB with h | h
              · have h : er = 3 := h
                subst h
                go_quiet (fail)
                go_wp2
                go_roundw
                case rel => exact ⟨q + 1, by omega, by go_num, HMX.out.drewN _⟩
                case measure => simp only [intOf]; omega
              · have h : er = 110 := h
                subst h
                go_quiet (fail)
                go_wp2
                go_roundw
                case rel => exact ⟨q + 1, by omega, by go_num, HMX.out.drewN _⟩
                case measure => simp only [intOf]; omega
            · obtain rfl : q = M := by omega
              have hqq : ¬ (q : Int) < (q : Int) := by omega
              have BF := Lib.hid (B4.out.trans (hmv.below R2''.out HBB.out B4.out.size))
              clear hmv R2'' R4'' R24
              go_wp2_with (first | (go_at_call 8; refine (HWK.out _ BF.out).mono ?_; rintro e V ⟨rfl, hb9⟩; have HB9 := Lib.hid hb9; clear hb9) | fail)
              go_ret
              exact ⟨rfl, HB9.out⟩
/-- The law. -/
theorem linesPassed_any (A : Option Addr) (n c : Nat) (text : List UInt8) (A2 : Option Addr) (K c2 : Nat) (os : List (List UInt8)) (m : Int) (w : World) (hm : w.cell? ⟨0, 0, none⟩ = some (.int .i64 m)) (h0 : 0 < w.heap.size) (hl : text.length = n) (hK : os.length = K) (hol : ∀ o ∈ os, o.length ≤ maxLen) (hsr : StrRow w A2 os)
    (hcv : ∀ W', Below w.heap.size w W' → (convert 22 9 (.slice A n c)).run Tryd.prog W' = .ok (.string (bs text)) W') : Calls Tryd.prog 5 #[.slice A n c, .slice A2 K c2] w fun e w' => e = .returned (.bool true) ∧ Below w.heap.size w w' := by
  by_cases h : 3000 < n ∨ 40 < K
  · exact passed_long A n c A2 K c2 m w hm h0 h
  · subst hl
    subst hK
    exact passed_short A c text A2 c2 os m w hm h0 (by omega) (by omega) (fun o ho => by have := hol o ho; unfold maxLen at this; omega) hsr hcv
end Go.Proofs.YtokeepmlibolfaaDoor.Ln
