/-
  Layer 11 (lines): the law LinesBack, walked.
-/
import Derived.Test.YtokeepmlibolfaaDoorLnBytes
import Derived.Test.YtokeepmlibolfaaDoorLnBack2
import Derived.Test.YtokeepmlibolfaaDoorLnPlainF
import Derived.Test.YtokeepmlibolfaaDoorLnWorks
import Derived.BigQuiet
import Derived.Deep.QuietTactic
namespace Go.Proofs.YtokeepmlibolfaaDoor.Ln
open Go.RowKit
set_option maxRecDepth 100000

theorem wp_world {P : Program} {c : Code} {Q : Exit → Act → World → Prop} {a : Act} {W : World} (R : World → Prop) (h : R W) (k : ∀ W, R W → Code.wp P c Q a W) : Code.wp P c Q a W := k W h
theorem bs_inj {a b : List UInt8} (h : bs a = bs b) : a = b := by
  have := congrArg (fun s : ByteArray => s.data.toList) h
  simpa using this
set_option maxHeartbeats 1000000 in
theorem back_long (A : Option Addr) (n c : Nat) (m : Int) (w : World) (hm : w.cell? ⟨0, 0, none⟩ = some (.int .i64 m)) (h0 : 0 < w.heap.size) (hn : 5000 < n) : Calls Tryd.prog 4 #[.slice A n c] w fun e w' => e = .returned (.bool true) ∧ Below w.heap.size w w' := by
  have HWK := Lib.hid (works_any m w hm h0)
  have hn2 : (5000 : Int) < (n : Int) := by omega
  clear hm h0 hn
  go_enter Tryd.func4, Tryd.ntmps4
  go_wp2_with (first | (go_at_call 8; refine (HWK.out).mono ?_; rintro e V ⟨rfl, hb⟩; have HB := Lib.hid hb; clear hb) | fail)
  go_ret
  exact ⟨rfl, HB.out⟩
theorem val_cases (v : List UInt8) : v = [] ∨ (∃ v', v = v' ++ [92]) ∨ (∃ v', v = v' ++ [13]) ∨ (∃ v' c, v = v' ++ [c] ∧ (c == (92 : UInt8)) = false ∧ (c == (13 : UInt8)) = false) := by
  rcases List.eq_nil_or_concat v with h | ⟨v', c, h⟩
  · exact .inl h
  · rw [List.concat_eq_append] at h
    by_cases h1 : c = 92
    · subst h1; exact .inr (.inl ⟨v', h⟩)
    · by_cases h2 : c = 13
      · subst h2; exact .inr (.inr (.inl ⟨v', h⟩))
      · exact .inr (.inr (.inr ⟨v', c, h, beq_eq_false_iff_ne.mpr h1, beq_eq_false_iff_ne.mpr h2⟩))
set_option maxHeartbeats 8000000 in
theorem back_short (A : Option Addr) (c : Nat) (text : List UInt8) (m : Int) (w : World) (hm : w.cell? ⟨0, 0, none⟩ = some (.int .i64 m)) (h0 : 0 < w.heap.size) (hn : text.length ≤ 5000)
    (hcv : ∀ W', Below w.heap.size w W' → (convert 22 9 (.slice A text.length c)).run Tryd.prog W' = .ok (.string (bs text)) W') : Calls Tryd.prog 4 #[.slice A text.length c] w fun e w' => e = .returned (.bool true) ∧ Below w.heap.size w w' := by
  have HPA : Hid (Calls Tryd.prog 9 #[.slice A text.length c] w fun e W' => ∃ p1 k1 p2 k2, e = .returned (.tuple #[.slice p1 (parseL text).found.length k1, .slice p2 (parseL text).wrong.length k2]) ∧ RowAt W' p1 4 ((parseL text).found.map lineC) ∧ Below w.heap.size w W') := Lib.hid ((parse_any A c text m w hm h0 hcv (by omega)).mono fun e W' h => by
    obtain ⟨v1, v2, rfl, o1, o2, hb⟩ := h
    obtain ⟨p1, k1, rfl, r1⟩ := lines_at_row o1
    obtain ⟨p2, k2, rfl, _⟩ := diags_at_row o2
    exact ⟨p1, k1, p2, k2, rfl, r1, hb⟩)
  have HWK : Hid (∀ V, Below w.heap.size w V → Calls Tryd.prog 8 #[] V fun e w' => e = .returned (.bool true) ∧ Below w.heap.size w w') := Lib.hid fun V b => by
    refine (works_any m V ((b.cell (p := ⟨0, 0, none⟩) h0).trans hm) (by have := b.size; omega)).mono ?_
    rintro e w' ⟨he, hb'⟩
    exact ⟨he, b.trans (hb'.mono b.size)⟩
  have HPB : Hid (∀ V T, T.length ≤ 65536 → Below w.heap.size w V → (parseL T).wrong = [] → Calls Tryd.prog 9 #[cV V T] (cW V T) fun e W' => ∃ p1 k1 p2 k2, e = .returned (.tuple #[.slice p1 (parseL T).found.length k1, .slice p2 0 k2]) ∧ RowAt W' p1 4 ((parseL T).found.map lineC) ∧ Below V.heap.size V W') := Lib.hid fun V T hT b hw => (parse_lit T m V ((b.cell (p := ⟨0, 0, none⟩) h0).trans hm) (by have := b.size; omega) hT).mono fun e W' h => by
    obtain ⟨v1, v2, rfl, o1, o2, hb⟩ := h
    obtain ⟨p1, k1, rfl, r1⟩ := lines_at_row o1
    rw [hw] at o2
    obtain ⟨p2, k2, rfl⟩ := row_none o2
    exact ⟨p1, k1, p2, k2, rfl, r1, (cW_below T V).trans (hb.mono (by omega))⟩
  have HGD := Lib.hid (parse_good text)
  have hpl := put_len text
  have hNM : (parseL text).found.length ≤ 1000001 := by
    have h1 := pfold_len (wholesL (linesL text) 0 0 [])
    have h2 := wholes_len (linesL text) 0 0 []
    have h3 := tot_lines text (by omega)
    have h4 : ∀ l : List (List UInt8), l.length ≤ tot l := fun l => by
      induction l with
      | nil => exact Nat.le_refl _
      | cons a l ih => show l.length + 1 ≤ a.length + 1 + tot l; omega
    have h5 := h4 (linesL text)
    unfold parseL
    omega
  obtain ⟨fd, hfd⟩ : ∃ fd, (parseL text).found = fd := ⟨_, rfl⟩
  rw [hfd] at HPA HGD hpl hNM
  generalize (parseL text).wrong.length = wl at *
  obtain ⟨N, hN⟩ : ∃ N, fd.length = N := ⟨_, rfl⟩
  rw [hN] at HPA hNM
  have HN := Lib.hid hN
  have HPLN : Hid ((backL [] fd).length ≤ 10002) := Lib.hid (by omega)
  obtain ⟨n, hn'⟩ : ∃ n, text.length = n := ⟨_, rfl⟩
  rw [hn'] at HPA hn
  rw [hn']
  have hn2 : ¬ (5000 : Int) < (n : Int) := by omega
  clear hm h0 hcv hfd hN hpl hn' hn
  go_enter Tryd.func4, Tryd.ntmps4
  go_wp2_with (first
    | (go_at_call 9; refine (HPA.out).mono ?_; clear HPA; rintro e W1 ⟨p1, k1, p2, k2, rfl, hr1, hb1⟩; have R1 := Lib.hid hr1; have B1 := Lib.hid hb1; clear hr1 hb1)
    | fail)
  go_loop [5, 6, 7] (fun s si i => ∃ k : Nat, k ≤ N ∧ i = .int .i64 k ∧ s = .string (bs (backL [] (fd.take k))) ∧ si = .string (bs (lastS [] (fd.take k))) ∧ ∀ e ∈ fd.take k, Ve e.2.2.2) (fun _ _ i => N - (intOf i).toNat)
  case atStart => exact ⟨0, Nat.zero_le _, rfl, rfl, rfl, fun e he => by simp at he⟩
  case round =>
    obtain ⟨k, hk, rfl, rfl, rfl, hve⟩ := hrel
    have HVE := Lib.hid hve
    clear hve
    by_cases hlt : k < N
    · obtain ⟨e, he⟩ : ∃ e, fd[k]? = some e := ⟨_, List.getElem?_eq_getElem (by have := HN.out; omega)⟩
      have hx2 : (fd.map lineC)[k]? = some (lineC e) := by rw [List.getElem?_map, he]; rfl
      obtain ⟨g1, e1, _, hq1⟩ := R1.out k _ hx2
      have hTk : fd.take (k + 1) = fd.take k ++ [e] := by rw [List.take_add_one, he]; rfl
      have hBk := back_app (fd.take k) [] [e]
      have hlb := back_take fd (k + 1)
      rw [hTk] at hlb
      have hlb2 : (backL [] (fd.take k ++ [e])).length ≤ 10002 := Nat.le_trans hlb HPLN.out
      have HLS : Hid (lastS [] (fd.take (k + 1)) = e.2.1) := Lib.hid (by rw [hTk]; exact last_app _ _ _)
      have HVK : Hid (Ve e.2.2.2 → ∀ x ∈ fd.take (k + 1), Ve x.2.2.2) := Lib.hid fun hv x hx => by
        rw [hTk] at hx
        rcases List.mem_append.mp hx with hx | hx
        · exact HVE.out x hx
        · rw [List.mem_singleton.mp hx]; exact hv
      rw [back_one] at hBk
      rw [hBk] at hlb2
      have HBT : Hid (backL [] (fd.take (k + 1)) = backL [] (fd.take k) ++ ((if e.2.1 = lastS [] (fd.take k) then [] else scL e.2.1 ++ [10]) ++ (kvL e ++ [10]))) := Lib.hid (by rw [hTk]; exact hBk)
      obtain ⟨x0, sec, key, val⟩ := e
      have a1 : W1.cell? ⟨g1, k * 4 + 1, none⟩ = some (.string (bs sec)) := hq1 1 _ rfl
      have a2 : W1.cell? ⟨g1, k * 4 + 2, none⟩ = some (.string (bs key)) := hq1 2 _ rfl
      have a3 : W1.cell? ⟨g1, k * 4 + 3, none⟩ = some (.string (bs val)) := hq1 3 _ rfl
      subst e1
      clear hq1 hx2 hTk hBk hlb R1
      simp only at HBT HLS HVK hlb2
      generalize backL [] (fd.take k) = A0 at *
      generalize hLS : lastS [] (fd.take k) = LS at *
      unfold kvL scL at HBT hlb2
      simp only at HBT hlb2
      have hvl : val.length ≤ 1000000 := by simp only [List.length_append, List.length_cons, List.length_nil] at hlb2; omega
      rcases val_cases val with hv | ⟨v', hv⟩ | ⟨v', hv⟩ | ⟨v', c', hv, hc1, hc2⟩
      · by_cases hse : sec = LS
        · subst hv
          have hem : (bs ([] : List UInt8)).toList.isEmpty = true := bs_empty []
          have HVK2 := Lib.hid (HVK.out (.inl rfl))
          obtain ⟨L1, hL1⟩ : ∃ L, A0 ++ key = L := ⟨_, rfl⟩
          obtain ⟨L2, hL2⟩ : ∃ L, L1 ++ [61] = L := ⟨_, rfl⟩
          obtain ⟨L3, hL3⟩ : ∃ L, L2 ++ [] = L := ⟨_, rfl⟩
          obtain ⟨L4, hL4⟩ : ∃ L, L3 ++ [10] = L := ⟨_, rfl⟩
          have hfin : L4 = A0 ++ ((if sec = LS then [] else 91 :: (sec ++ [93]) ++ [10]) ++ (key ++ 61 :: [] ++ [10])) := by rw [if_pos hse]; rw [← hL4]; rw [← hL3]; rw [← hL2]; rw [← hL1]; simp
          rw [← hfin] at hlb2 HBT
          clear hfin
          have hl4 : L4.length ≤ 10002 := hlb2
          have hl3 : L3.length ≤ 10002 := by have := congrArg List.length hL4; rw [List.length_append] at this; omega
          have hl2 : L2.length ≤ 10002 := by have := congrArg List.length hL3; rw [List.length_append] at this; omega
          have hl1 : L1.length ≤ 10002 := by have := congrArg List.length hL2; rw [List.length_append] at this; omega
          have ha1 := add_bs A0 key L1 hL1 (by omega)
          have ha2 := add_bs L1 [61] L2 hL2 (by omega)
          have ha3 := add_bs L2 [] L3 hL3 (by omega)
          have ha4 := add_bs L3 [10] L4 hL4 (by omega)
          clear hL1 hL2 hL3 hL4 hl1 hl2 hl3 hl4
          generalize bs L1 = T1 at *
          generalize bs L2 = T2 at *
          generalize bs L3 = T3 at *
          generalize hT4 : bs L4 = T4 at *
          have hss : bs sec = bs LS := by rw [hse]
          rw [hss] at a1
          have HLS2 : Hid (bs LS = bs (lastS [] (fd.take (k + 1)))) := Lib.hid (by rw [HLS.out, hse])
          clear hse
          clear hss
          clear hlb2 HLS HVK
          generalize bs A0 = S0 at *
          generalize bs LS = SL at *
          generalize bs sec = SS at *
          generalize bs key = SK at *
          clear hLS
          go_wp2_with fail
          go_round
          case rel => exact ⟨k + 1, by omega, by go_num, by rw [HBT.out, hT4], congrArg Value.string HLS2.out, HVK2.out⟩
          case measure => simp only [intOf]; omega
        · subst hv
          have hem : (bs ([] : List UInt8)).toList.isEmpty = true := bs_empty []
          have HVK2 := Lib.hid (HVK.out (.inl rfl))
          have hsn2 : ((bs sec).toList == (bs LS).toList) = false := beq_eq_false_iff_ne.mpr (fun h => hse (by rw [Lib.toList_data, Lib.toList_data, bs_list, bs_list] at h; exact h))
          have hsn3 : ((bs sec).toList != (bs LS).toList) = true := congrArg not hsn2
          obtain ⟨L1, hL1⟩ : ∃ L, A0 ++ [91] = L := ⟨_, rfl⟩
          obtain ⟨L2, hL2⟩ : ∃ L, L1 ++ sec = L := ⟨_, rfl⟩
          obtain ⟨L3, hL3⟩ : ∃ L, L2 ++ [93, 10] = L := ⟨_, rfl⟩
          obtain ⟨L4, hL4⟩ : ∃ L, L3 ++ key = L := ⟨_, rfl⟩
          obtain ⟨L5, hL5⟩ : ∃ L, L4 ++ [61] = L := ⟨_, rfl⟩
          obtain ⟨L6, hL6⟩ : ∃ L, L5 ++ [] = L := ⟨_, rfl⟩
          obtain ⟨L7, hL7⟩ : ∃ L, L6 ++ [10] = L := ⟨_, rfl⟩
          have hfin : L7 = A0 ++ ((if sec = LS then [] else 91 :: (sec ++ [93]) ++ [10]) ++ (key ++ 61 :: [] ++ [10])) := by rw [if_neg hse]; rw [← hL7]; rw [← hL6]; rw [← hL5]; rw [← hL4]; rw [← hL3]; rw [← hL2]; rw [← hL1]; simp
          rw [← hfin] at hlb2 HBT
          clear hfin
          have hl7 : L7.length ≤ 10002 := hlb2
          have hl6 : L6.length ≤ 10002 := by have := congrArg List.length hL7; rw [List.length_append] at this; omega
          have hl5 : L5.length ≤ 10002 := by have := congrArg List.length hL6; rw [List.length_append] at this; omega
          have hl4 : L4.length ≤ 10002 := by have := congrArg List.length hL5; rw [List.length_append] at this; omega
          have hl3 : L3.length ≤ 10002 := by have := congrArg List.length hL4; rw [List.length_append] at this; omega
          have hl2 : L2.length ≤ 10002 := by have := congrArg List.length hL3; rw [List.length_append] at this; omega
          have hl1 : L1.length ≤ 10002 := by have := congrArg List.length hL2; rw [List.length_append] at this; omega
          have ha1 := add_bs A0 [91] L1 hL1 (by omega)
          have ha2 := add_bs L1 sec L2 hL2 (by omega)
          have ha3 := add_bs L2 [93, 10] L3 hL3 (by omega)
          have ha4 := add_bs L3 key L4 hL4 (by omega)
          have ha5 := add_bs L4 [61] L5 hL5 (by omega)
          have ha6 := add_bs L5 [] L6 hL6 (by omega)
          have ha7 := add_bs L6 [10] L7 hL7 (by omega)
          clear hL1 hL2 hL3 hL4 hL5 hL6 hL7 hl1 hl2 hl3 hl4 hl5 hl6 hl7
          generalize bs L1 = T1 at *
          generalize bs L2 = T2 at *
          generalize bs L3 = T3 at *
          generalize bs L4 = T4 at *
          generalize bs L5 = T5 at *
          generalize bs L6 = T6 at *
          generalize hT7 : bs L7 = T7 at *
          have HLS2 : Hid (bs sec = bs (lastS [] (fd.take (k + 1)))) := Lib.hid (by rw [HLS.out])
          clear hse
          clear hlb2 HLS HVK
          generalize bs A0 = S0 at *
          generalize bs LS = SL at *
          generalize bs sec = SS at *
          generalize bs key = SK at *
          clear hLS
          go_wp2_with fail
          go_round
          case rel => exact ⟨k + 1, by omega, by go_num, by rw [HBT.out, hT7], congrArg Value.string HLS2.out, HVK2.out⟩
          case measure => simp only [intOf]; omega
      · clear hlb2 HBT HLS HVK
        subst hv
        have hsz : (bs (v' ++ [92])).size = v'.length + 1 := by rw [bs_size, List.length_append]; rfl
        have hxz : v'.length < (bs (v' ++ [92])).size := by omega
        have hxb : (bs (v' ++ [92]))[v'.length] = 92 := by rw [at_list hxz, List.getD_eq_getElem?_getD]; simp
        have hem : (bs (v' ++ [92])).toList.isEmpty = false := by rw [bs_empty]; simp
        have hvl : v'.length ≤ 1000000 := by rw [List.length_append] at hvl; omega
        generalize bs (v' ++ [92]) = V at *
        obtain ⟨q, hq⟩ : ∃ q, v'.length = q := ⟨_, rfl⟩
        simp only [hq] at hsz hxz hxb hvl
        have hqw1 : wrap64 ((V.size : Int) - 1) = (q : Int) := by rw [hsz]; unfold wrap64; omega
        generalize bs A0 = S0 at *
        generalize bs LS = SL at *
        generalize bs sec = SS at *
        generalize bs key = SK at *
        go_wp2_with (first | (go_at_call 8; refine (HWK.out W1 B1.out).mono ?_; rintro e V ⟨rfl, hb9⟩; have HB9 := Lib.hid hb9; clear hb9) | fail)
        go_ret
        exact ⟨rfl, HB9.out⟩
      · clear hlb2 HBT HLS HVK
        subst hv
        have hsz : (bs (v' ++ [13])).size = v'.length + 1 := by rw [bs_size, List.length_append]; rfl
        have hxz : v'.length < (bs (v' ++ [13])).size := by omega
        have hxb : (bs (v' ++ [13]))[v'.length] = 13 := by rw [at_list hxz, List.getD_eq_getElem?_getD]; simp
        have hem : (bs (v' ++ [13])).toList.isEmpty = false := by rw [bs_empty]; simp
        have hvl : v'.length ≤ 1000000 := by rw [List.length_append] at hvl; omega
        generalize bs (v' ++ [13]) = V at *
        obtain ⟨q, hq⟩ : ∃ q, v'.length = q := ⟨_, rfl⟩
        simp only [hq] at hsz hxz hxb hvl
        have hqw1 : wrap64 ((V.size : Int) - 1) = (q : Int) := by rw [hsz]; unfold wrap64; omega
        generalize bs A0 = S0 at *
        generalize bs LS = SL at *
        generalize bs sec = SS at *
        generalize bs key = SK at *
        go_wp2_with (first | (go_at_call 8; refine (HWK.out W1 B1.out).mono ?_; rintro e V ⟨rfl, hb9⟩; have HB9 := Lib.hid hb9; clear hb9) | fail)
        go_ret
        exact ⟨rfl, HB9.out⟩
      · by_cases hse : sec = LS
        · have HVK2 := Lib.hid (HVK.out (.inr ⟨v', c', hv, hc1, hc2⟩))
          have hsz : (bs val).size = v'.length + 1 := by rw [bs_size, hv, List.length_append]; rfl
          have hxz : v'.length < (bs val).size := by omega
          have hxb : (bs val)[v'.length] = c' := by rw [at_list hxz, hv, List.getD_eq_getElem?_getD]; simp
          have hem : (bs val).toList.isEmpty = false := by rw [bs_empty, hv]; simp
          have hcc1 : ((c'.toNat : Int) == 92) = false := (u8_is c' 92 (by decide)).trans hc1
          have hcc2 : ((c'.toNat : Int) == 13) = false := (u8_is c' 13 (by decide)).trans hc2
          have hvl2 : v'.length ≤ 1000000 := by rw [hv, List.length_append] at hvl; omega
          clear hv hc1 hc2
          obtain ⟨L1, hL1⟩ : ∃ L, A0 ++ key = L := ⟨_, rfl⟩
          obtain ⟨L2, hL2⟩ : ∃ L, L1 ++ [61] = L := ⟨_, rfl⟩
          obtain ⟨L3, hL3⟩ : ∃ L, L2 ++ val = L := ⟨_, rfl⟩
          obtain ⟨L4, hL4⟩ : ∃ L, L3 ++ [10] = L := ⟨_, rfl⟩
          have hfin : L4 = A0 ++ ((if sec = LS then [] else 91 :: (sec ++ [93]) ++ [10]) ++ (key ++ 61 :: val ++ [10])) := by rw [if_pos hse]; rw [← hL4]; rw [← hL3]; rw [← hL2]; rw [← hL1]; simp
          rw [← hfin] at hlb2 HBT
          clear hfin
          have hl4 : L4.length ≤ 10002 := hlb2
          have hl3 : L3.length ≤ 10002 := by have := congrArg List.length hL4; rw [List.length_append] at this; omega
          have hl2 : L2.length ≤ 10002 := by have := congrArg List.length hL3; rw [List.length_append] at this; omega
          have hl1 : L1.length ≤ 10002 := by have := congrArg List.length hL2; rw [List.length_append] at this; omega
          have ha1 := add_bs A0 key L1 hL1 (by omega)
          have ha2 := add_bs L1 [61] L2 hL2 (by omega)
          have ha3 := add_bs L2 val L3 hL3 (by omega)
          have ha4 := add_bs L3 [10] L4 hL4 (by omega)
          clear hL1 hL2 hL3 hL4 hl1 hl2 hl3 hl4
          generalize bs L1 = T1 at *
          generalize bs L2 = T2 at *
          generalize bs L3 = T3 at *
          generalize hT4 : bs L4 = T4 at *
          have hss : bs sec = bs LS := by rw [hse]
          rw [hss] at a1
          have HLS2 : Hid (bs LS = bs (lastS [] (fd.take (k + 1)))) := Lib.hid (by rw [HLS.out, hse])
          clear hse
          clear hss
          clear hlb2 HLS HVK
          generalize bs val = V at *
          obtain ⟨q, hq⟩ : ∃ q, v'.length = q := ⟨_, rfl⟩
          simp only [hq] at hsz hxz hxb hvl2
          have hqw1 : wrap64 ((V.size : Int) - 1) = (q : Int) := by rw [hsz]; unfold wrap64; omega
          generalize bs A0 = S0 at *
          generalize bs LS = SL at *
          generalize bs sec = SS at *
          generalize bs key = SK at *
          clear hLS
          go_wp2_with fail
          go_round
          case rel => exact ⟨k + 1, by omega, by go_num, by rw [HBT.out, hT4], congrArg Value.string HLS2.out, HVK2.out⟩
          case measure => simp only [intOf]; omega
        · have HVK2 := Lib.hid (HVK.out (.inr ⟨v', c', hv, hc1, hc2⟩))
          have hsz : (bs val).size = v'.length + 1 := by rw [bs_size, hv, List.length_append]; rfl
          have hxz : v'.length < (bs val).size := by omega
          have hxb : (bs val)[v'.length] = c' := by rw [at_list hxz, hv, List.getD_eq_getElem?_getD]; simp
          have hem : (bs val).toList.isEmpty = false := by rw [bs_empty, hv]; simp
          have hcc1 : ((c'.toNat : Int) == 92) = false := (u8_is c' 92 (by decide)).trans hc1
          have hcc2 : ((c'.toNat : Int) == 13) = false := (u8_is c' 13 (by decide)).trans hc2
          have hvl2 : v'.length ≤ 1000000 := by rw [hv, List.length_append] at hvl; omega
          clear hv hc1 hc2
          have hsn2 : ((bs sec).toList == (bs LS).toList) = false := beq_eq_false_iff_ne.mpr (fun h => hse (by rw [Lib.toList_data, Lib.toList_data, bs_list, bs_list] at h; exact h))
          have hsn3 : ((bs sec).toList != (bs LS).toList) = true := congrArg not hsn2
          obtain ⟨L1, hL1⟩ : ∃ L, A0 ++ [91] = L := ⟨_, rfl⟩
          obtain ⟨L2, hL2⟩ : ∃ L, L1 ++ sec = L := ⟨_, rfl⟩
          obtain ⟨L3, hL3⟩ : ∃ L, L2 ++ [93, 10] = L := ⟨_, rfl⟩
          obtain ⟨L4, hL4⟩ : ∃ L, L3 ++ key = L := ⟨_, rfl⟩
          obtain ⟨L5, hL5⟩ : ∃ L, L4 ++ [61] = L := ⟨_, rfl⟩
          obtain ⟨L6, hL6⟩ : ∃ L, L5 ++ val = L := ⟨_, rfl⟩
          obtain ⟨L7, hL7⟩ : ∃ L, L6 ++ [10] = L := ⟨_, rfl⟩
          have hfin : L7 = A0 ++ ((if sec = LS then [] else 91 :: (sec ++ [93]) ++ [10]) ++ (key ++ 61 :: val ++ [10])) := by rw [if_neg hse]; rw [← hL7]; rw [← hL6]; rw [← hL5]; rw [← hL4]; rw [← hL3]; rw [← hL2]; rw [← hL1]; simp
          rw [← hfin] at hlb2 HBT
          clear hfin
          have hl7 : L7.length ≤ 10002 := hlb2
          have hl6 : L6.length ≤ 10002 := by have := congrArg List.length hL7; rw [List.length_append] at this; omega
          have hl5 : L5.length ≤ 10002 := by have := congrArg List.length hL6; rw [List.length_append] at this; omega
          have hl4 : L4.length ≤ 10002 := by have := congrArg List.length hL5; rw [List.length_append] at this; omega
          have hl3 : L3.length ≤ 10002 := by have := congrArg List.length hL4; rw [List.length_append] at this; omega
          have hl2 : L2.length ≤ 10002 := by have := congrArg List.length hL3; rw [List.length_append] at this; omega
          have hl1 : L1.length ≤ 10002 := by have := congrArg List.length hL2; rw [List.length_append] at this; omega
          have ha1 := add_bs A0 [91] L1 hL1 (by omega)
          have ha2 := add_bs L1 sec L2 hL2 (by omega)
          have ha3 := add_bs L2 [93, 10] L3 hL3 (by omega)
          have ha4 := add_bs L3 key L4 hL4 (by omega)
          have ha5 := add_bs L4 [61] L5 hL5 (by omega)
          have ha6 := add_bs L5 val L6 hL6 (by omega)
          have ha7 := add_bs L6 [10] L7 hL7 (by omega)
          clear hL1 hL2 hL3 hL4 hL5 hL6 hL7 hl1 hl2 hl3 hl4 hl5 hl6 hl7
          generalize bs L1 = T1 at *
          generalize bs L2 = T2 at *
          generalize bs L3 = T3 at *
          generalize bs L4 = T4 at *
          generalize bs L5 = T5 at *
          generalize bs L6 = T6 at *
          generalize hT7 : bs L7 = T7 at *
          have HLS2 : Hid (bs sec = bs (lastS [] (fd.take (k + 1)))) := Lib.hid (by rw [HLS.out])
          clear hse
          clear hlb2 HLS HVK
          generalize bs val = V at *
          obtain ⟨q, hq⟩ : ∃ q, v'.length = q := ⟨_, rfl⟩
          simp only [hq] at hsz hxz hxb hvl2
          have hqw1 : wrap64 ((V.size : Int) - 1) = (q : Int) := by rw [hsz]; unfold wrap64; omega
          generalize bs A0 = S0 at *
          generalize bs LS = SL at *
          generalize bs sec = SS at *
          generalize bs key = SK at *
          clear hLS
          go_wp2_with fail
          go_round
          case rel => exact ⟨k + 1, by omega, by go_num, by rw [HBT.out, hT7], congrArg Value.string HLS2.out, HVK2.out⟩
          case measure => simp only [intOf]; omega
    · obtain rfl : k = N := by omega
      have hkk : ¬ (k : Int) < (k : Int) := by omega
      have hfl : fd.take k = fd := List.take_of_length_le (Nat.le_of_eq HN.out)
      have hve := HVE.out
      rw [hfl] at hve
      obtain ⟨hw, hmap⟩ := parse_put fd (fun e he => ⟨HGD.out e he, hve e he⟩)
      rw [hfl]
      have hPB := HPB.out W1 (backL [] fd) (by have := HPLN.out; omega) B1.out hw
      have hfl2 : (parseL (backL [] fd)).found.length = k := by
        have h := congrArg List.length hmap
        rw [List.length_map, List.length_map] at h
        have := HN.out
        omega
      have hcv2 := conv_run (backL [] fd) W1
      obtain ⟨f2, hf2⟩ : ∃ f2, (parseL (backL [] fd)).found = f2 := ⟨_, rfl⟩
      rw [hfl2, hf2] at hPB
      rw [hf2] at hmap hfl2
      have HPB2 := Lib.hid hPB
      have HMAP := Lib.hid hmap
      have HF2 := Lib.hid hfl2
      clear hPB hmap hfl2 hf2 hw hve hfl HPB HVE HGD
      generalize bs (backL [] fd) = TX at *
      generalize bs (lastS [] fd) = LX at *
      obtain ⟨CV, hCV⟩ : ∃ v, cV W1 (backL [] fd) = v := ⟨_, rfl⟩
      obtain ⟨CW, hCW⟩ : ∃ v, cW W1 (backL [] fd) = v := ⟨_, rfl⟩
      rw [hCV, hCW] at HPB2 hcv2
      clear hCV hCW
      go_wp2_with (first
        | (go_at_call 9; refine (HPB2.out).mono ?_; clear HPB2; rintro e W2 ⟨p3, k3, p4, k4, rfl, hr3, hb3⟩; have R3 := Lib.hid hr3; have B3 := Lib.hid hb3; have R1' := Lib.hid (R1.out.keep hb3); have B2 := Lib.hid (B1.out.trans (hb3.mono B1.out.size)); clear hr3 hb3)
        | fail)
      clear hcv2
      go_loopw [11] (fun i wx => ∃ j : Nat, j ≤ k ∧ i = .int .i64 j ∧ Below W2.heap.size W2 wx) (fun i _ => k - (intOf i).toNat)
      case atStart => exact ⟨0, Nat.zero_le _, rfl, Below.refl _ _⟩
      case round =>
        obtain ⟨j, hj, rfl, hb⟩ := hrel
        by_cases hjm : j < k
        · obtain ⟨e, he⟩ : ∃ e, fd[j]? = some e := ⟨_, List.getElem?_eq_getElem (by have := HN.out; omega)⟩
          obtain ⟨d, hd⟩ : ∃ d, f2[j]? = some d := ⟨_, List.getElem?_eq_getElem (by have := HF2.out; omega)⟩
          have hde : d.2 = e.2 := by
            have h := congrArg (fun l => l[j]?) HMAP.out
            simp only [List.getElem?_map, he, hd, Option.map_some] at h
            exact Option.some.inj h
          obtain ⟨g1, e1, hg1, hq1⟩ := (R1'.out.keep hb) j (lineC e) (by rw [List.getElem?_map, he]; rfl)
          obtain ⟨g3, e3, hg3, hq3⟩ := (R3.out.keep hb) j (lineC d) (by rw [List.getElem?_map, hd]; rfl)
          obtain ⟨x0, sec, key, val⟩ := e
          obtain ⟨d0, ds⟩ := d
          have hde : ds = (sec, key, val) := hde
          subst hde
          have a0 : wr.cell? ⟨g1, j * 4, none⟩ = some (.int .i64 x0) := hq1 0 _ rfl
          have a1 : wr.cell? ⟨g1, j * 4 + 1, none⟩ = some (.string (bs sec)) := hq1 1 _ rfl
          have a2 : wr.cell? ⟨g1, j * 4 + 2, none⟩ = some (.string (bs key)) := hq1 2 _ rfl
          have a3 : wr.cell? ⟨g1, j * 4 + 3, none⟩ = some (.string (bs val)) := hq1 3 _ rfl
          have b0 : wr.cell? ⟨g3, j * 4, none⟩ = some (.int .i64 d0) := hq3 0 _ rfl
          have b1 : wr.cell? ⟨g3, j * 4 + 1, none⟩ = some (.string (bs sec)) := hq3 1 _ rfl
          have b2 : wr.cell? ⟨g3, j * 4 + 2, none⟩ = some (.string (bs key)) := hq3 2 _ rfl
          have b3 : wr.cell? ⟨g3, j * 4 + 3, none⟩ = some (.string (bs val)) := hq3 3 _ rfl
          subst e1
          subst e3
          have HB := Lib.hid hb
          clear hq1 hq3 he hd hb R1' R3 HMAP
          generalize bs sec = SS at *
          generalize bs key = SK at *
          generalize bs val = SV at *
          go_upto_region 23 with (fail)
          have hold : ∀ (q : Addr) (v : Value) (o : Obj), q.block < wr.heap.size → wr.cell? q = some v → (wr.alloc o).cell? q = some v := fun q v o hq hv => (World.cell?_alloc_lt wr o q hq).trans hv
          have n0 : (wr.alloc (.cells #[.int .i64 (x0 : Int), .string SS, .string SK, .string SV] 33)).cell? ⟨wr.heap.size, 0, none⟩ = some (.int .i64 (x0 : Int)) := by simp
          have n1 : (wr.alloc (.cells #[.int .i64 (x0 : Int), .string SS, .string SK, .string SV] 33)).cell? ⟨wr.heap.size, 1, none⟩ = some (.string SS) := by simp
          have n2 : (wr.alloc (.cells #[.int .i64 (x0 : Int), .string SS, .string SK, .string SV] 33)).cell? ⟨wr.heap.size, 2, none⟩ = some (.string SK) := by simp
          have n3 : (wr.alloc (.cells #[.int .i64 (x0 : Int), .string SS, .string SK, .string SV] 33)).cell? ⟨wr.heap.size, 3, none⟩ = some (.string SV) := by simp
          refine wp_world (R := fun X => X.cell? ⟨wr.heap.size, 0, none⟩ = some (.int .i64 (x0 : Int)) ∧ X.cell? ⟨wr.heap.size, 1, none⟩ = some (.string SS) ∧ X.cell? ⟨wr.heap.size, 2, none⟩ = some (.string SK) ∧ X.cell? ⟨wr.heap.size, 3, none⟩ = some (.string SV) ∧ X.cell? ⟨g1, j * 4, none⟩ = some (.int .i64 (x0 : Int)) ∧ X.cell? ⟨g1, j * 4 + 1, none⟩ = some (.string SS) ∧ X.cell? ⟨g1, j * 4 + 2, none⟩ = some (.string SK) ∧ X.cell? ⟨g1, j * 4 + 3, none⟩ = some (.string SV) ∧ Below W2.heap.size W2 X) ⟨n0, n1, n2, n3, hold _ _ _ hg1 a0, hold _ _ _ hg1 a1, hold _ _ _ hg1 a2, hold _ _ _ hg1 a3, HB.out.alloc HB.out.size _⟩ ?_
          clear n0 n1 n2 n3 hold a0 a1 a2 a3 b0 b1 b2 b3 hg1 hg3 HB
          generalize wr.heap.size = gn
          rintro X ⟨n0, n1, n2, n3, a0, a1, a2, a3, hbx⟩
          have HBX := Lib.hid hbx
          clear hbx
          go_quiet (fail)
          go_wp2
          go_roundw
          case rel => exact ⟨j + 1, by omega, by go_num, bl_drewN HBX.out _⟩
          case measure => simp only [intOf]; omega
        · obtain rfl : j = k := by omega
          have hjj : ¬ (j : Int) < (j : Int) := by omega
          have HB := Lib.hid (B2.out.trans (hb.mono B2.out.size))
          clear hb
          go_wp2_with (first | (go_at_call 8; refine (HWK.out _ HB.out).mono ?_; rintro e V ⟨rfl, hb9⟩; have HB9 := Lib.hid hb9; clear hb9) | fail)
          go_ret
          exact ⟨rfl, HB9.out⟩
/-- The law. -/
theorem linesBack_any (A : Option Addr) (n c : Nat) (text : List UInt8) (m : Int) (w : World) (hm : w.cell? ⟨0, 0, none⟩ = some (.int .i64 m)) (h0 : 0 < w.heap.size) (hl : text.length = n)
    (hcv : ∀ W', Below w.heap.size w W' → (convert 22 9 (.slice A n c)).run Tryd.prog W' = .ok (.string (bs text)) W') : Calls Tryd.prog 4 #[.slice A n c] w fun e w' => e = .returned (.bool true) ∧ Below w.heap.size w w' := by
  by_cases h : 5000 < n
  · exact back_long A n c m w hm h0 h
  · subst hl
    exact back_short A c text m w hm h0 (by omega) hcv
end Go.Proofs.YtokeepmlibolfaaDoor.Ln
