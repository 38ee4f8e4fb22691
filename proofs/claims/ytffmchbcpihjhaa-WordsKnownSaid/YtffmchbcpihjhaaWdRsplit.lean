/-
  Layer 12 (words): the document's Split tells what the machine tells.
-/
import Derived.Test.YtffmchbcpihjhaaWdRescX
namespace Go.Proofs.Ytffmchbcpihjhaa.Wd
open Go.RowKit
set_option maxRecDepth 100000

/-- What the document's Split tells. -/
def RTold (s : List UInt8) (base : Nat) (W : World) (v : Value) : Prop := match splitL s with
  | none => v = .slice none 0 0
  | some l => OwnR W base 9 1 v (l.map cellT)
theorem blank_step (ws : List (List UInt8)) (c : UInt8) (hb : blk c = true) (t : List UInt8) : run (some ⟨.B, ws, []⟩) (c :: t) = run (some ⟨.B, ws, []⟩) t := by
  rw [run_cons]; unfold step; simp only; rw [if_pos hb]
theorem u8_zero (q : UInt8) : ((q.toNat : Int) == 0) = (q == 0) := u8_is q 0 (by decide)
/-- Between two words. -/
structure Ro (V : World) (s : List UInt8) (ws : List (List UInt8)) (k : Nat) (u : Value) (W : World) : Prop where
  own : OwnR W V.heap.size 9 1 u (ws.map cellT)
  bel : Below V.heap.size V W
  kn : k ≤ s.length
  wk : ws.length ≤ k
  tel : splitL s = fin (run (some ⟨.B, ws, []⟩) (s.drop k))
/-- In a word, from k on. -/
structure Ri (V : World) (s : List UInt8) (ws : List (List UInt8)) (k : Nat) (q : UInt8) (acc : List UInt8) (j : Nat) (u : Value) (W : World) : Prop where
  own : OwnR W V.heap.size 5 1 u (acc.map cellB)
  bel : Below V.heap.size V W
  kj : k ≤ j
  jn : j ≤ s.length
  aj : acc.length ≤ j
  qq : q = 0 ∨ q = 34 ∨ q = 39
  tel : splitL s = fin (run (some ⟨.Q q, ws, acc⟩) (s.drop j))
theorem Ri.quote {V : World} {s : List UInt8} {ws : List (List UInt8)} {k : Nat} {acc : List UInt8} {j : Nat} {u : Value} {W : World} (h : Ri V s ws k 0 acc j u W) (hj : j < s.length) (hq : qt (s.getD j 0) = true) : Ri V s ws k (s.getD j 0) acc (j + 1) u W :=
  ⟨h.own, h.bel, by have := h.kj; omega, by omega, by have := h.aj; omega, by unfold qt at hq; rw [Bool.or_eq_true, beq_iff_eq, beq_iff_eq] at hq; exact .inr hq, by rw [h.tel, drop_one hj, in0_quote _ hq]⟩
theorem Ri.close {V : World} {s : List UInt8} {ws : List (List UInt8)} {k : Nat} {q : UInt8} {acc : List UInt8} {j : Nat} {u : Value} {W : World} (h : Ri V s ws k q acc j u W) (hj : j < s.length) (hq : q ≠ 0) (hc : s.getD j 0 = q) : Ri V s ws k 0 acc (j + 1) u W :=
  ⟨h.own, h.bel, by have := h.kj; omega, by omega, by have := h.aj; omega, .inl rfl, by rw [h.tel, drop_one hj, hc, inq_end q hq]⟩
theorem Ri.put {V : World} {s : List UInt8} {ws : List (List UInt8)} {k : Nat} {q : UInt8} {acc : List UInt8} {j : Nat} {u u' : Value} {W W' : World} (h : Ri V s ws k q acc j u W) (hj : j < s.length) (hs : ∀ t, run (some ⟨.Q q, ws, acc⟩) (s.getD j 0 :: t) = run (some ⟨.Q q, ws, acc ++ [s.getD j 0]⟩) t) (hown : OwnR W' V.heap.size 5 1 u' (acc.map cellB ++ [cellB (s.getD j 0)])) (hb : Below V.heap.size W W') : Ri V s ws k q (acc ++ [s.getD j 0]) (j + 1) u' W' :=
  ⟨by rw [List.map_append]; exact hown, h.bel.trans hb, by have := h.kj; omega, by omega, by have := h.aj; rw [List.length_append]; simp; omega, h.qq, by rw [h.tel, drop_one hj, hs]⟩
theorem Ri.esc {V : World} {s : List UInt8} {ws : List (List UInt8)} {k : Nat} {q : UInt8} {acc : List UInt8} {j : Nat} {u : Value} {W : World} (h : Ri V s ws k q acc j u W) (hj : j < s.length) (hc : s.getD j 0 = 92) (hq : q = 0 ∨ q = 34) : splitL s = fin (run (some ⟨.E q, ws, acc⟩) (s.drop (j + 1))) := by
  rw [h.tel, drop_one hj, hc]
  rcases hq with rfl | rfl
  · rfl
  · rfl
theorem Ri.put2 {V : World} {s : List UInt8} {ws : List (List UInt8)} {k m : Nat} {q : UInt8} {acc : List UInt8} {j : Nat} {u u' : Value} {W W' : World} {y : UInt8} (h : Ri V s ws k q acc j u W) (hE : splitL s = fin (run (some ⟨.E q, ws, acc⟩) (s.drop (j + 1)))) (hm : 1 ≤ m) (hjm : j + 1 + m ≤ s.length) (hs : ∀ q ws cur, run (some ⟨.E q, ws, cur⟩) (s.drop (j + 1)) = run (some ⟨.Q q, ws, cur ++ [y]⟩) (s.drop (j + 1 + m))) (hown : OwnR W' V.heap.size 5 1 u' (acc.map cellB ++ [cellB y])) (hb : Below V.heap.size W W') : Ri V s ws k q (acc ++ [y]) (j + 1 + m) u' W' :=
  ⟨by rw [List.map_append]; exact hown, h.bel.trans hb, by have := h.kj; omega, hjm, by have := h.aj; rw [List.length_append]; simp; omega, h.qq, by rw [hE, hs]⟩
/-- Behind an append onto a row of one's own. -/
theorem own_below {W W' : World} {base sz : Nat} {t : TypeId} {v : Value} {xs : List (List Value)} (h : OwnR W base t sz v xs) (hB : base ≤ W.heap.size) (o : Obj) (hg : (W.alloc o).grownBy W' v.ownBlock) : Below base W W' := by
  have hs : (W.alloc o).heap.size = W.heap.size + 1 := by show (W.heap.push _).size = _; simp only [Array.size_push]
  exact ((Below.refl _ W).alloc hB o).trans ((h.alloc o).below hg (Nat.le_refl _) (by rw [hs]; omega))
set_option maxHeartbeats 8000000 in
theorem rsplit_any (s : List UInt8) (hl : s.length ≤ 1000000) (V : World) : Calls Try.prog 11 #[.string (bs s)] V fun e V' => ∃ v, e = .returned (.tuple #[v, .bool (splitL s).isSome]) ∧ Below V.heap.size V V' ∧ RTold s V.heap.size V' v := by
  have hsz : (bs s).size = s.length := rfl
  have HSZ := Lib.hid hsz
  have HL := Lib.hid hl
  have HRE := Lib.hid (fun i (hi : i ≤ s.length) => resc_any s i hi hl)
  have HGET : Hid (∀ k (hk : k < (bs s).size), (bs s)[k] = s.getD k 0) := Lib.hid fun k hk => at_list hk
  clear hsz hl
  generalize bs s = S at *
  obtain ⟨n, hn⟩ : ∃ n, S.size = n := ⟨_, rfl⟩
  have HN : Hid (S.size = n ∧ s.length = n ∧ n ≤ 1000000) := Lib.hid ⟨hn, by have := HSZ.out; omega, by have := HSZ.out; have := HL.out; omega⟩
  have hnb : (n : Int) ≤ 1000000 := by have := HN.out.2.2; omega
  clear HSZ HL
  go_enter Try.func11, Try.ntmps11
  go_wp2_with fail
  go_loopw [4, 5] (fun u i wr => ∃ (ws : List (List UInt8)) (k : Nat), i = .int .i64 k ∧ Ro V s ws k u wr) (fun _ i _ => n - (intOf i).toNat)
  case atStart => exact ⟨[], 0, rfl, OwnR.nil _ _ _ _, Below.refl _ _, Nat.zero_le _, Nat.le_refl _, rfl⟩
  case round =>
    obtain ⟨ws, k, rfl, hro⟩ := hrel
    obtain ⟨p, cp, hu⟩ := own_slice hro.own
    obtain ⟨z, hz⟩ : ∃ z, (ws.map cellT).length = z := ⟨_, rfl⟩
    rw [hz] at hu
    subst hu
    clear hz
    have HRO := Lib.hid hro
    have hkn : k ≤ n := by have := hro.kn; have := HN.out; omega
    clear hro
    by_cases hk : k < n
    · have hz : k < S.size := by rw [hn]; exact hk
      have hzi : (k : Int) < (n : Int) := by omega
      have hx := HGET.out k hz
      obtain ⟨c, hc⟩ : ∃ c, s.getD k 0 = c := ⟨_, rfl⟩
      have HC := Lib.hid hc
      rw [hc] at hx
      have HBL := Lib.hid (rblank_at c)
      clear hc
      cases hb : blk c with
      | true =>
        rw [hb] at HBL
        have HR2 : Hid (Ro V s ws (k + 1) (.slice p z cp) wr) := Lib.hid (by
          have h := HRO.out
          have h2 := HN.out
          exact ⟨h.own, h.bel, by omega, by have := h.wk; omega, by rw [h.tel, drop_one (show k < s.length by omega), HC.out, blank_step ws c hb]⟩)
        clear hb
        go_wp2_with (first
          | (go_at_call 18; refine (HBL.out _).mono ?_; rintro e W ⟨rfl, rfl⟩)
          | fail)
        go_roundw
        case rel => exact ⟨ws, k + 1, by go_num, HR2.out⟩
        case measure => exact meas _ _ _ (by go_num) hk
      | false =>
        rw [hb] at HBL
        have HCB := Lib.hid hb
        clear hb
        go_wp2_with (first
          | (go_at_call 18; refine (HBL.out _).mono ?_; rintro e W ⟨rfl, rfl⟩)
          | fail)
        obtain ⟨wA, hwA⟩ : ∃ wo : World, wo = wr := ⟨_, rfl⟩
        have HRI0 : Hid (Ri wr s ws k 0 [] k (.slice none 0 0) wr) := Lib.hid (by
          have h := HRO.out
          exact ⟨OwnR.nil _ _ _ _, Below.refl _ _, Nat.le_refl _, h.kn, Nat.zero_le _, .inl rfl, by rw [h.tel, drop_one (show k < s.length by have := HN.out; omega), HC.out, run_word ws c HCB.out]⟩)
        subst hwA
        clear hx hzi hz
        go_loopw [5, 6, 7] (fun i u q wx => ∃ (j : Nat) (b : UInt8) (acc : List UInt8), i = .int .i64 j ∧ q = .int .u8 b.toNat ∧ Ri wA s ws k b acc j u wx) (fun i _ _ _ => n - (intOf i).toNat)
        case atStart => exact ⟨k, 0, [], rfl, rfl, HRI0.out⟩
        case round =>
          obtain ⟨j, q, acc, rfl, rfl, hri⟩ := hrel
          have HRI := Lib.hid hri
          have hjn : j ≤ n := by have := hri.jn; have := HN.out; omega
          have hqq := hri.qq
          obtain ⟨p2, cp2, hu2⟩ := own_slice hri.own
          obtain ⟨z2, hz2⟩ : ∃ z, (acc.map cellB).length = z := ⟨_, rfl⟩
          rw [hz2] at hu2
          subst hu2
          clear hz2 hri
          have eq0 := u8_zero q
          have eq39 : ((q.toNat : Int) == 39) = (q == 39) := u8_is q 39 (by decide)
          obtain ⟨Q, hQ⟩ : ∃ Q : Int, (q.toNat : Int) = Q := ⟨_, rfl⟩
          have HQI := Lib.hid hQ
          rw [hQ] at eq0 eq39
          rw [hQ]
          clear hQ
          have en0 : (Q != 0) = !(q == 0) := by rw [← eq0]; rfl
          have en39 : (Q != 39) = !(q == 39) := by rw [← eq39]; rfl
          by_cases hj : j < n
          · have hz : j < S.size := by rw [hn]; exact hj
            have hzi : (j : Int) < (n : Int) := by omega
            have hx2 := HGET.out j hz
            obtain ⟨c2, hc2⟩ : ∃ c, s.getD j 0 = c := ⟨_, rfl⟩
            have HC2 := Lib.hid hc2
            rw [hc2] at hx2
            have HB2 := Lib.hid (rblank_at c2)
            obtain ⟨X, hX⟩ : ∃ X : Int, (c2.toNat : Int) = X := ⟨_, rfl⟩
            have HXI := Lib.hid hX
            rw [hX] at HB2
            have e34 : ((c2.toNat : Int) == 34) = (c2 == 34) := u8_is c2 34 (by decide)
            have e39 : ((c2.toNat : Int) == 39) = (c2 == 39) := u8_is c2 39 (by decide)
            have e92 : ((c2.toNat : Int) == 92) = (c2 == 92) := u8_is c2 92 (by decide)
            have eqc := u8_two c2 q
            rw [hX] at e34 e39 e92 eqc
            rw [HQI.out] at eqc
            by_cases hq : q = 0
            · have HQ0 := Lib.hid hq
              rw [show (q == 0) = true from beq_iff_eq.mpr hq] at eq0 en0
              rw [Bool.not_true] at en0
              rw [show (q == 39) = false from by rw [hq]; rfl] at eq39 en39
              rw [Bool.not_false] at en39
              clear eqc hqq
              cases hb : blk c2 with
              | true =>
                rw [hb] at HB2
                have HEND : Hid (s.drop j = [] ∨ ∃ c t, s.drop j = c :: t ∧ blk c = true) := Lib.hid (.inr ⟨c2, _, by rw [drop_one (show j < s.length by have := HN.out; omega), HC2.out], hb⟩)
                have hkj : k < j := by
                  rcases Nat.lt_or_ge k j with h | h
                  · exact h
                  · have := HRI.out.kj
                    obtain rfl : k = j := by omega
                    rw [← HC2.out, HC.out, HCB.out] at hb
                    cases hb
                clear hb hq e34 e39 e92 hc2
                have HKJ : Hid (k < j) := Lib.hid hkj
                have HR24 : Hid (∀ v' w' o, OwnR w' V.heap.size 9 1 v' (ws.map cellT ++ [cellT acc]) → (wr.alloc o).grownBy w' (Value.ownBlock (.slice p z cp)) → Ro V s (ws ++ [acc]) j v' w') := Lib.hid fun v' w' o hown hgr => by
                  have h := HRO.out
                  have g := HRI.out
                  have hB : V.heap.size ≤ wr.heap.size := Nat.le_trans h.bel.size g.bel.size
                  exact ⟨by rw [List.map_append]; exact hown, (h.bel.trans (g.bel.mono h.bel.size)).trans (own_below (h.own.keep g.bel) hB o hgr), g.jn, by rw [List.length_append]; have := h.wk; have := HKJ.out; simp; omega, by rw [g.tel, HQ0.out, run_end ws acc _ HEND.out]⟩
                have HOUT := Lib.hid (HRO.out.own.keep HRI.out.bel)
                have HSZ : Hid (V.heap.size ≤ wA.heap.size) := Lib.hid HRO.out.bel.size
                have B0 : Hid (Below wA.heap.size wA wr) := Lib.hid HRI.out.bel
                have hcv := own_text HRI.out.own
                have HUP : Hid (ws.length ≤ 1000000) := Lib.hid (by have := HRO.out.wk; have := HN.out; omega)
                clear hkj
                go_wp2_with (first
                  | (go_at_call 18; refine (HB2.out _).mono ?_; rintro e W ⟨rfl, rfl⟩)
                  | (at_builtin; refine plain_append_one (.tmp 90) (.tmp 93) rfl 23 9 1 16 _ rfl Try.underlying23 str_info rfl (by decide) (by decide) V.heap.size _ _ (cellT acc) ⟨wr.heap.size, 0, none⟩ 1 rfl rfl (HOUT.out.alloc _) rfl (new_cells wr _ rfl _ _) (by simp [cellT, Value.oneCell']) (by rw [List.length_map]; have := HUP.out; omega) (by have := HSZ.out; have := B0.out.size; simp; omega) ?_; intro v' w' hown hgr hat; have K3 := Lib.hid (HR24.out _ _ _ hown hgr); clear hown hgr hat)
                  | fail)
                go_roundw
                case rel => exact ⟨ws ++ [acc], j, rfl, K3.out⟩
                case measure => have := HKJ.out; simp only [intOf]; omega
              | false =>
                rw [hb] at HB2
                cases hqt : qt c2 with
                | true =>
                  have HR2 : Hid (Ri wA s ws k c2 acc (j + 1) (.slice p2 z2 cp2) wr) := Lib.hid (by
                    have h := HRI.out
                    rw [HQ0.out] at h
                    have := h.quote (show j < s.length by have := HN.out; omega) (by rw [HC2.out]; exact hqt)
                    rw [HC2.out] at this
                    exact this)
                  have hd : ((c2 == 34) = true) ∨ ((c2 == 34) = false ∧ (c2 == 39) = true) := by
                    unfold qt at hqt
                    cases h1 : (c2 == 34) with
                    | true => exact .inl rfl
                    | false => rw [h1, Bool.false_or] at hqt; exact .inr ⟨rfl, hqt⟩
                  clear hb hqt hq hc2 e92
                  rcases hd with h1 | ⟨h1, h2⟩
                  · rw [h1] at e34
                    clear e39 h1
                    go_wp2_with (first
                      | (go_at_call 18; refine (HB2.out _).mono ?_; rintro e W ⟨rfl, rfl⟩)
                      | fail)
                    go_roundw
                    case rel => exact ⟨j + 1, c2, acc, by go_num, (by rw [HXI.out]), HR2.out⟩
                    case measure => exact meas _ _ _ (by go_num) hj
                  · rw [h1] at e34
                    rw [h2] at e39
                    clear h1 h2
                    go_wp2_with (first
                      | (go_at_call 18; refine (HB2.out _).mono ?_; rintro e W ⟨rfl, rfl⟩)
                      | fail)
                    go_roundw
                    case rel => exact ⟨j + 1, c2, acc, by go_num, (by rw [HXI.out]), HR2.out⟩
                    case measure => exact meas _ _ _ (by go_num) hj
                | false =>
                  have hqt2 := hqt
                  unfold qt at hqt2
                  rw [Bool.or_eq_false_iff] at hqt2
                  rw [hqt2.1] at e34
                  rw [hqt2.2] at e39
                  by_cases hc92 : c2 = 92
                  · rw [show (c2 == 92) = true from beq_iff_eq.mpr hc92] at e92
                    clear hb hqt hqt2 hq
                    have HJS : Hid (j < s.length) := Lib.hid (by have := HN.out; omega)
                    have HEE : Hid (splitL s = fin (run (some ⟨.E q, ws, acc⟩) (s.drop (j + 1)))) := Lib.hid (HRI.out.esc HJS.out (by rw [HC2.out]; exact hc92) (.inl HQ0.out))
                    have HRX : Hid (∀ W, Calls Try.prog 19 #[.string S, .int .i64 ((j : Int) + 1)] W fun e w' => ∃ v n, e = .returned (.tuple #[.int .u8 v, .int .i64 n]) ∧ Below W.heap.size W w' ∧ REsc s (j + 1) v n) := Lib.hid fun W => by
                      have := HRE.out (j + 1) HJS.out W
                      rw [show ((j + 1 : Nat) : Int) = (j : Int) + 1 by omega] at this
                      exact this
                    clear hc2 hc92
                    go_upto_region 17 with (first
                      | (go_at_call 18; refine (HB2.out _).mono ?_; rintro e W ⟨rfl, rfl⟩)
                      | (go_at_call 19; refine (HRX.out _).mono ?_; rintro e W2 ⟨y, m, rfl, hb2, hE⟩; have B2 := Lib.hid hb2; have HE := Lib.hid hE; clear hb2 hE)
                      | fail)
                    have HRI2 : Hid (Ri wA s ws k q acc j (.slice p2 z2 cp2) W2) := Lib.hid (by
                      have h := HRI.out
                      exact ⟨h.own.keep B2.out, h.bel.trans (B2.out.mono h.bel.size), h.kj, h.jn, h.aj, h.qq, h.tel⟩)
                    rcases HE.out with ⟨rfl, hy⟩ | ⟨y2, m2, rfl, rfl, hm1, hm2, hy⟩
                    · have HF : Hid (splitL s = none) := Lib.hid (by rw [HEE.out, hy])
                      have HBB : Hid (Below V.heap.size V W2) := Lib.hid (HRO.out.bel.trans (HRI2.out.bel.mono HRO.out.bel.size))
                      clear hy
                      go_wp2_with fail
                      go_ret2
                      exact ⟨.slice none 0 0, by rw [HF.out]; rfl, HBB.out, by unfold RTold; rw [HF.out]⟩
                    · have HM : Hid (1 ≤ m2 ∧ j + 1 + m2 ≤ s.length) := Lib.hid ⟨hm1, hm2⟩
                      have HY := Lib.hid hy
                      have hmz : ((m2 : Int) == 0) = false := beq_eq_false_iff_ne.mpr (by omega)
                      have hmb : (m2 : Int) ≤ 1000000 := by have := HN.out; omega
                      have hjb : (j : Int) ≤ 1000000 := by have := HN.out; omega
                      have HSZ : Hid (True) := Lib.hid trivial
                      have B0 : Hid (Below wA.heap.size wA W2) := Lib.hid HRI2.out.bel
                      have HUP : Hid (acc.length ≤ 1000000) := Lib.hid (by have := HRI.out.aj; have := HN.out; have := HRI.out.jn; omega)
                      have HPU : Hid (∀ v' w' o, OwnR w' wA.heap.size 5 1 v' (acc.map cellB ++ [cellB y2]) → (W2.alloc o).grownBy w' (Value.ownBlock (.slice p2 z2 cp2)) → Ri wA s ws k q (acc ++ [y2]) (j + 1 + m2) v' w') := Lib.hid fun v' w' o hown hgr => by
                        have h := HRI2.out
                        exact h.put2 HEE.out HM.out.1 HM.out.2 HY.out hown (own_below h.own h.bel.size o hgr)
                      have HO := Lib.hid HRI2.out.own
                      clear hm1 hm2 hy HE
                      go_wp2_with (first
                        | (at_builtin; refine plain_append_one (.tmp 79) (.tmp 81) rfl 35 5 1 1 _ rfl Try.underlying35 u8_info rfl (by decide) (by decide) wA.heap.size _ _ (cellB y2) ⟨W2.heap.size, 0, none⟩ 1 rfl rfl (HO.out.alloc _) rfl (new_cells W2 _ rfl _ _) (by simp [cellB, Value.oneCell']) (by rw [List.length_map]; have := HUP.out; omega) (by have := HSZ.out; have := B0.out.size; simp; omega) ?_; intro v' w' hown hgr hat; have K3 := Lib.hid (HPU.out _ _ _ hown hgr); clear hown hgr hat)
                        | fail)
                      go_roundw
                      case rel => exact ⟨j + 1 + m2, q, acc ++ [y2], by go_num, by rw [HQI.out], K3.out⟩
                      case measure => have := HM.out; have := HN.out; simp only [intOf]; omega
                  · rw [show (c2 == 92) = false from beq_eq_false_iff_ne.mpr hc92] at e92
                    have HBQ := Lib.hid (And.intro hb (And.intro hqt hc92))
                    clear hb hqt hqt2 hq hc92
                    have HS : Hid (∀ t, run (some ⟨.Q q, ws, acc⟩) (s.getD j 0 :: t) = run (some ⟨.Q q, ws, acc ++ [s.getD j 0]⟩) t) := Lib.hid (by rw [HQ0.out, HC2.out]; exact fun t => in0_put c2 HBQ.out.1 HBQ.out.2.1 HBQ.out.2.2 ws acc t)
                    have HSZ : Hid (True) := Lib.hid trivial
                    have B0 : Hid (Below wA.heap.size wA wr) := Lib.hid HRI.out.bel
                    have HUP : Hid (acc.length ≤ 1000000) := Lib.hid (by have := HRI.out.aj; have := HN.out; have := HRI.out.jn; omega)
                    have HJS : Hid (j < s.length) := Lib.hid (by have := HN.out; omega)
                    have HPU : Hid (∀ v' w' o, OwnR w' wA.heap.size 5 1 v' (acc.map cellB ++ [[.int .u8 X]]) → (wr.alloc o).grownBy w' (Value.ownBlock (.slice p2 z2 cp2)) → Ri wA s ws k q (acc ++ [c2]) (j + 1) v' w') := Lib.hid fun v' w' o hown hgr => by
                      have h := HRI.out
                      have := h.put HJS.out HS.out (by rw [HC2.out]; unfold cellB; rw [HXI.out]; exact hown) (own_below h.own h.bel.size o hgr)
                      rw [HC2.out] at this
                      exact this
                    have HO := Lib.hid HRI.out.own
                    clear hc2
                    go_wp2_with (first
                      | (go_at_call 18; refine (HB2.out _).mono ?_; rintro e W ⟨rfl, rfl⟩)
                      | (at_builtin; refine plain_append_one (.tmp 39) (.tmp 41) rfl 35 5 1 1 _ rfl Try.underlying35 u8_info rfl (by decide) (by decide) wA.heap.size _ _ [.int .u8 X] ⟨wr.heap.size, 0, none⟩ 1 rfl rfl (HO.out.alloc _) rfl (new_cells wr _ rfl _ _) (by simp [Value.oneCell']) (by rw [List.length_map]; have := HUP.out; omega) (by have := HSZ.out; have := B0.out.size; simp; omega) ?_; intro v' w' hown hgr hat; have K3 := Lib.hid (HPU.out _ _ _ hown hgr); clear hown hgr hat)
                      | fail)
                    go_roundw
                    case rel => exact ⟨j + 1, q, acc ++ [c2], by go_num, by rw [HQI.out], K3.out⟩
                    case measure => exact meas _ _ _ (by go_num) hj
            · have HQ0 := Lib.hid hq
              rw [show (q == 0) = false from beq_eq_false_iff_ne.mpr hq] at eq0 en0
              rw [Bool.not_false] at en0
              clear e34 e39 HB2
              by_cases hcq : c2 = q
              · rw [show (c2 == q) = true from beq_iff_eq.mpr hcq] at eqc
                have HR2 : Hid (Ri wA s ws k 0 acc (j + 1) (.slice p2 z2 cp2) wr) := Lib.hid (HRI.out.close (show j < s.length by have := HN.out; omega) hq (by rw [HC2.out]; exact hcq))
                clear hq hcq hc2 hqq e92 eq39 en39
                go_wp2_with fail
                go_roundw
                case rel => exact ⟨j + 1, 0, acc, by go_num, rfl, HR2.out⟩
                case measure => exact meas _ _ _ (by go_num) hj
              · rw [show (c2 == q) = false from beq_eq_false_iff_ne.mpr hcq] at eqc
                by_cases hce : c2 = 92 ∧ q = 34
                · have HQ34 := Lib.hid hce.2
                  have hc92 : c2 = 92 := hce.1
                  rw [show (c2 == 92) = true from beq_iff_eq.mpr hc92] at e92
                  rw [show (q == 39) = false from by rw [hce.2]; rfl] at eq39 en39
                  rw [Bool.not_false] at en39
                  clear hq hcq hqq hce
                  have HJS : Hid (j < s.length) := Lib.hid (by have := HN.out; omega)
                  have HEE : Hid (splitL s = fin (run (some ⟨.E q, ws, acc⟩) (s.drop (j + 1)))) := Lib.hid (HRI.out.esc HJS.out (by rw [HC2.out]; exact hc92) (.inr HQ34.out))
                  have HRX : Hid (∀ W, Calls Try.prog 19 #[.string S, .int .i64 ((j : Int) + 1)] W fun e w' => ∃ v n, e = .returned (.tuple #[.int .u8 v, .int .i64 n]) ∧ Below W.heap.size W w' ∧ REsc s (j + 1) v n) := Lib.hid fun W => by
                    have := HRE.out (j + 1) HJS.out W
                    rw [show ((j + 1 : Nat) : Int) = (j : Int) + 1 by omega] at this
                    exact this
                  clear hc2 hc92
                  go_upto_region 17 with (first
                    | (go_at_call 19; refine (HRX.out _).mono ?_; rintro e W2 ⟨y, m, rfl, hb2, hE⟩; have B2 := Lib.hid hb2; have HE := Lib.hid hE; clear hb2 hE)
                    | fail)
                  have HRI2 : Hid (Ri wA s ws k q acc j (.slice p2 z2 cp2) W2) := Lib.hid (by
                    have h := HRI.out
                    exact ⟨h.own.keep B2.out, h.bel.trans (B2.out.mono h.bel.size), h.kj, h.jn, h.aj, h.qq, h.tel⟩)
                  rcases HE.out with ⟨rfl, hy⟩ | ⟨y2, m2, rfl, rfl, hm1, hm2, hy⟩
                  · have HF : Hid (splitL s = none) := Lib.hid (by rw [HEE.out, hy])
                    have HBB : Hid (Below V.heap.size V W2) := Lib.hid (HRO.out.bel.trans (HRI2.out.bel.mono HRO.out.bel.size))
                    clear hy
                    go_wp2_with fail
                    go_ret2
                    exact ⟨.slice none 0 0, by rw [HF.out]; rfl, HBB.out, by unfold RTold; rw [HF.out]⟩
                  · have HM : Hid (1 ≤ m2 ∧ j + 1 + m2 ≤ s.length) := Lib.hid ⟨hm1, hm2⟩
                    have HY := Lib.hid hy
                    have hmz : ((m2 : Int) == 0) = false := beq_eq_false_iff_ne.mpr (by omega)
                    have hmb : (m2 : Int) ≤ 1000000 := by have := HN.out; omega
                    have hjb : (j : Int) ≤ 1000000 := by have := HN.out; omega
                    have HSZ : Hid (True) := Lib.hid trivial
                    have B0 : Hid (Below wA.heap.size wA W2) := Lib.hid HRI2.out.bel
                    have HUP : Hid (acc.length ≤ 1000000) := Lib.hid (by have := HRI.out.aj; have := HN.out; have := HRI.out.jn; omega)
                    have HPU : Hid (∀ v' w' o, OwnR w' wA.heap.size 5 1 v' (acc.map cellB ++ [cellB y2]) → (W2.alloc o).grownBy w' (Value.ownBlock (.slice p2 z2 cp2)) → Ri wA s ws k q (acc ++ [y2]) (j + 1 + m2) v' w') := Lib.hid fun v' w' o hown hgr => by
                      have h := HRI2.out
                      exact h.put2 HEE.out HM.out.1 HM.out.2 HY.out hown (own_below h.own h.bel.size o hgr)
                    have HO := Lib.hid HRI2.out.own
                    clear hm1 hm2 hy HE
                    go_wp2_with (first
                      | (at_builtin; refine plain_append_one (.tmp 79) (.tmp 81) rfl 35 5 1 1 _ rfl Try.underlying35 u8_info rfl (by decide) (by decide) wA.heap.size _ _ (cellB y2) ⟨W2.heap.size, 0, none⟩ 1 rfl rfl (HO.out.alloc _) rfl (new_cells W2 _ rfl _ _) (by simp [cellB, Value.oneCell']) (by rw [List.length_map]; have := HUP.out; omega) (by have := HSZ.out; have := B0.out.size; simp; omega) ?_; intro v' w' hown hgr hat; have K3 := Lib.hid (HPU.out _ _ _ hown hgr); clear hown hgr hat)
                      | fail)
                    go_roundw
                    case rel => exact ⟨j + 1 + m2, q, acc ++ [y2], by go_num, by rw [HQI.out], K3.out⟩
                    case measure => have := HM.out; have := HN.out; simp only [intOf]; omega
                · have HBQ := Lib.hid (And.intro hq (And.intro hcq hce))
                  have hd : ((c2 == 92) = false) ∨ ((c2 == 92) = true ∧ (q == 39) = true) := by
                    by_cases h1 : c2 = 92
                    · refine .inr ⟨beq_iff_eq.mpr h1, beq_iff_eq.mpr ?_⟩
                      rcases hqq with h | h | h
                      · exact absurd h hq
                      · exact absurd ⟨h1, h⟩ hce
                      · exact h
                    · exact .inl (beq_eq_false_iff_ne.mpr h1)
                  clear hq hcq hce hqq
                  rcases hd with h1 | ⟨h1, h2⟩
                  · rw [h1] at e92
                    clear h1
                    have HS : Hid (∀ t, run (some ⟨.Q q, ws, acc⟩) (s.getD j 0 :: t) = run (some ⟨.Q q, ws, acc ++ [s.getD j 0]⟩) t) := Lib.hid (by rw [HC2.out]; exact fun t => inq_put q c2 HBQ.out.1 HBQ.out.2.1 HBQ.out.2.2 ws acc t)
                    have HSZ : Hid (True) := Lib.hid trivial
                    have B0 : Hid (Below wA.heap.size wA wr) := Lib.hid HRI.out.bel
                    have HUP : Hid (acc.length ≤ 1000000) := Lib.hid (by have := HRI.out.aj; have := HN.out; have := HRI.out.jn; omega)
                    have HJS : Hid (j < s.length) := Lib.hid (by have := HN.out; omega)
                    have HPU : Hid (∀ v' w' o, OwnR w' wA.heap.size 5 1 v' (acc.map cellB ++ [[.int .u8 X]]) → (wr.alloc o).grownBy w' (Value.ownBlock (.slice p2 z2 cp2)) → Ri wA s ws k q (acc ++ [c2]) (j + 1) v' w') := Lib.hid fun v' w' o hown hgr => by
                      have h := HRI.out
                      have := h.put HJS.out HS.out (by rw [HC2.out]; unfold cellB; rw [HXI.out]; exact hown) (own_below h.own h.bel.size o hgr)
                      rw [HC2.out] at this
                      exact this
                    have HO := Lib.hid HRI.out.own
                    clear hc2
                    go_wp2_with (first
                      | (at_builtin; refine plain_append_one (.tmp 39) (.tmp 41) rfl 35 5 1 1 _ rfl Try.underlying35 u8_info rfl (by decide) (by decide) wA.heap.size _ _ [.int .u8 X] ⟨wr.heap.size, 0, none⟩ 1 rfl rfl (HO.out.alloc _) rfl (new_cells wr _ rfl _ _) (by simp [Value.oneCell']) (by rw [List.length_map]; have := HUP.out; omega) (by have := HSZ.out; have := B0.out.size; simp; omega) ?_; intro v' w' hown hgr hat; have K3 := Lib.hid (HPU.out _ _ _ hown hgr); clear hown hgr hat)
                      | fail)
                    go_roundw
                    case rel => exact ⟨j + 1, q, acc ++ [c2], by go_num, by rw [HQI.out], K3.out⟩
                    case measure => exact meas _ _ _ (by go_num) hj
                  · rw [h1] at e92
                    rw [h2] at eq39 en39
                    rw [Bool.not_true] at en39
                    clear h1 h2
                    have HS : Hid (∀ t, run (some ⟨.Q q, ws, acc⟩) (s.getD j 0 :: t) = run (some ⟨.Q q, ws, acc ++ [s.getD j 0]⟩) t) := Lib.hid (by rw [HC2.out]; exact fun t => inq_put q c2 HBQ.out.1 HBQ.out.2.1 HBQ.out.2.2 ws acc t)
                    have HSZ : Hid (True) := Lib.hid trivial
                    have B0 : Hid (Below wA.heap.size wA wr) := Lib.hid HRI.out.bel
                    have HUP : Hid (acc.length ≤ 1000000) := Lib.hid (by have := HRI.out.aj; have := HN.out; have := HRI.out.jn; omega)
                    have HJS : Hid (j < s.length) := Lib.hid (by have := HN.out; omega)
                    have HPU : Hid (∀ v' w' o, OwnR w' wA.heap.size 5 1 v' (acc.map cellB ++ [[.int .u8 X]]) → (wr.alloc o).grownBy w' (Value.ownBlock (.slice p2 z2 cp2)) → Ri wA s ws k q (acc ++ [c2]) (j + 1) v' w') := Lib.hid fun v' w' o hown hgr => by
                      have h := HRI.out
                      have := h.put HJS.out HS.out (by rw [HC2.out]; unfold cellB; rw [HXI.out]; exact hown) (own_below h.own h.bel.size o hgr)
                      rw [HC2.out] at this
                      exact this
                    have HO := Lib.hid HRI.out.own
                    clear hc2
                    go_wp2_with (first
                      | (at_builtin; refine plain_append_one (.tmp 39) (.tmp 41) rfl 35 5 1 1 _ rfl Try.underlying35 u8_info rfl (by decide) (by decide) wA.heap.size _ _ [.int .u8 X] ⟨wr.heap.size, 0, none⟩ 1 rfl rfl (HO.out.alloc _) rfl (new_cells wr _ rfl _ _) (by simp [Value.oneCell']) (by rw [List.length_map]; have := HUP.out; omega) (by have := HSZ.out; have := B0.out.size; simp; omega) ?_; intro v' w' hown hgr hat; have K3 := Lib.hid (HPU.out _ _ _ hown hgr); clear hown hgr hat)
                      | fail)
                    go_roundw
                    case rel => exact ⟨j + 1, q, acc ++ [c2], by go_num, by rw [HQI.out], K3.out⟩
                    case measure => exact meas _ _ _ (by go_num) hj
          · have HJN : Hid (j = n) := Lib.hid (by omega)
            have hzi : ¬ (j : Int) < (n : Int) := by omega
            by_cases hq : q = 0
            · have HQ0 := Lib.hid hq
              rw [show (q == 0) = true from beq_iff_eq.mpr hq] at eq0 en0
              rw [Bool.not_true] at en0
              have hkj : k < j := by omega
              have HEND : Hid (s.drop j = [] ∨ ∃ c t, s.drop j = c :: t ∧ blk c = true) := Lib.hid (.inl (List.drop_eq_nil_of_le (by have := HN.out; omega)))
              clear hq hqq eq39 en39
              have HKJ : Hid (k < j) := Lib.hid hkj
              have HR24 : Hid (∀ v' w' o, OwnR w' V.heap.size 9 1 v' (ws.map cellT ++ [cellT acc]) → (wr.alloc o).grownBy w' (Value.ownBlock (.slice p z cp)) → Ro V s (ws ++ [acc]) j v' w') := Lib.hid fun v' w' o hown hgr => by
                have h := HRO.out
                have g := HRI.out
                have hB : V.heap.size ≤ wr.heap.size := Nat.le_trans h.bel.size g.bel.size
                exact ⟨by rw [List.map_append]; exact hown, (h.bel.trans (g.bel.mono h.bel.size)).trans (own_below (h.own.keep g.bel) hB o hgr), g.jn, by rw [List.length_append]; have := h.wk; have := HKJ.out; simp; omega, by rw [g.tel, HQ0.out, run_end ws acc _ HEND.out]⟩
              have HOUT := Lib.hid (HRO.out.own.keep HRI.out.bel)
              have HSZ : Hid (V.heap.size ≤ wA.heap.size) := Lib.hid HRO.out.bel.size
              have B0 : Hid (Below wA.heap.size wA wr) := Lib.hid HRI.out.bel
              have hcv := own_text HRI.out.own
              have HUP : Hid (ws.length ≤ 1000000) := Lib.hid (by have := HRO.out.wk; have := HN.out; omega)
              clear hkj
              go_wp2_with (first
                | (at_builtin; refine plain_append_one (.tmp 90) (.tmp 93) rfl 23 9 1 16 _ rfl Try.underlying23 str_info rfl (by decide) (by decide) V.heap.size _ _ (cellT acc) ⟨wr.heap.size, 0, none⟩ 1 rfl rfl (HOUT.out.alloc _) rfl (new_cells wr _ rfl _ _) (by simp [cellT, Value.oneCell']) (by rw [List.length_map]; have := HUP.out; omega) (by have := HSZ.out; have := B0.out.size; simp; omega) ?_; intro v' w' hown hgr hat; have K3 := Lib.hid (HR24.out _ _ _ hown hgr); clear hown hgr hat)
                | fail)
              go_roundw
              case rel => exact ⟨ws ++ [acc], j, rfl, K3.out⟩
              case measure => have := HKJ.out; simp only [intOf]; omega
            · rw [show (q == 0) = false from beq_eq_false_iff_ne.mpr hq] at eq0 en0
              rw [Bool.not_false] at en0
              have HBB : Hid (Below V.heap.size V wr) := Lib.hid (HRO.out.bel.trans (HRI.out.bel.mono HRO.out.bel.size))
              have HF : Hid (splitL s = none) := Lib.hid (by
                rw [HRI.out.tel, List.drop_eq_nil_of_le (by have := HN.out; have := HJN.out; omega)]
                show (if q = 0 then some (ws ++ [acc]) else none) = none
                rw [if_neg hq])
              clear hq hqq eq39 en39
              go_wp2_with fail
              go_ret2
              exact ⟨.slice none 0 0, by rw [HF.out]; rfl, HBB.out, by unfold RTold; rw [HF.out]⟩
    · obtain rfl : k = n := by omega
      have hkk : ¬ (k : Int) < (k : Int) := by omega
      have HF : Hid (splitL s = some ws) := Lib.hid (by
        have h := HRO.out.tel
        rw [List.drop_eq_nil_of_le (by have := HN.out; omega)] at h
        exact h)
      go_wp2_with fail
      go_ret2
      exact ⟨.slice p z cp, by rw [HF.out]; rfl, HRO.out.bel, by unfold RTold; rw [HF.out]; exact HRO.out.own⟩
end Go.Proofs.Ytffmchbcpihjhaa.Wd
