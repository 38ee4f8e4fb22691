/-
  Layer 12 (words): the law WordsPlain, walked.
-/
import Derived.Test.YtffmchbcpihjhaaWdRjoin
import Derived.Test.YtffmchbcpihjhaaWordsSplitWalk
namespace Go.Proofs.Ytffmchbcpihjhaa.Wd
open Go.RowKit
set_option maxRecDepth 100000

theorem one_run2 (c : UInt8) (X : Int) (hX : (c.toNat : Int) = X) (O : ByteArray) (hO : bs [c] = O) (W : World) (o : Obj) : (convert 35 9 (.slice (some ⟨W.heap.size + 1, 0, none⟩) 1 1)).run Try.prog ((W.alloc o).alloc (.cells #[.int .u8 X] 5)) = .ok (.string O) ((W.alloc o).alloc (.cells #[.int .u8 X] 5)) := by
  have := one_run c X hX O hO (W.alloc o)
  rw [show (W.alloc o).heap.size = W.heap.size + 1 by simp] at this
  exact this
/-- Where the machine stands behind bytes that are no quotes and no backslashes. -/
def stP (wl : List (List UInt8)) (cur : List UInt8) : St := if cur = [] then ⟨.B, wl, []⟩ else ⟨.Q 0, wl, cur⟩
theorem plain_put {T : List UInt8} {wl : List (List UInt8)} {cur : List UInt8} {c : UInt8} (h : run (some ⟨.B, [], []⟩) T = some (stP wl cur)) (hb : blk c = false) (hq : qt c = false) (h92 : c ≠ 92) : run (some ⟨.B, [], []⟩) (T ++ [c]) = some (stP wl (cur ++ [c])) := by
  rw [run_app, h]
  unfold stP
  rw [if_neg (show ¬ cur ++ [c] = [] by simp)]
  by_cases hc : cur = []
  · rw [if_pos hc, run_word wl c hb, in0_put c hb hq h92, hc]; rfl
  · rw [if_neg hc, in0_put c hb hq h92]; rfl
theorem plain_blank {T : List UInt8} {wl : List (List UInt8)} {cur : List UInt8} {c : UInt8} (h : run (some ⟨.B, [], []⟩) T = some (stP wl cur)) (hb : blk c = true) : run (some ⟨.B, [], []⟩) (T ++ [c]) = some (stP (if cur = [] then wl else wl ++ [cur]) []) := by
  rw [run_app, h]
  unfold stP
  rw [if_pos rfl]
  by_cases hc : cur = []
  · rw [if_pos hc, if_pos hc, run_cons]; unfold step; simp only; rw [if_pos hb]; rfl
  · rw [if_neg hc, if_neg hc, run_cons]
    have e1 : step ⟨.Q 0, wl, cur⟩ c = some ⟨.B, wl ++ [cur], []⟩ := by unfold step inW; simp only [if_true]; rw [if_pos hb]
    rw [e1]; rfl
theorem plain_end {T : List UInt8} {wl : List (List UInt8)} {cur : List UInt8} (h : run (some ⟨.B, [], []⟩) T = some (stP wl cur)) : splitL T = some (if cur = [] then wl else wl ++ [cur]) := by
  unfold splitL
  rw [h]
  unfold stP
  by_cases hc : cur = []
  · rw [if_pos hc, if_pos hc]; rfl
  · rw [if_neg hc, if_neg hc]; rfl
/-- What the loop keeps. -/
structure Pn (V : World) (T : List UInt8) (wl : List (List UInt8)) (cur : List UInt8) (k : Nat) (u : Value) (W : World) : Prop where
  own : OwnR W V.heap.size 9 1 u (wl.map cellT)
  bel : Below V.heap.size V W
  rn : run (some ⟨.B, [], []⟩) T = some (stP wl cur)
  tk : T.length ≤ k
  ck : cur.length ≤ k
  wk : wl.length ≤ k
theorem Pn.alloc {V : World} {T : List UInt8} {wl : List (List UInt8)} {cur : List UInt8} {k : Nat} {u : Value} {W : World} (h : Pn V T wl cur k u W) (o : Obj) : Pn V T wl cur k u (W.alloc o) := ⟨h.own.alloc o, h.bel.alloc h.bel.size o, h.rn, h.tk, h.ck, h.wk⟩
set_option maxHeartbeats 8000000 in
theorem plainLaw_any (s : List UInt8) (w : World) : Calls Try.prog 6 #[.string (bs s)] w fun e w' => e = .returned (.bool true) ∧ Below w.heap.size w w' := by
  have HWK : Hid (∀ V, Below w.heap.size w V → Calls Try.prog 9 #[] V fun e w' => e = .returned (.bool true) ∧ Below w.heap.size w w') := Lib.hid fun V h => works_then h
  have hlen : (bs s).size = s.length := rfl
  have HGET : Hid (∀ i (hi : i < (bs s).size), (bs s)[i] = s.getD i 0) := Lib.hid fun i hi => get_list hi
  obtain ⟨n, hn⟩ : ∃ n, (bs s).size = n := ⟨_, rfl⟩
  clear hlen
  generalize bs s = S at *
  rcases Nat.lt_or_ge 500 n with h | h
  · have h1 : (500 : Int) < (n : Int) := by omega
    clear h
    go_enter Try.func6, Try.ntmps6
    go_wp2_with (first
      | (go_at_call 9; refine (HWK.out _ (Below.refl _ _)).mono ?_; clear HWK; rintro e V ⟨rfl, hb⟩; have HB := Lib.hid hb; clear hb)
      | fail)
    go_ret
    exact ⟨rfl, HB.out⟩
  · have h1 : ¬ (500 : Int) < (n : Int) := by omega
    have hnb : (n : Int) ≤ 500 := by omega
    have HN : Hid (n ≤ 500) := Lib.hid h
    clear h
    go_enter Try.func6, Try.ntmps6
    go_wp2_with fail
    go_loopw [3, 4, 5, 6] (fun t u v i wr => ∃ (k : Nat) (T : List UInt8) (wl : List (List UInt8)) (cur : List UInt8), k ≤ n ∧ i = .int .i64 k ∧ t = .string (bs T) ∧ v = .string (bs cur) ∧ Pn w T wl cur k u wr) (fun _ _ _ i _ => n - (intOf i).toNat)
    case atStart => exact ⟨0, [], [], [], Nat.zero_le _, rfl, rfl, rfl, OwnR.nil _ _ _ _, Below.refl _ _, rfl, Nat.le_refl _, Nat.le_refl _, Nat.le_refl _⟩
    case round =>
      obtain ⟨k, T, wl, cur, hk, rfl, rfl, rfl, hpn⟩ := hrel
      obtain ⟨p, cp, hu⟩ := own_slice hpn.own
      obtain ⟨z, hz⟩ : ∃ z, (wl.map cellT).length = z := ⟨_, rfl⟩
      rw [hz] at hu
      have HZ : Hid (wl.length = z) := Lib.hid (by rw [← hz, List.length_map])
      subst hu
      have HPN := Lib.hid hpn
      have hts : (bs T).size ≤ 500 := by have := hpn.tk; have := HN.out; show T.length ≤ 500; omega
      have hcs : (bs cur).size ≤ 500 := by have := hpn.ck; have := HN.out; show cur.length ≤ 500; omega
      have HUP : Hid (wl.length ≤ 500) := Lib.hid (by have := hpn.wk; have := HN.out; omega)
      have HBW : Hid (Below w.heap.size w wr) := Lib.hid hpn.bel
      have hem := bs_empty cur
      obtain ⟨TV, hTV⟩ : ∃ X, bs T = X := ⟨_, rfl⟩
      obtain ⟨CV, hCV⟩ : ∃ X, bs cur = X := ⟨_, rfl⟩
      have HTE := Lib.hid hTV
      have HCE := Lib.hid hCV
      rw [hTV] at hts
      rw [hCV] at hcs hem
      rw [hTV, hCV]
      obtain ⟨E0, hE0⟩ : ∃ b, cur.isEmpty = b := ⟨_, rfl⟩
      rw [hE0] at hem
      have HEE : Hid ((E0 = true → cur = []) ∧ (E0 = false → cur ≠ [])) := Lib.hid ⟨fun h => by rw [h] at hE0; exact List.isEmpty_iff.mp hE0, fun h e => by rw [e, h] at hE0; cases hE0⟩
      clear hz hpn hTV hCV hE0
      by_cases hlt : k < n
      · have hz : k < S.size := by rw [hn]; exact hlt
        have hx := HGET.out k hz
        obtain ⟨c, hc⟩ : ∃ c, s.getD k 0 = c := ⟨_, rfl⟩
        rw [hc] at hx
        obtain ⟨X, hX⟩ : ∃ X : Int, (c.toNat : Int) = X := ⟨_, rfl⟩
        obtain ⟨O, hO⟩ : ∃ O, bs [c] = O := ⟨_, rfl⟩
        have hconv := one_run c X hX O hO
        have hconv2 := fun (W : World) o => one_run2 c X hX O hO W o
        have hos : O.size = 1 := by rw [← hO]; rfl
        have HOE := Lib.hid hO
        have e34 : (X == 34) = (c == 34) := by rw [← hX]; exact u8_is c 34 (by decide)
        have e39 : (X == 39) = (c == 39) := by rw [← hX]; exact u8_is c 39 (by decide)
        have e92 : (X == 92) = (c == 92) := by rw [← hX]; exact u8_is c 92 (by decide)
        have e32' : (X == 32) = (c == 32) := by rw [← hX]; exact u8_is c 32 (by decide)
        have e9' : (X == 9) = (c == 9) := by rw [← hX]; exact u8_is c 9 (by decide)
        have e32 : (X != 32) = !(c == 32) := by rw [← e32']; rfl
        have e9 : (X != 9) = !(c == 9) := by rw [← e9']; rfl
        clear e32' e9'
        have hs1 : TV.size + O.size ≤ 9223372036854775807 := by omega
        have hs2 : CV.size + O.size ≤ 9223372036854775807 := by omega
        clear hO hc
        by_cases hsk : qt c = true ∨ c = 92
        · have HR2 : Hid (Pn w T wl cur (k + 1) (.slice p z cp) wr) := Lib.hid (by
            have h := HPN.out
            exact ⟨h.own, h.bel, h.rn, by have := h.tk; omega, by have := h.ck; omega, by have := h.wk; omega⟩)
          have hd : ((c == 34) = true) ∨ ((c == 34) = false ∧ (c == 39) = true) ∨ ((c == 34) = false ∧ (c == 39) = false ∧ (c == 92) = true) := by
            cases h1 : (c == 34) with
            | true => exact .inl rfl
            | false =>
              cases h2 : (c == 39) with
              | true => exact .inr (.inl ⟨rfl, rfl⟩)
              | false =>
                refine .inr (.inr ⟨rfl, rfl, ?_⟩)
                rcases hsk with h | h
                · unfold qt at h; rw [h1, h2] at h; cases h
                · exact beq_iff_eq.mpr h
          clear hsk hconv hconv2 e32 e9
          rcases hd with h1 | ⟨h1, h2⟩ | ⟨h1, h2, h3⟩
          · rw [h1] at e34
            clear e39 e92 h1
            go_wp2_with fail
            go_roundw
            case rel => exact ⟨k + 1, T, wl, cur, by omega, by go_num, by rw [HTE.out], by rw [HCE.out], HR2.out⟩
            case measure => exact meas _ _ _ (by go_num) hlt
          · rw [h1] at e34
            rw [h2] at e39
            clear e92 h1 h2
            go_wp2_with fail
            go_roundw
            case rel => exact ⟨k + 1, T, wl, cur, by omega, by go_num, by rw [HTE.out], by rw [HCE.out], HR2.out⟩
            case measure => exact meas _ _ _ (by go_num) hlt
          · rw [h1] at e34
            rw [h2] at e39
            rw [h3] at e92
            clear h1 h2 h3
            go_wp2_with fail
            go_roundw
            case rel => exact ⟨k + 1, T, wl, cur, by omega, by go_num, by rw [HTE.out], by rw [HCE.out], HR2.out⟩
            case measure => exact meas _ _ _ (by go_num) hlt
        · obtain ⟨hq, h92⟩ := not_or.mp hsk
          have hq : qt c = false := by simpa using hq
          have hq2 := hq
          unfold qt at hq2
          rw [Bool.or_eq_false_iff] at hq2
          rw [hq2.1] at e34
          rw [hq2.2] at e39
          rw [beq_eq_false_iff_ne.mpr h92] at e92
          have HT2 : Hid (bs (T ++ [c]) = TV ++ O) := Lib.hid (by rw [← bs_app, HTE.out, HOE.out])
          cases hb : blk c with
          | false =>
            have hb2 := hb
            unfold blk at hb2
            rw [Bool.or_eq_false_iff] at hb2
            rw [hb2.1, Bool.not_false] at e32
            rw [hb2.2, Bool.not_false] at e9
            have HC2 : Hid (bs (cur ++ [c]) = CV ++ O) := Lib.hid (by rw [← bs_app, HCE.out, HOE.out])
            have HR2 : Hid (Pn w (T ++ [c]) wl (cur ++ [c]) (k + 1) (.slice p z cp) wr) := Lib.hid (by
              have h := HPN.out
              exact ⟨h.own, h.bel, plain_put h.rn hb hq h92, by have := h.tk; simp; omega, by have := h.ck; simp; omega, by have := h.wk; omega⟩)
            clear hsk hq hq2 hb hb2 h92
            go_wp2_with fail
            go_roundw
            case rel => exact ⟨k + 1, T ++ [c], wl, cur ++ [c], by omega, by go_num, by rw [HT2.out], by rw [HC2.out], (HR2.out.alloc _).alloc _⟩
            case measure => exact meas _ _ _ (by go_num) hlt
          | true =>
            have hd : ((c == 32) = true) ∨ ((c == 32) = false ∧ (c == 9) = true) := by
              unfold blk at hb
              cases h1 : (c == 32) with
              | true => exact .inl rfl
              | false => rw [h1, Bool.false_or] at hb; exact .inr ⟨rfl, hb⟩
            have HBK := Lib.hid (fun (h : run (some ⟨.B, [], []⟩) T = some (stP wl cur)) => plain_blank h hb)
            clear hsk hq hq2 hb h92
            have hd2 : ((X != 32) = false) ∨ ((X != 32) = true ∧ (X != 9) = false) := by
              rcases hd with h | ⟨h, h'⟩
              · exact .inl (by rw [e32, h]; rfl)
              · exact .inr ⟨by rw [e32, h]; rfl, by rw [e9, h']; rfl⟩
            clear hd e32 e9
            cases E0 with
            | true =>
              have HR2 : Hid (Pn w (T ++ [c]) wl [] (k + 1) (.slice p z cp) wr) := Lib.hid (by
                have h := HPN.out
                have hr := HBK.out h.rn
                rw [if_pos (HEE.out.1 rfl)] at hr
                exact ⟨h.own, h.bel, hr, by have := h.tk; simp; omega, Nat.zero_le _, by have := h.wk; omega⟩)
              rcases hd2 with e32 | ⟨e32, e9⟩
              all_goals
                go_wp2_with fail
                go_roundw
                case rel => exact ⟨k + 1, T ++ [c], wl, [], by omega, by go_num, by rw [HT2.out], rfl, HR2.out.alloc _⟩
                case measure => exact meas _ _ _ (by go_num) hlt
            | false =>
              have HR2 : Hid (∀ v' w' o, OwnR w' w.heap.size 9 1 v' (wl.map cellT ++ [[.string CV]]) → ((wr.alloc (.cells #[.int .u8 X] 5)).alloc o).grownBy w' (Value.ownBlock (.slice p z cp)) → Pn w (T ++ [c]) (wl ++ [cur]) [] (k + 1) v' w') := Lib.hid fun v' w' o hown hgr => by
                have h := HPN.out.alloc (.cells #[.int .u8 X] 5)
                have hr := HBK.out h.rn
                rw [if_neg (HEE.out.2 rfl)] at hr
                exact ⟨by rw [List.map_append]; show OwnR _ _ _ _ _ (_ ++ [[.string (bs cur)]]); rw [HCE.out]; exact hown, h.bel.trans (own_below h.own h.bel.size o hgr), hr, by have := h.tk; simp; omega, Nat.zero_le _, by have := h.wk; simp; omega⟩
              have HOW := Lib.hid HPN.out.own
              rcases hd2 with e32 | ⟨e32, e9⟩
              all_goals
                go_wp2_with (first
                  | (at_builtin; refine plain_append_one (.tmp 51) (.tmp 53) rfl 23 9 1 16 _ rfl Try.underlying23 str_info rfl (by decide) (by decide) w.heap.size _ _ [.string CV] ⟨wr.heap.size + 1, 0, none⟩ 1 rfl rfl ((HOW.out.alloc _).alloc _) rfl (new_cells (wr.alloc (.cells #[.int .u8 X] 5)) _ (by simp) _ _) (by simp [Value.oneCell']) (by rw [List.length_map]; have := HUP.out; omega) (by have := HBW.out.size; simp; omega) ?_; intro v' w' hown hgr hat; have K3 := Lib.hid (HR2.out _ _ _ hown hgr); clear hown hgr hat)
                  | fail)
                go_roundw
                case rel => exact ⟨k + 1, T ++ [c], wl ++ [cur], [], by omega, by go_num, by rw [HT2.out], rfl, K3.out⟩
                case measure => exact meas _ _ _ (by go_num) hlt
      · obtain rfl : k = n := by omega
        have hkk : ¬ (k : Int) < (k : Int) := by omega
        cases E0 with
        | true =>
          have HTS : Hid (splitL T = some (wl)) := Lib.hid (by rw [plain_end HPN.out.rn, if_pos (HEE.out.1 rfl)])
          have HTL : Hid (T.length ≤ 1000000) := Lib.hid (by have := HPN.out.tk; have := HN.out; omega)
          have HR7 : Hid (StrRow wr p wl) := Lib.hid (own_str2 HPN.out.own)
          rcases Nat.lt_or_ge 64 (z) with h64 | h64
          · have HSP : Hid (∀ V, Calls Try.prog 10 #[.string TV] V fun e V' => e = .returned (.tuple #[.slice none 0 0, .int .i64 3]) ∧ Below V.heap.size V V') := Lib.hid fun V => by
              rw [← HTE.out]; exact split_many T _ HTL.out HTS.out (by rw [HZ.out]; exact h64) V
            have hz64 : (64 : Int) < ((z : Nat) : Int) := by omega
            have hz65 : (64 : Int) < (z : Int) := by omega
            clear h64
            go_wp2_with (first
              | (go_at_call 10; refine (HSP.out _).mono ?_; clear HSP; rintro e V8 ⟨rfl, hb⟩; have HB8 := Lib.hid (HBW.out.trans (hb.mono HBW.out.size)); clear hb)
              | (go_at_call 9; refine (HWK.out _ HB8.out).mono ?_; clear HWK; rintro e V ⟨rfl, hb⟩; have HB := Lib.hid hb; clear hb)
              | fail)
            go_ret
            exact ⟨rfl, HB.out⟩
          · have HSP : Hid (∀ V, Calls Try.prog 10 #[.string TV] V fun e V' => ∃ A d, e = .returned (.tuple #[.slice A (z) d, .int .i64 0]) ∧ StrRow V' A (wl) ∧ Below V.heap.size V V') := Lib.hid fun V => by
              rw [← HTE.out]
              have := split_yes T _ HTL.out HTS.out (by rw [HZ.out]; exact h64) V
              rw [HZ.out] at this
              exact this
            have HSA2 : Hid (∀ B D c d V, StrRow V B (wl) → StrRow V D (wl) → Calls Try.prog 12 #[.slice B (z) c, .slice D (z) d] V fun e V' => e = .returned (.bool true) ∧ Below V.heap.size V V') := Lib.hid fun B D c d V hB hD => by
              have := same_any B D c d _ _ V hB hD (by rw [HZ.out]; omega)
              rw [HZ.out] at this
              exact this.mono fun e V' ⟨he, hb⟩ => ⟨by rw [he, decide_eq_true rfl], hb⟩
            have hz64 : ¬ (64 : Int) < ((z : Nat) : Int) := by omega
            have hz65 : ¬ (64 : Int) < (z : Int) := by omega
            clear h64
            go_wp2_with (first
              | (go_at_call 10; refine (HSP.out _).mono ?_; clear HSP; rintro e V8 ⟨A8, d8, rfl, hr, hb⟩; have HR8 := Lib.hid hr; have HW8 := Lib.hid (HR7.out.keep hb); have HB8 := Lib.hid (HBW.out.trans (hb.mono HBW.out.size)); clear hr hb)
              | (go_at_call 12; refine (HSA2.out _ _ _ _ _ HR8.out HW8.out).mono ?_; rintro e V9 ⟨rfl, hb⟩; have HB9 := Lib.hid (HB8.out.trans (hb.mono HB8.out.size)); clear hb)
              | (go_at_call 9; refine (HWK.out _ HB9.out).mono ?_; clear HWK; rintro e V ⟨rfl, hb⟩; have HB := Lib.hid hb; clear hb)
              | fail)
            go_ret
            exact ⟨rfl, HB.out⟩
        | false =>
          have HTS : Hid (splitL T = some (wl ++ [cur])) := Lib.hid (by rw [plain_end HPN.out.rn, if_neg (HEE.out.2 rfl)])
          have HTL : Hid (T.length ≤ 1000000) := Lib.hid (by have := HPN.out.tk; have := HN.out; omega)
          have HOW := Lib.hid HPN.out.own
          have HZ1 : Hid ((wl ++ [cur]).length = z + 1) := Lib.hid (by rw [List.length_append, HZ.out]; rfl)
          have HAP : Hid (∀ v' w' o, OwnR w' w.heap.size 9 1 v' (wl.map cellT ++ [[.string CV]]) → (wr.alloc o).grownBy w' (Value.ownBlock (.slice p z cp)) → ∃ A d, v' = .slice A (z + 1) d ∧ StrRow w' A (wl ++ [cur]) ∧ Below w.heap.size w w') := Lib.hid fun v' w' o hown hgr => by
            have hown : OwnR w' w.heap.size 9 1 v' ((wl ++ [cur]).map cellT) := by rw [List.map_append]; show OwnR _ _ _ _ _ (_ ++ [[.string (bs cur)]]); rw [HCE.out]; exact hown
            obtain ⟨A, d, e, hr⟩ := own_str hown
            rw [HZ1.out] at e
            exact ⟨A, d, e, hr, HPN.out.bel.trans (own_below HPN.out.own HPN.out.bel.size o hgr)⟩
          rcases Nat.lt_or_ge 64 (z + 1) with h64 | h64
          · have HSP : Hid (∀ V, Calls Try.prog 10 #[.string TV] V fun e V' => e = .returned (.tuple #[.slice none 0 0, .int .i64 3]) ∧ Below V.heap.size V V') := Lib.hid fun V => by
              rw [← HTE.out]; exact split_many T _ HTL.out HTS.out (by rw [HZ1.out]; exact h64) V
            have hz64 : (64 : Int) < ((z + 1 : Nat) : Int) := by omega
            have hz65 : (64 : Int) < (z : Int) + 1 := by omega
            clear h64
            go_wp2_with (first
              | (at_builtin; refine plain_append_one (.tmp 57) (.tmp 59) rfl 23 9 1 16 _ rfl Try.underlying23 str_info rfl (by decide) (by decide) w.heap.size _ _ [.string CV] ⟨wr.heap.size, 0, none⟩ 1 rfl rfl (HOW.out.alloc _) rfl (new_cells wr _ rfl _ _) (by simp [Value.oneCell']) (by rw [List.length_map]; have := HUP.out; omega) (by have := HBW.out.size; simp; omega) ?_; intro v' w' hown hgr hat; obtain ⟨A7, d7, rfl, hr7, hb7⟩ := HAP.out _ _ _ hown hgr; have HR7 := Lib.hid hr7; have HB7 := Lib.hid hb7; clear hown hgr hat hr7 hb7)
              | (go_at_call 10; refine (HSP.out _).mono ?_; clear HSP; rintro e V8 ⟨rfl, hb⟩; have HB8 := Lib.hid (HB7.out.trans (hb.mono HB7.out.size)); clear hb)
              | (go_at_call 9; refine (HWK.out _ HB8.out).mono ?_; clear HWK; rintro e V ⟨rfl, hb⟩; have HB := Lib.hid hb; clear hb)
              | fail)
            go_ret
            exact ⟨rfl, HB.out⟩
          · have HSP : Hid (∀ V, Calls Try.prog 10 #[.string TV] V fun e V' => ∃ A d, e = .returned (.tuple #[.slice A (z + 1) d, .int .i64 0]) ∧ StrRow V' A (wl ++ [cur]) ∧ Below V.heap.size V V') := Lib.hid fun V => by
              rw [← HTE.out]
              have := split_yes T _ HTL.out HTS.out (by rw [HZ1.out]; exact h64) V
              rw [HZ1.out] at this
              exact this
            have HSA2 : Hid (∀ B D c d V, StrRow V B (wl ++ [cur]) → StrRow V D (wl ++ [cur]) → Calls Try.prog 12 #[.slice B (z + 1) c, .slice D (z + 1) d] V fun e V' => e = .returned (.bool true) ∧ Below V.heap.size V V') := Lib.hid fun B D c d V hB hD => by
              have := same_any B D c d _ _ V hB hD (by rw [HZ1.out]; omega)
              rw [HZ1.out] at this
              exact this.mono fun e V' ⟨he, hb⟩ => ⟨by rw [he, decide_eq_true rfl], hb⟩
            have hz64 : ¬ (64 : Int) < ((z + 1 : Nat) : Int) := by omega
            have hz65 : ¬ (64 : Int) < (z : Int) + 1 := by omega
            clear h64
            go_wp2_with (first
              | (at_builtin; refine plain_append_one (.tmp 57) (.tmp 59) rfl 23 9 1 16 _ rfl Try.underlying23 str_info rfl (by decide) (by decide) w.heap.size _ _ [.string CV] ⟨wr.heap.size, 0, none⟩ 1 rfl rfl (HOW.out.alloc _) rfl (new_cells wr _ rfl _ _) (by simp [Value.oneCell']) (by rw [List.length_map]; have := HUP.out; omega) (by have := HBW.out.size; simp; omega) ?_; intro v' w' hown hgr hat; obtain ⟨A7, d7, rfl, hr7, hb7⟩ := HAP.out _ _ _ hown hgr; have HR7 := Lib.hid hr7; have HB7 := Lib.hid hb7; clear hown hgr hat hr7 hb7)
              | (go_at_call 10; refine (HSP.out _).mono ?_; clear HSP; rintro e V8 ⟨A8, d8, rfl, hr, hb⟩; have HR8 := Lib.hid hr; have HW8 := Lib.hid (HR7.out.keep hb); have HB8 := Lib.hid (HB7.out.trans (hb.mono HB7.out.size)); clear hr hb)
              | (go_at_call 12; refine (HSA2.out _ _ _ _ _ HR8.out HW8.out).mono ?_; rintro e V9 ⟨rfl, hb⟩; have HB9 := Lib.hid (HB8.out.trans (hb.mono HB8.out.size)); clear hb)
              | (go_at_call 9; refine (HWK.out _ HB9.out).mono ?_; clear HWK; rintro e V ⟨rfl, hb⟩; have HB := Lib.hid hb; clear hb)
              | fail)
            go_ret
            exact ⟨rfl, HB.out⟩
theorem wordsPlain_any (a : ByteArray) (w : World) : Calls Try.prog 6 #[.string a] w fun e w' => e = .returned (.bool true) ∧ Below w.heap.size w w' := by
  have := plainLaw_any a.data.toList w
  rw [bs_of] at this
  exact this
end Go.Proofs.Ytffmchbcpihjhaa.Wd
