/-
  Layer 12 (words): a word, as the machine takes it.
-/
import Derived.Test.YtffmchbcpihjhaaWdQuo
namespace Go.Proofs.Ytffmchbcpihjhaa.Wd
open Go.RowKit
set_option maxRecDepth 100000

theorem in0_quote (c : UInt8) (hc : qt c = true) (ws : List (List UInt8)) (acc t : List UInt8) : run (some ⟨.Q 0, ws, acc⟩) (c :: t) = run (some ⟨.Q c, ws, acc⟩) t := by
  have hb : blk c = false := by
    unfold qt at hc
    rw [Bool.or_eq_true, beq_iff_eq, beq_iff_eq] at hc
    rcases hc with rfl | rfl <;> decide
  rw [run_cons]; unfold step inW; simp only [if_true]; rw [if_neg (by rw [hb]; decide), if_pos hc]
theorem in0_esc (ws : List (List UInt8)) (acc t : List UInt8) : run (some ⟨.Q 0, ws, acc⟩) (92 :: t) = run (some ⟨.E 0, ws, acc⟩) t := rfl
theorem in0_put (c : UInt8) (h1 : blk c = false) (h2 : qt c = false) (h3 : c ≠ 92) (ws : List (List UInt8)) (acc t : List UInt8) : run (some ⟨.Q 0, ws, acc⟩) (c :: t) = run (some ⟨.Q 0, ws, acc ++ [c]⟩) t := by
  rw [run_cons]; unfold step inW; simp only [if_true]; rw [if_neg (by rw [h1]; decide), if_neg (by rw [h2]; decide), if_neg h3]
theorem Wk.fr {V V' : World} {rb mb base : Nat} {v : Value} {acc r : List UInt8} (h : Wk V rb mb base v acc r) (o : Obj) (hg : (V.alloc o).grownBy V' v.ownBlock) : Fr base rb V V' := by
  have hs : (V.alloc o).heap.size = V.heap.size + 1 := by show (V.heap.push _).size = _; simp only [Array.size_push]
  exact Fr.ofB (((Below.refl _ V).alloc h.hB o).trans ((h.own.alloc o).below hg (Nat.le_refl _) (by rw [hs]; have := h.hB; omega)))
/-- quoted, its answer as one. -/
theorem quoted_one (q : UInt8) (hq : q ≠ 0) (v : Value) (acc r : List UInt8) (rb mb base : Nat) (V : World) (h : Wk V rb mb base v acc r) (hl : acc.length + r.length ≤ 1000000) : Calls Try.prog 27 #[.pointer (some ⟨rb, 0, none⟩), v, .int .u8 (q.toNat : Int)] V fun e V' =>
    ∃ v' ok, e = .returned (.tuple #[v', .bool ok]) ∧ Fr base rb V V' ∧ ((ok = true ∧ ∃ acc' r', Wk V' rb mb base v' acc' r' ∧ acc'.length + r'.length ≤ acc.length + r.length ∧ r'.length ≤ r.length ∧ ∀ ws, run (some ⟨.Q q, ws, acc⟩) r = run (some ⟨.Q 0, ws, acc'⟩) r') ∨ (ok = false ∧ ∀ ws, fin (run (some ⟨.Q q, ws, acc⟩) r) = none)) :=
  (quoted_any q hq v acc r rb mb base V h hl).mono fun e V' h => by
    rcases h with ⟨v', acc', r', he, hw, hf, h1, h2, h3⟩ | ⟨v', he, hf, h3⟩
    · exact ⟨v', true, he, hf, .inl ⟨rfl, acc', r', hw, h1, h2, h3⟩⟩
    · exact ⟨v', false, he, hf, .inr ⟨rfl, h3⟩⟩
set_option maxHeartbeats 8000000 in
theorem word_any (r : List UInt8) (rb mb : Nat) (V : World) (h : Rd V rb mb r) (hl : r.length ≤ 1000000) : Calls Try.prog 17 #[.pointer (some ⟨rb, 0, none⟩)] V fun e V' =>
    (∃ acc r', e = .returned (.tuple #[.string (bs acc), .bool true]) ∧ Rd V' rb mb r' ∧ Fr V.heap.size rb V V' ∧ (r' = r ∨ r'.length < r.length) ∧ (r' = [] ∨ ∃ c t, r' = c :: t ∧ blk c = true) ∧ acc.length ≤ r.length ∧ ∀ ws, run (some ⟨.Q 0, ws, []⟩) r = run (some ⟨.Q 0, ws, acc⟩) r') ∨
    (e = .returned (.tuple #[.string ⟨#[]⟩, .bool false]) ∧ Fr V.heap.size rb V V' ∧ ∀ ws, fin (run (some ⟨.Q 0, ws, []⟩) r) = none) := by
  have H : Hid (Wk V rb mb V.heap.size (.slice none 0 0) [] r) := Lib.hid ⟨h, OwnR.nil _ _ _ _, h.lr, h.lm, Nat.le_refl _⟩
  clear h
  obtain ⟨base, hbase⟩ : ∃ b, V.heap.size = b := ⟨_, rfl⟩
  rw [hbase] at H ⊢
  clear hbase
  go_enter Try.func17, Try.ntmps17
  go_wp2_with fail
  go_loopw [4] (fun u wr => ∃ acc' r' : List UInt8, Wk wr rb mb base u acc' r' ∧ Fr base rb V wr ∧ acc'.length + r'.length ≤ r.length ∧ (r' = r ∨ r'.length < r.length) ∧ ∀ ws, run (some ⟨.Q 0, ws, []⟩) r = run (some ⟨.Q 0, ws, acc'⟩) r') (fun _ wr => restZ wr rb)
  case atStart => exact ⟨[], r, H.out, Fr.refl _ _ _, by simp, .inl rfl, fun _ => rfl⟩
  case round =>
    obtain ⟨acc', r', hw, hf, hle, hlr, hrun⟩ := hrel
    have c0 := hw.rd.c0
    have HW := Lib.hid hw
    have HF := Lib.hid hf
    have HRN := Lib.hid hrun
    have HLR := Lib.hid hlr
    have HLE : Hid (acc'.length + r'.length ≤ r.length ∧ r.length ≤ 1000000) := Lib.hid ⟨hle, hl⟩
    have hcv := own_text hw.own
    clear hw hf hrun H hlr hle hl
    cases r' with
    | nil =>
      have hem : (bs ([] : List UInt8)).toList.isEmpty = true := bs_empty []
      go_wp2_with fail
      go_ret2
      exact .inl ⟨acc', [], rfl, HW.out.rd, HF.out, HLR.out, .inl rfl, by have := HLE.out; omega, HRN.out⟩
    | cons c t =>
      have hem : (bs (c :: t)).toList.isEmpty = false := bs_empty _
      have hz : 0 < (bs (c :: t)).size := by show 0 < (c :: t).length; simp
      have hx : (bs (c :: t))[0] = c := rfl
      have HRS := Lib.hid HW.out.rd.rest
      have HLT : Hid (acc'.length + t.length + 1 ≤ r.length ∧ t.length < r.length ∧ r.length ≤ 1000000) := Lib.hid (by have := HLE.out; rw [List.length_cons] at this; omega)
      have HBL := Lib.hid (isBlank_at c)
      cases hb : blk c with
      | true =>
        rw [hb] at HBL
        generalize bs (c :: t) = S at *
        go_wp2_with (first
          | (go_at_call 25; (try rw [hx]); refine (HBL.out _).mono ?_; rintro e W ⟨rfl, rfl⟩)
          | fail)
        go_ret2
        exact .inl ⟨acc', c :: t, rfl, HW.out.rd, HF.out, HLR.out, .inr ⟨c, t, rfl, hb⟩, by have := HLE.out; omega, HRN.out⟩
      | false =>
        rw [hb] at HBL
        clear hcv
        generalize bs (c :: t) = S at *
        have HUP : Hid (acc'.length ≤ 1000000) := Lib.hid (by have := HLT.out; omega)
        cases hqt : qt c with
        | true =>
          have HQ : Hid (∀ ws, run (some ⟨.Q 0, ws, []⟩) r = run (some ⟨.Q c, ws, acc'⟩) t) := Lib.hid fun ws => by rw [HRN.out, in0_quote c hqt]
          have hc0 : c ≠ 0 := fun e => by rw [e] at hqt; exact absurd hqt (by decide)
          have HC0 := Lib.hid hc0
          have hd : (((c.toNat : Int) == 34) = true) ∨ (((c.toNat : Int) == 34) = false ∧ ((c.toNat : Int) == 39) = true) := by
            have e1 : ((c.toNat : Int) == 34) = (c == 34) := u8_is c 34 (by decide)
            have e2 : ((c.toNat : Int) == 39) = (c == 39) := u8_is c 39 (by decide)
            rw [e1, e2]
            unfold qt at hqt
            cases h1 : (c == 34) with
            | true => exact .inl rfl
            | false => rw [h1, Bool.false_or] at hqt; exact .inr ⟨rfl, hqt⟩
          clear hb hqt hc0
          rcases hd with h1 | ⟨h1, h2⟩
          all_goals
            go_upto_region 12 with (first
              | (go_at_call 25; (try rw [hx]); refine (HBL.out _).mono ?_; rintro e W ⟨rfl, rfl⟩)
              | (go_at_call 26; refine (next_at c t rb mb wr HW.out.rd).mono ?_; rintro e W1 ⟨rfl, hR, hG⟩; have K1 := Lib.hid (HW.out.step hR hG); clear hR hG)
              | (go_at_call 27; refine (quoted_one c HC0.out _ acc' t rb mb base W1 K1.out.1 (by have := HLT.out; omega)).mono ?_; rintro e W2 ⟨v2, ok, rfl, hf2, hE⟩; have F2 := Lib.hid hf2; have HE := Lib.hid hE; clear hf2 hE)
              | fail)
            rcases HE.out with ⟨rfl, acc2, r2, hw2, hl1, hl2, hy⟩ | ⟨rfl, hy⟩
            · have HW2 := Lib.hid hw2
              clear hw2
              go_wp2_with fail
              go_roundw
              case rel => exact ⟨acc2, r2, HW2.out, HF.out.trans (K1.out.2.trans F2.out), by have := HLT.out; omega, .inr (by have := HLT.out; omega), fun ws => by rw [HQ.out, hy]⟩
              case measure => rw [HW2.out.rd.rest, HRS.out, List.length_cons]; omega
            · go_wp2_with fail
              go_ret2
              exact .inr ⟨rfl, HF.out.trans (K1.out.2.trans F2.out), fun ws => by rw [HQ.out, hy]⟩
        | false =>
          have hq34 : ((c.toNat : Int) == 34) = false := (u8_is c 34 (by decide)).trans (by unfold qt at hqt; rw [Bool.or_eq_false_iff] at hqt; exact hqt.1)
          have hq39 : ((c.toNat : Int) == 39) = false := (u8_is c 39 (by decide)).trans (by unfold qt at hqt; rw [Bool.or_eq_false_iff] at hqt; exact hqt.2)
          by_cases h92 : c = 92
          · have hc92 : ((c.toNat : Int) == 92) = true := (u8_is c 92 (by decide)).trans (beq_iff_eq.mpr h92)
            have HQ : Hid (∀ ws, run (some ⟨.Q 0, ws, []⟩) r = run (some ⟨.E 0, ws, acc'⟩) t) := Lib.hid fun ws => by rw [HRN.out, h92, in0_esc]
            clear hb hqt h92
            go_upto_region 11 with (first
              | (go_at_call 25; (try rw [hx]); refine (HBL.out _).mono ?_; rintro e W ⟨rfl, rfl⟩)
              | (go_at_call 26; refine (next_at c t rb mb wr HW.out.rd).mono ?_; rintro e W1 ⟨rfl, hR, hG⟩; have K1 := Lib.hid (HW.out.step hR hG); clear hR hG)
              | (go_at_call 28; refine (escaped_any t rb mb W1 K1.out.1.rd).mono ?_; rintro e W2 ⟨x, ok, r2, rfl, hR, hG, hE⟩; have K2 := Lib.hid (K1.out.1.step hR hG); have HE := Lib.hid hE; clear hR hG hE)
              | fail)
            rcases HE.out with ⟨hlen, ⟨rfl, y, rfl, hy⟩ | ⟨rfl, hy⟩⟩
            · go_wp2_with (first
                | (at_builtin; refine plain_append_one (.tmp 45) (.tmp 47) rfl 35 5 1 1 _ rfl Try.underlying35 u8_info rfl (by decide) (by decide) base _ _ (cellB y) ⟨W2.heap.size, 0, none⟩ 1 rfl rfl (K2.out.1.own.alloc _) rfl (new_cells W2 _ rfl _ _) (by simp [cellB, Value.oneCell']) (by rw [List.length_map]; have := HUP.out; omega) (by have := K2.out.1.hB; simp; omega) ?_; intro v' w' hown hgr hat; have K3 := Lib.hid (K2.out.1.put _ y hown hgr); clear hown hgr hat)
                | fail)
              go_roundw
              case rel => exact ⟨acc' ++ [y], r2, K3.out.1, HF.out.trans (K1.out.2.trans (K2.out.2.trans K3.out.2)), by have := HLT.out; rw [List.length_append]; show acc'.length + 1 + r2.length ≤ _; omega, .inr (by have := HLT.out; omega), fun ws => by rw [HQ.out, hy]⟩
              case measure => rw [K3.out.1.rd.rest, HRS.out, List.length_cons]; omega
            · go_wp2_with (first
                | (at_builtin; refine plain_append_one (.tmp 45) (.tmp 47) rfl 35 5 1 1 _ rfl Try.underlying35 u8_info rfl (by decide) (by decide) base _ _ [.int .u8 x] ⟨W2.heap.size, 0, none⟩ 1 rfl rfl (K2.out.1.own.alloc _) rfl (new_cells W2 _ rfl _ _) (by simp [Value.oneCell']) (by rw [List.length_map]; have := HUP.out; omega) (by have := K2.out.1.hB; simp; omega) ?_; intro v' w' hown hgr hat; have K3 := Lib.hid (K2.out.1.fr _ hgr); clear hown hgr hat)
                | fail)
              go_ret2
              exact .inr ⟨rfl, HF.out.trans (K1.out.2.trans (K2.out.2.trans K3.out)), fun ws => by rw [HQ.out, hy]⟩
          · have hc92 : ((c.toNat : Int) == 92) = false := (u8_is c 92 (by decide)).trans (beq_eq_false_iff_ne.mpr h92)
            have HQ : Hid (∀ ws, run (some ⟨.Q 0, ws, []⟩) r = run (some ⟨.Q 0, ws, acc' ++ [c]⟩) t) := Lib.hid fun ws => by rw [HRN.out, in0_put c hb hqt h92]
            clear hb hqt h92
            go_wp2_with (first
              | (go_at_call 25; (try rw [hx]); refine (HBL.out _).mono ?_; rintro e W ⟨rfl, rfl⟩)
              | (go_at_call 26; refine (next_at c t rb mb wr HW.out.rd).mono ?_; rintro e W1 ⟨rfl, hR, hG⟩; have K1 := Lib.hid (HW.out.step hR hG); clear hR hG)
              | (at_builtin; refine plain_append_one (.tmp 24) (.tmp 26) rfl 35 5 1 1 _ rfl Try.underlying35 u8_info rfl (by decide) (by decide) base _ _ (cellB c) ⟨W1.heap.size, 0, none⟩ 1 rfl rfl (K1.out.1.own.alloc _) rfl (new_cells W1 _ rfl _ _) (by simp [cellB, Value.oneCell']) (by rw [List.length_map]; have := HUP.out; omega) (by have := K1.out.1.hB; simp; omega) ?_; intro v' w' hown hgr hat; have K3 := Lib.hid (K1.out.1.put _ c hown hgr); clear hown hgr hat)
              | fail)
            go_roundw
            case rel => exact ⟨acc' ++ [c], t, K3.out.1, HF.out.trans (K1.out.2.trans K3.out.2), by have := HLT.out; rw [List.length_append]; show acc'.length + 1 + t.length ≤ _; omega, .inr HLT.out.2.1, HQ.out⟩
            case measure => rw [K3.out.1.rd.rest, HRS.out, List.length_cons]; omega
end Go.Proofs.Ytffmchbcpihjhaa.Wd
