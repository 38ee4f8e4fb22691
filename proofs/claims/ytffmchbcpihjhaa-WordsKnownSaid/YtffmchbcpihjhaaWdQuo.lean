/-
  Layer 12 (words): what is quoted, as the machine takes it.
-/
import Derived.Test.YtffmchbcpihjhaaWdRow
import Derived.Deep.CutBlock
namespace Go.Proofs.Ytffmchbcpihjhaa.Wd
open Go.RowKit
set_option maxRecDepth 100000

/-- All below base is as it was, but the reader. -/
structure Fr (base rb : Nat) (V V' : World) : Prop where
  os : V'.os = V.os
  tape : V'.tape = V.tape
  output : V'.output = V.output
  size : V.heap.size ≤ V'.heap.size
  block : ∀ k, k < base → k ≠ rb → V'.heap[k]? = V.heap[k]?
theorem Fr.refl (base rb : Nat) (V : World) : Fr base rb V V := ⟨rfl, rfl, rfl, Nat.le_refl _, fun _ _ _ => rfl⟩
theorem Fr.trans {base rb : Nat} {V V' V'' : World} (h : Fr base rb V V') (k : Fr base rb V' V'') : Fr base rb V V'' := ⟨k.os.trans h.os, k.tape.trans h.tape, k.output.trans h.output, Nat.le_trans h.size k.size, fun q hq hn => (k.block q hq hn).trans (h.block q hq hn)⟩
theorem Fr.of {base rb : Nat} {V V' : World} (h : V.grownBy V' (some rb)) (hB : base ≤ V.heap.size) : Fr base rb V V' := ⟨h.os, h.tape, h.output, h.size, fun k hk hn => h.block k (by omega) (fun e => hn (by injection e))⟩
theorem Fr.ofB {base rb : Nat} {V V' : World} (h : Below base V V') : Fr base rb V V' := ⟨h.os, h.tape, h.output, h.size, fun k hk _ => h.block k hk⟩
/-- The reader, and the word that is being read. -/
structure Wk (V : World) (rb mb base : Nat) (v : Value) (acc r : List UInt8) : Prop where
  rd : Rd V rb mb r
  own : OwnR V base 5 1 v (acc.map cellB)
  hr : rb < base
  hm : mb < base
  hB : base ≤ V.heap.size
theorem Wk.step {V V' : World} {rb mb base : Nat} {v : Value} {acc r r' : List UInt8} (h : Wk V rb mb base v acc r) (hR : Rd V' rb mb r') (hG : V.grownBy V' (some rb)) : Wk V' rb mb base v acc r' ∧ Fr base rb V V' := by
  refine ⟨⟨hR, h.own.kept hG ?_, h.hr, h.hm, Nat.le_trans h.hB hG.size⟩, Fr.of hG h.hB⟩
  cases hv : v.ownBlock with
  | none => exact .inl rfl
  | some k =>
    refine .inr fun e => ?_
    injection e with e
    have := (h.own.lt k hv).1
    have := h.hr
    omega
/-- One byte more. -/
theorem Wk.put {V V' : World} {rb mb base : Nat} {v v' : Value} {acc r : List UInt8} (h : Wk V rb mb base v acc r) (o : Obj) (b : UInt8) (hown : OwnR V' base 5 1 v' (acc.map cellB ++ [cellB b])) (hg : (V.alloc o).grownBy V' v.ownBlock) : Wk V' rb mb base v' (acc ++ [b]) r ∧ Fr base rb V V' := by
  have hs : (V.alloc o).heap.size = V.heap.size + 1 := by show (V.heap.push _).size = _; simp only [Array.size_push]
  have hb : Below base V V' := ((Below.refl _ V).alloc h.hB o).trans ((h.own.alloc o).below hg (Nat.le_refl _) (by rw [hs]; have := h.hB; omega))
  exact ⟨⟨h.rd.keep (hb.block rb h.hr) (hb.block mb h.hm) hb.size, by rw [List.map_append]; exact hown, h.hr, h.hm, Nat.le_trans h.hB hb.size⟩, Fr.ofB hb⟩
theorem inq_end (q : UInt8) (hq : q ≠ 0) (ws : List (List UInt8)) (acc t : List UInt8) : run (some ⟨.Q q, ws, acc⟩) (q :: t) = run (some ⟨.Q 0, ws, acc⟩) t := by
  rw [run_cons]; unfold step inW; simp only; rw [if_neg hq]; simp only [if_true]
theorem inq_esc (ws : List (List UInt8)) (acc t : List UInt8) : run (some ⟨.Q 34, ws, acc⟩) (92 :: t) = run (some ⟨.E 34, ws, acc⟩) t := rfl
theorem inq_put (q c : UInt8) (hq : q ≠ 0) (h1 : c ≠ q) (h2 : ¬ (c = 92 ∧ q = 34)) (ws : List (List UInt8)) (acc t : List UInt8) : run (some ⟨.Q q, ws, acc⟩) (c :: t) = run (some ⟨.Q q, ws, acc ++ [c]⟩) t := by
  rw [run_cons]; unfold step inW; simp only; rw [if_neg hq, if_neg h1, if_neg h2]
theorem u8_two (b c : UInt8) : ((b.toNat : Int) == (c.toNat : Int)) = (b == c) := by
  rw [Bool.eq_iff_iff, beq_iff_eq, beq_iff_eq]
  constructor
  · intro h
    have h : b.toNat = c.toNat := by omega
    exact UInt8.toNat_inj.mp h
  · rintro rfl; rfl
set_option maxHeartbeats 4000000 in
theorem quoted_any (q : UInt8) (hq : q ≠ 0) (v : Value) (acc r : List UInt8) (rb mb base : Nat) (V : World) (h : Wk V rb mb base v acc r) (hl : acc.length + r.length ≤ 1000000) : Calls Try.prog 27 #[.pointer (some ⟨rb, 0, none⟩), v, .int .u8 (q.toNat : Int)] V fun e V' =>
    (∃ v' acc' r', e = .returned (.tuple #[v', .bool true]) ∧ Wk V' rb mb base v' acc' r' ∧ Fr base rb V V' ∧ acc'.length + r'.length ≤ acc.length + r.length ∧ r'.length ≤ r.length ∧ ∀ ws, run (some ⟨.Q q, ws, acc⟩) r = run (some ⟨.Q 0, ws, acc'⟩) r') ∨
    (∃ v', e = .returned (.tuple #[v', .bool false]) ∧ Fr base rb V V' ∧ ∀ ws, fin (run (some ⟨.Q q, ws, acc⟩) r) = none) := by
  have H := Lib.hid h
  clear h
  go_enter Try.func27, Try.ntmps27
  go_wp2_with fail
  go_loopw [1] (fun u wr => ∃ acc' r' : List UInt8, Wk wr rb mb base u acc' r' ∧ Fr base rb V wr ∧ acc'.length + r'.length ≤ acc.length + r.length ∧ r'.length ≤ r.length ∧ ∀ ws, run (some ⟨.Q q, ws, acc⟩) r = run (some ⟨.Q q, ws, acc'⟩) r') (fun _ wr => restZ wr rb)
  case atStart => exact ⟨acc, r, H.out, Fr.refl _ _ _, Nat.le_refl _, Nat.le_refl _, fun _ => rfl⟩
  case round =>
    obtain ⟨acc', r', hw, hf, hle, hlr, hrun⟩ := hrel
    have c0 := hw.rd.c0
    have HW := Lib.hid hw
    have HF := Lib.hid hf
    have HRN := Lib.hid hrun
    clear hw hf hrun H
    cases r' with
    | nil =>
      have hem : (bs ([] : List UInt8)).toList.isEmpty = true := bs_empty []
      go_wp2_with fail
      go_ret2
      exact .inr ⟨_, rfl, HF.out, fun ws => by rw [HRN.out]; show (if q = 0 then some (ws ++ [acc']) else none) = none; rw [if_neg hq]⟩
    | cons c t =>
      have hem : (bs (c :: t)).toList.isEmpty = false := bs_empty _
      have hle2 : acc'.length + t.length + 1 ≤ acc.length + r.length := by rw [List.length_cons] at hle; omega
      have hlr2 : t.length + 1 ≤ r.length := by rw [List.length_cons] at hlr; omega
      have HLE : Hid (acc'.length + t.length + 1 ≤ acc.length + r.length ∧ t.length + 1 ≤ r.length ∧ acc.length + r.length ≤ 1000000) := Lib.hid ⟨hle2, hlr2, hl⟩
      have HRS := Lib.hid HW.out.rd.rest
      clear hle hlr hle2 hlr2 hl
      generalize bs (c :: t) = S at *
      have e0 := u8_two c q
      by_cases hcq : c = q
      · subst hcq
        have HQ : Hid (∀ ws, run (some ⟨.Q c, ws, acc⟩) r = run (some ⟨.Q 0, ws, acc'⟩) t) := Lib.hid fun ws => by rw [HRN.out, inq_end c hq]
        clear e0
        go_wp2_with (first
          | (go_at_call 26; refine (next_at c t rb mb wr HW.out.rd).mono ?_; rintro e W1 ⟨rfl, hR, hG⟩; have K1 := Lib.hid (HW.out.step hR hG); clear hR hG)
          | fail)
        go_ret2
        exact .inl ⟨_, acc', t, rfl, K1.out.1, HF.out.trans K1.out.2, by have := HLE.out; omega, by have := HLE.out; omega, HQ.out⟩
      · have hn0 : ¬ (c.toNat : Int) = (q.toNat : Int) := fun e => hcq (UInt8.toNat_inj.mp (by omega))
        have HUP : Hid (acc'.length ≤ 1000000) := Lib.hid (by have := HLE.out; omega)
        by_cases hesc : c = 92 ∧ q = 34
        · have e1 : ((c.toNat : Int) == 92) = true := (u8_is c 92 (by decide)).trans (beq_iff_eq.mpr hesc.1)
          have e2 : ((q.toNat : Int) == 34) = true := (u8_is q 34 (by decide)).trans (beq_iff_eq.mpr hesc.2)
          have HQ : Hid (∀ ws, run (some ⟨.Q q, ws, acc⟩) r = run (some ⟨.E q, ws, acc'⟩) t) := Lib.hid fun ws => by rw [HRN.out, hesc.1, hesc.2, inq_esc]
          clear hesc
          clear e0 hcq hn0
          go_upto_region 7 with (first
            | (go_at_call 26; refine (next_at c t rb mb wr HW.out.rd).mono ?_; rintro e W1 ⟨rfl, hR, hG⟩; have K1 := Lib.hid (HW.out.step hR hG); clear hR hG)
            | (go_at_call 28; refine (escaped_any t rb mb W1 K1.out.1.rd).mono ?_; rintro e W2 ⟨x, ok, r2, rfl, hR, hG, hE⟩; have K2 := Lib.hid (K1.out.1.step hR hG); have HE := Lib.hid hE; clear hR hG hE)
            | fail)
          rcases HE.out with ⟨hlen, ⟨rfl, y, rfl, hy⟩ | ⟨rfl, hy⟩⟩
          · go_wp2_with (first
              | (at_builtin; refine plain_append_one (.tmp 34) (.tmp 36) rfl 35 5 1 1 _ rfl Try.underlying35 u8_info rfl (by decide) (by decide) base _ _ (cellB y) ⟨W2.heap.size, 0, none⟩ 1 rfl rfl (K2.out.1.own.alloc _) rfl (new_cells W2 _ rfl _ _) (by simp [cellB, Value.oneCell']) (by rw [List.length_map]; have := HUP.out; omega) (by have := K2.out.1.hB; simp; omega) ?_; intro v' w' hown hgr hat; have K3 := Lib.hid (K2.out.1.put _ y hown hgr); clear hown hgr hat)
              | fail)
            go_round
            case rel => exact ⟨acc' ++ [y], r2, K3.out.1, HF.out.trans (K1.out.2.trans (K2.out.2.trans K3.out.2)), by have := HLE.out; rw [List.length_append]; show acc'.length + 1 + r2.length ≤ _; omega, by have := HLE.out; omega, fun ws => by rw [HQ.out, hy]⟩
            case measure => rw [K3.out.1.rd.rest, HRS.out, List.length_cons]; omega
          · go_wp2_with fail
            go_ret2
            exact .inr ⟨_, rfl, HF.out.trans (K1.out.2.trans K2.out.2), fun ws => by rw [HQ.out, hy]⟩
        · have HQ : Hid (∀ ws, run (some ⟨.Q q, ws, acc⟩) r = run (some ⟨.Q q, ws, acc' ++ [c]⟩) t) := Lib.hid fun ws => by rw [HRN.out, inq_put q c hq hcq hesc]
          have hd : (((c.toNat : Int) == 92) = false) ∨ (((c.toNat : Int) == 92) = true ∧ ((q.toNat : Int) == 34) = false) := by
            by_cases h1 : c = 92
            · exact .inr ⟨(u8_is c 92 (by decide)).trans (beq_iff_eq.mpr h1), (u8_is q 34 (by decide)).trans (beq_eq_false_iff_ne.mpr fun h2 => hesc ⟨h1, h2⟩)⟩
            · exact .inl ((u8_is c 92 (by decide)).trans (beq_eq_false_iff_ne.mpr h1))
          clear hesc hcq e0
          rcases hd with h1 | ⟨h1, h2⟩
          all_goals
            go_wp2_with (first
              | (go_at_call 26; refine (next_at c t rb mb wr HW.out.rd).mono ?_; rintro e W1 ⟨rfl, hR, hG⟩; have K1 := Lib.hid (HW.out.step hR hG); clear hR hG)
              | (at_builtin; refine plain_append_one (.tmp 34) (.tmp 36) rfl 35 5 1 1 _ rfl Try.underlying35 u8_info rfl (by decide) (by decide) base _ _ (cellB c) ⟨W1.heap.size, 0, none⟩ 1 rfl rfl (K1.out.1.own.alloc _) rfl (new_cells W1 _ rfl _ _) (by simp [cellB, Value.oneCell']) (by rw [List.length_map]; have := HUP.out; omega) (by have := K1.out.1.hB; simp; omega) ?_; intro v' w' hown hgr hat; have K3 := Lib.hid (K1.out.1.put _ c hown hgr); clear hown hgr hat)
              | fail)
            go_round
            case rel => exact ⟨acc' ++ [c], t, K3.out.1, HF.out.trans (K1.out.2.trans K3.out.2), by have := HLE.out; rw [List.length_append]; show acc'.length + 1 + t.length ≤ _; omega, by have := HLE.out; omega, HQ.out⟩
            case measure => rw [K3.out.1.rd.rest, HRS.out, List.length_cons]; omega
end Go.Proofs.Ytffmchbcpihjhaa.Wd
