/-
  Layer 12 (words): Split tells what the machine tells.
-/
import Derived.Test.YtffmchbcpihjhaaWdWord
import Derived.Test.YtffmchbcpihjhaaWdMap
namespace Go.Proofs.Ytffmchbcpihjhaa.Wd
open Go.RowKit
set_option maxRecDepth 100000

theorem run_blanks (ws : List (List UInt8)) : ∀ r : List UInt8, run (some ⟨.B, ws, []⟩) r = run (some ⟨.B, ws, []⟩) (r.dropWhile blk)
  | [] => rfl
  | c :: t => by
    cases hb : blk c with
    | true =>
      rw [List.dropWhile_cons, if_pos hb, ← run_blanks ws t, run_cons]
      unfold step; simp only; rw [if_pos hb]
    | false => rw [List.dropWhile_cons, if_neg (by rw [hb]; decide)]
theorem drop_head : ∀ {r : List UInt8} {c : UInt8} {t : List UInt8}, r.dropWhile blk = c :: t → blk c = false
  | [], _, _, h => by cases h
  | x :: r, c, t, h => by
    cases hx : blk x with
    | true => rw [List.dropWhile_cons, if_pos hx] at h; exact drop_head h
    | false =>
      rw [List.dropWhile_cons, if_neg (by rw [hx]; decide)] at h
      injection h with h1 _
      rw [← h1]; exact hx
theorem run_word (ws : List (List UInt8)) (c : UInt8) (hb : blk c = false) (t : List UInt8) : run (some ⟨.B, ws, []⟩) (c :: t) = run (some ⟨.Q 0, ws, []⟩) (c :: t) := by
  rw [run_cons, run_cons]
  unfold step
  simp only
  rw [if_neg (by rw [hb]; decide)]
theorem run_end (ws : List (List UInt8)) (acc r : List UInt8) (h : r = [] ∨ ∃ c t, r = c :: t ∧ blk c = true) : fin (run (some ⟨.Q 0, ws, acc⟩) r) = fin (run (some ⟨.B, ws ++ [acc], []⟩) r) := by
  rcases h with rfl | ⟨c, t, rfl, hb⟩
  · rfl
  · have e1 : step ⟨.Q 0, ws, acc⟩ c = some ⟨.B, ws ++ [acc], []⟩ := by unfold step inW; simp only [if_true]; rw [if_pos hb]
    have e2 : step ⟨.B, ws ++ [acc], []⟩ c = some ⟨.B, ws ++ [acc], []⟩ := by unfold step; simp only; rw [if_pos hb]
    rw [run_cons, run_cons, e1, e2]
def cellT (x : List UInt8) : List Value := [.string (bs x)]
theorem str_info : (Try.prog.info? 9).map (fun i => (i.zero, i.size, i.bytes)) = some (some (.string ⟨#[]⟩), 1, 16) := by kernel_rfl
/-- word, its answer as one. -/
theorem word_one (r : List UInt8) (rb mb : Nat) (V : World) (h : Rd V rb mb r) (hl : r.length ≤ 1000000) : Calls Try.prog 17 #[.pointer (some ⟨rb, 0, none⟩)] V fun e V' =>
    ∃ acc ok, e = .returned (.tuple #[.string (bs acc), .bool ok]) ∧ Fr V.heap.size rb V V' ∧ ((ok = true ∧ ∃ r', Rd V' rb mb r' ∧ (r' = r ∨ r'.length < r.length) ∧ (r' = [] ∨ ∃ c t, r' = c :: t ∧ blk c = true) ∧ acc.length ≤ r.length ∧ ∀ ws, run (some ⟨.Q 0, ws, []⟩) r = run (some ⟨.Q 0, ws, acc⟩) r') ∨ (ok = false ∧ ∀ ws, fin (run (some ⟨.Q 0, ws, []⟩) r) = none)) :=
  (word_any r rb mb V h hl).mono fun e V' h => by
    rcases h with ⟨acc, r', he, hR, hF, h1, h2, h3, h4⟩ | ⟨he, hF, h4⟩
    · exact ⟨acc, true, he, hF, .inl ⟨rfl, r', hR, h1, h2, h3, h4⟩⟩
    · exact ⟨[], false, he, hF, .inr ⟨rfl, h4⟩⟩
theorem Fr.grown {rb : Nat} {V V' : World} (h : Fr V.heap.size rb V V') : V.grownBy V' (some rb) := ⟨h.os, h.tape, h.output, h.size, fun k hk hn => h.block k hk (fun e => hn (by rw [e]))⟩
theorem own_slice {W : World} {base sz : Nat} {t : TypeId} {v : Value} {xs : List (List Value)} (h : OwnR W base t sz v xs) : ∃ p c, v = .slice p xs.length c := by
  rcases Nat.eq_zero_or_pos xs.length with h0 | h0
  · have h1 := h.1
    rw [h0] at h1
    obtain ⟨p, c, e⟩ := row_none h1
    exact ⟨p, c, by rw [h0]; exact e⟩
  · obtain ⟨g, c, e, _⟩ := row_some h.1 h0
    exact ⟨_, c, e⟩
/-- Between two words: the reader, and the words so far (65 at most). -/
structure Sp (W2 : World) (rb mb : Nat) (ws : List (List UInt8)) (r : List UInt8) (u : Value) (V : World) : Prop where
  rd : Rd V rb mb r
  own : OwnR V (rb + 1) 9 1 u ((ws.take 65).map cellT)
  fr : Fr (rb + 1) rb W2 V
  hm : mb < rb
theorem Sp.step {W2 V V' : World} {rb mb : Nat} {ws : List (List UInt8)} {r r' : List UInt8} {u : Value} (h : Sp W2 rb mb ws r u V) (hR : Rd V' rb mb r') (hG : V.grownBy V' (some rb)) : Sp W2 rb mb ws r' u V' := by
  refine ⟨hR, h.own.kept hG ?_, h.fr.trans (Fr.of hG (by have := h.rd.lr; omega)), h.hm⟩
  cases hv : u.ownBlock with
  | none => exact .inl rfl
  | some k =>
    refine .inr fun e => ?_
    injection e with e
    have := (h.own.lt k hv).1
    omega
theorem Sp.put {W2 V V' : World} {rb mb : Nat} {ws : List (List UInt8)} {r : List UInt8} {u u' : Value} (h : Sp W2 rb mb ws r u V) (o : Obj) (x : List UInt8) (hle : ws.length ≤ 64) (hown : OwnR V' (rb + 1) 9 1 u' ((ws.take 65).map cellT ++ [cellT x])) (hg : (V.alloc o).grownBy V' u.ownBlock) : Sp W2 rb mb (ws ++ [x]) r u' V' := by
  have hs : (V.alloc o).heap.size = V.heap.size + 1 := by show (V.heap.push _).size = _; simp only [Array.size_push]
  have hlr := h.rd.lr
  have hb : Below (rb + 1) V V' := ((Below.refl _ V).alloc (by omega) o).trans ((h.own.alloc o).below hg (Nat.le_refl _) (by rw [hs]; omega))
  have hmr := h.hm
  exact ⟨h.rd.keep (hb.block rb (by omega)) (hb.block mb (by omega)) hb.size, by rw [List.take_of_length_le (by rw [List.length_append]; simp; omega), List.map_append]; rw [List.take_of_length_le (by omega)] at hown; exact hown, h.fr.trans (Fr.ofB hb), h.hm⟩
/-- What Split tells. -/
def Told (s : List UInt8) (base : Nat) (W : World) (v : Value) (err : Int) : Prop := match splitL s with
  | none => v = .slice none 0 0 ∧ err = 120
  | some l => (64 < l.length ∧ v = .slice none 0 0 ∧ err = 3) ∨ (l.length ≤ 64 ∧ OwnR W base 9 1 v (l.map cellT) ∧ err = 0)
set_option maxHeartbeats 8000000 in
theorem split_any (s : List UInt8) (hl : s.length ≤ 1000000) (w : World) : Calls Try.prog 10 #[.string (bs s)] w fun e w' => ∃ v err, e = .returned (.tuple #[v, .int .i64 err]) ∧ Below w.heap.size w w' ∧ Told s w.heap.size w' v err := by
  have HSA := Lib.hid (standing_at w)
  obtain ⟨mb, hmb⟩ : ∃ b, w.heap.size = b := ⟨_, rfl⟩
  rw [hmb] at HSA
  have HMB := Lib.hid hmb
  rw [hmb]
  obtain ⟨S, hS⟩ : ∃ S, bs s = S := ⟨_, rfl⟩
  rw [hS]
  have HS := Lib.hid hS
  have HL := Lib.hid hl
  clear hmb hS hl
  go_enter Try.func10, Try.ntmps10
  go_wp2_with (first
    | (go_at_call 15; refine (HSA.out).mono ?_; clear HSA; rintro e W1 ⟨rfl, hm, hb⟩; have HM := Lib.hid hm; have HB := Lib.hid hb; clear hm hb)
    | fail)
  obtain ⟨rb, hrb⟩ : ∃ b, W1.heap.size = b := ⟨_, rfl⟩
  have hmr : mb < rb := by have := HM.out.lt; omega
  obtain ⟨W2, hW2⟩ : ∃ W, W1.alloc (Obj.cells #[Value.string S, Value.map (some mb)] 39) = W := ⟨_, rfl⟩
  have hold : ∀ k, k < W1.heap.size → W2.heap[k]? = W1.heap[k]? := fun k hk => by rw [← hW2]; exact Below.heap_alloc W1 _ k hk
  have hs2 : W2.heap.size = rb + 1 := by rw [← hW2, ← hrb]; show (W1.heap.push _).size = _; simp
  have hn := heap_alloc_new W1 (Obj.cells #[Value.string S, Value.map (some mb)] 39)
  rw [hW2, hrb] at hn
  have hM2 : Mp W2 mb escE := HM.out.same (hold mb (by omega))
  have hR0 : Rd W2 rb mb s := ⟨by rw [HS.out]; simp [World.cell?, hn], by simp [World.cell?, hn], by simp [World.frozen?, hn], by omega, by omega, by omega, fun V' hV b => mp_look (hM2.same hV) b⟩
  have HSP0 : Hid (Sp W2 rb mb [] s (.slice none 0 0) W2) := Lib.hid ⟨hR0, OwnR.nil _ _ _ _, Fr.refl _ _ _, hmr⟩
  have HBW : Hid (∀ V, Fr (rb + 1) rb W2 V → Below mb w V) := Lib.hid fun V hF => (HB.out.trans (show Below mb W1 W2 from by rw [← hW2]; exact (Below.refl _ _).alloc (by omega) _)).trans ⟨hF.os, hF.tape, hF.output, hF.size, fun k hk => hF.block k (by omega) (by omega)⟩
  rw [hW2, hrb]
  clear hold hs2 hn hM2 hR0 hW2 hrb
  go_loopw [5] (fun u wr => ∃ (ws : List (List UInt8)) (r : List UInt8), Sp W2 rb mb ws r u wr ∧ r.length ≤ s.length ∧ splitL s = fin (run (some ⟨.B, ws, []⟩) r)) (fun _ wr => restZ wr rb)
  case atStart => exact ⟨[], s, HSP0.out, Nat.le_refl _, rfl⟩
  case round =>
    obtain ⟨ws, r, hsp, hr, hsl⟩ := hrel
    have HSP := Lib.hid hsp
    have HR := Lib.hid hr
    have HRS := Lib.hid hsp.rd.rest
    have hsl := hsl.trans (by rw [run_blanks])
    have HSL := Lib.hid hsl
    have hdl : (r.dropWhile blk).length ≤ r.length := List.IsSuffix.length_le (List.dropWhile_suffix _)
    have HDL := Lib.hid hdl
    have hpb := passBlanks_any r rb mb wr hsp.rd
    obtain ⟨p, c, hu⟩ := own_slice hsp.own
    rw [List.length_map, List.length_take] at hu
    obtain ⟨z, hz⟩ : ∃ z, min 65 ws.length = z := ⟨_, rfl⟩
    rw [hz] at hu
    have HZ := Lib.hid hz
    subst hu
    clear hsl hr hdl hsp hz
    cases hd : r.dropWhile blk with
    | nil =>
      rw [hd] at hpb HSL
      have HPB := Lib.hid hpb
      have hfin : splitL s = some ws := HSL.out
      clear hpb hd
      by_cases h64 : 64 < ws.length
      · have hm65 : z = 65 := by have := HZ.out; omega
        subst hm65
        go_wp2_with (first
          | (go_at_call 16; refine (HPB.out).mono ?_; rintro e V1 ⟨rfl, hR1, hG1⟩; have K1 := Lib.hid (HSP.out.step hR1 hG1); clear hR1 hG1)
          | fail)
        go_ret2
        exact ⟨_, _, rfl, HBW.out _ K1.out.fr, by unfold Told; rw [hfin]; exact .inl ⟨h64, rfl, rfl⟩⟩
      · have hz2 : z = ws.length := by have := HZ.out; omega
        have hz3 : ¬ (64 : Int) < (z : Int) := by omega
        go_wp2_with (first
          | (go_at_call 16; refine (HPB.out).mono ?_; rintro e V1 ⟨rfl, hR1, hG1⟩; have K1 := Lib.hid (HSP.out.step hR1 hG1); clear hR1 hG1)
          | fail)
        go_ret2
        refine ⟨.slice p ws.length c, 0, rfl, HBW.out _ K1.out.fr, ?_⟩
        unfold Told
        rw [hfin]
        have ho := K1.out.own
        rw [List.take_of_length_le (by omega)] at ho
        have hz5 : z = ws.length := by have := HZ.out; omega
        rw [hz5] at ho
        exact .inr ⟨by omega, ho.mono (show mb ≤ rb + 1 by omega), rfl⟩
    | cons c1 t1 =>
      have hcb := drop_head hd
      rw [hd] at hpb HSL HDL
      have HPB := Lib.hid hpb
      have HLN : Hid ((c1 :: t1).length ≤ 1000000) := Lib.hid (by have := HDL.out; have := HR.out; have := HL.out; omega)
      have HSW : Hid (splitL s = fin (run (some ⟨.Q 0, ws, []⟩) (c1 :: t1))) := Lib.hid (by rw [HSL.out, run_word ws c1 hcb])
      have HCB := Lib.hid hcb
      clear hpb hd HSL hcb
      go_upto_region 5 with (first
        | (go_at_call 16; refine (HPB.out).mono ?_; clear HPB; rintro e V1 ⟨rfl, hR1, hG1⟩; have K1 := Lib.hid (HSP.out.step hR1 hG1); clear hR1 hG1)
        | (go_at_call 17; refine (word_one (c1 :: t1) rb mb V1 K1.out.rd HLN.out).mono ?_; rintro e V2 ⟨acc, ok, rfl, hF2, hE⟩; have G2 := Lib.hid hF2.grown; have HE := Lib.hid hE; clear hF2 hE)
        | fail)
      rcases HE.out with ⟨rfl, r2, hR2, h1, h2, h3, h4⟩ | ⟨rfl, h4⟩
      · have K2 := Lib.hid (K1.out.step hR2 G2.out)
        have HLT : Hid (r2.length < (c1 :: t1).length) := Lib.hid (by
          rcases h1 with h1 | h1
          · rcases h2 with h2 | ⟨c2, t2, h2, hb2⟩
            · rw [h1] at h2; cases h2
            · rw [h1] at h2; injection h2 with h2 _; rw [← h2, HCB.out] at hb2; cases hb2
          · exact h1)
        have HS2 : Hid (splitL s = fin (run (some ⟨.B, ws ++ [acc], []⟩) r2)) := Lib.hid (by rw [HSW.out, h4 ws, run_end ws acc r2 h2])
        clear hR2 h1 h2 h3 h4 HE
        by_cases h64 : ws.length ≤ 64
        · have hz4 : (z : Int) ≤ 64 := by have := HZ.out; omega
          have HLE := Lib.hid h64
          clear h64
          go_wp2_with (first
            | (at_builtin; refine plain_append_one (.tmp 21) (.tmp 23) rfl 23 9 1 16 _ rfl Try.underlying23 str_info rfl (by decide) (by decide) (rb + 1) _ _ (cellT acc) ⟨V2.heap.size, 0, none⟩ 1 rfl rfl (K2.out.own.alloc _) rfl (new_cells V2 _ rfl _ _) (by simp [cellT, Value.oneCell']) (by rw [List.length_map, List.length_take]; omega) (by have := K2.out.rd.lr; simp; omega) ?_; intro v' w' hown hgr hat; have K3 := Lib.hid (K2.out.put _ acc HLE.out hown hgr); clear hown hgr hat)
            | fail)
          go_roundw
          case rel => exact ⟨ws ++ [acc], r2, K3.out, by have := HLT.out; have := HDL.out; have := HR.out; omega, HS2.out⟩
          case measure => rw [K3.out.rd.rest, HRS.out]; have := HLT.out; have := HDL.out; omega
        · have hz4 : ¬ (z : Int) ≤ 64 := by have := HZ.out; omega
          have HTK : Hid ((ws ++ [acc]).take 65 = ws.take 65) := Lib.hid (by rw [List.take_append_of_le_length (by omega)])
          clear h64
          go_wp2_with fail
          go_roundw
          case rel => exact ⟨ws ++ [acc], r2, ⟨K2.out.rd, by rw [HTK.out]; exact K2.out.own, K2.out.fr, K2.out.hm⟩, by have := HLT.out; have := HDL.out; have := HR.out; omega, HS2.out⟩
          case measure => rw [K2.out.rd.rest, HRS.out]; have := HLT.out; have := HDL.out; omega
      · have hfin : splitL s = none := by rw [HSW.out, h4]
        have HFR : Hid (Fr (rb + 1) rb W2 V2) := Lib.hid (K1.out.fr.trans (Fr.of G2.out (by have := K1.out.rd.lr; omega)))
        clear h4 HE
        go_wp2_with fail
        go_ret2
        exact ⟨_, _, rfl, HBW.out _ HFR.out, by unfold Told; rw [hfin]; exact ⟨rfl, rfl⟩⟩
end Go.Proofs.Ytffmchbcpihjhaa.Wd
