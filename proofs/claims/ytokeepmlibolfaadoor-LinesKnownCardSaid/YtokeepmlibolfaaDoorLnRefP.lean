/-
  Layer 11 (lines): the document's own lines of a file (written by a program).
-/
import Derived.Test.YtokeepmlibolfaaDoorLnOwn
namespace Go.Proofs.YtokeepmlibolfaaDoor.Ln
open Go.RowKit
set_option maxRecDepth 100000

theorem lines_last {a : List UInt8} (h : (10 : UInt8) ∉ a) : linesL a = [a] := by
  unfold linesL Lib.split
  rw [Lib.count_one, List.count_eq_zero_of_not_mem h]
  rfl
theorem mid_no {l : List UInt8} {f k : Nat} (hno : ∀ j, f ≤ j → j < k → l.getD j 0 ≠ 10) : (10 : UInt8) ∉ (l.take k).drop f := fun hm => by
  obtain ⟨i, hi, he⟩ := List.getElem_of_mem hm
  rw [List.getElem_drop, List.getElem_take] at he
  rw [List.length_drop, List.length_take] at hi
  refine hno (f + i) (by omega) (by omega) ?_
  rw [List.getD_eq_getElem?_getD, List.getElem?_eq_getElem (by omega)]
  exact he
theorem fst_line {l : List UInt8} {f k : Nat} (hf : f ≤ k) (hk : k < l.length) (h10 : l.getD k 0 = 10) (hno : ∀ j, f ≤ j → j < k → l.getD j 0 ≠ 10) : linesL (l.drop f) = ((l.take k).drop f) :: linesL (l.drop (k + 1)) := by
  have hx : l[k] = 10 := by rw [List.getD_eq_getElem?_getD, List.getElem?_eq_getElem hk] at h10; exact h10
  have e : l.drop f = (l.take k).drop f ++ 10 :: l.drop (k + 1) := by
    conv => lhs; rw [← List.take_append_drop k l]
    rw [List.drop_append_of_le_length (by rw [List.length_take]; omega), List.drop_eq_getElem_cons hk, hx]
  rw [e, lines_at _ _ (mid_no hno)]
theorem last_line {l : List UInt8} {f : Nat} (hno : ∀ j, f ≤ j → j < l.length → l.getD j 0 ≠ 10) : linesL (l.drop f) = [(l.take l.length).drop f] := by
  have h := mid_no hno
  rw [List.take_length] at h ⊢
  exact lines_last h
theorem cr_cases (X : List UInt8) : (X = [] ∧ crL X = []) ∨ (∃ Y, X = Y ++ [13] ∧ crL X = Y) ∨ (∃ Y c, X = Y ++ [c] ∧ (c == (13 : UInt8)) = false ∧ crL X = X) := by
  rcases List.eq_nil_or_concat X with h | ⟨Y, c, h⟩
  · subst h; exact .inl ⟨rfl, rfl⟩
  · rw [List.concat_eq_append] at h
    subst h
    have hs : Lib.hasSuffix (Y ++ [c]) [13] = (c == 13) := by
      unfold Lib.hasSuffix
      rw [Bool.eq_iff_iff, List.isSuffixOf_iff_suffix, beq_iff_eq]
      constructor
      · rintro ⟨t, ht⟩
        have := congrArg (fun l => l.reverse.head?) ht
        simp at this
        exact this.symm
      · rintro rfl; exact ⟨Y, rfl⟩
    cases hc : (c == (13 : UInt8)) with
    | true =>
      refine .inr (.inl ⟨Y, by rw [beq_iff_eq.mp hc], ?_⟩)
      unfold crL Lib.trimSuffix
      rw [hs, hc]
      simp
    | false =>
      refine .inr (.inr ⟨Y, c, rfl, hc, ?_⟩)
      unfold crL Lib.trimSuffix
      rw [hs, hc]
      simp
theorem ne10 (b : UInt8) (h : b ≠ 10) : ((b.toNat : Int) != 10) = true := congrArg not ((u8_is b 10 (by decide)).trans (beq_eq_false_iff_ne.mpr h))
theorem int_succ (k : Nat) (x : Int) (h : x = (k : Int) + 1) : Value.int .i64 x = .int .i64 ((k + 1 : Nat) : Int) := by rw [h]; rfl
theorem meas (n1 k : Nat) (v : Value) (h : v = .int .i64 ((k : Int) + 1)) (hk : k < n1) : n1 - (intOf v).toNat < n1 - (intOf (.int .i64 (k : Int))).toNat := by subst h; show n1 - ((k : Int) + 1).toNat < n1 - ((k : Int)).toNat; omega
set_option maxHeartbeats 2000000 in
theorem rsplit_any (l : List UInt8) (hl : l.length ≤ 1000000) (w : World) : Calls Tryd.prog 16 #[.string (bs l)] w fun e w' => ∃ v, e = .returned v ∧ OwnR w' w.heap.size 9 1 v ((linesL l).map fun x => [Value.string (bs (crL x))]) ∧ Below w.heap.size w w' := by
  have HS : Hid (∀ k (hk : k < (bs l).size), (bs l)[k] = l.getD k 0) := Lib.hid fun k hk => at_list hk
  have HCUT : Hid (∀ f k, (bs l).extract f k = bs ((l.take k).drop f)) := Lib.hid fun f k => cut_bs l f k
  have hsz : (bs l).size = l.length := rfl
  have HF : Hid (∀ f k, f ≤ k → k < l.length → l.getD k 0 = 10 → (∀ j, f ≤ j → j < k → l.getD j 0 ≠ 10) → linesL (l.drop f) = ((l.take k).drop f) :: linesL (l.drop (k + 1))) := Lib.hid fun f k h1 h2 h3 h4 => fst_line h1 h2 h3 h4
  have HLST : Hid (∀ f, (∀ j, f ≤ j → j < l.length → l.getD j 0 ≠ 10) → linesL (l.drop f) = [(l.take l.length).drop f]) := Lib.hid fun f h => last_line h
  obtain ⟨n, hn⟩ : ∃ n, l.length = n := ⟨_, rfl⟩
  rw [hn] at hsz HF HLST hl
  obtain ⟨n1, hn1⟩ : ∃ n1, n + 1 = n1 := ⟨_, rfl⟩
  have HN1 := Lib.hid hn1
  clear hn1
  generalize hS : bs l = S at *
  go_enter Tryd.func16, Tryd.ntmps16
  go_wp2
  go_loopw [3, 4, 5] (fun o f i wr => ∃ (k fr : Nat) (done : List (List UInt8)), OwnR wr w.heap.size 9 1 o (done.map fun x => [Value.string (bs (crL x))]) ∧ f = .int .i64 fr ∧ i = .int .i64 k ∧ Below w.heap.size w wr ∧ fr ≤ k ∧ done.length ≤ k ∧ ((k ≤ n ∧ linesL l = done ++ linesL (l.drop fr) ∧ ∀ j, fr ≤ j → j < k → l.getD j 0 ≠ 10) ∨ (k = n + 1 ∧ linesL l = done))) (fun _ _ i _ => n1 - (intOf i).toNat)
  case atStart => exact ⟨0, 0, [], OwnR.nil _ _ _ _, rfl, rfl, Below.refl _ _, Nat.le_refl _, Nat.le_refl _, .inl ⟨Nat.zero_le _, rfl, fun j _ h => by omega⟩⟩
  case round =>
    obtain ⟨k, fr, done, ho, rfl, rfl, hb, hfr, hdl, hcase⟩ := hrel
    have HO := Lib.hid ho
    have HB := Lib.hid hb
    rcases hcase with ⟨hk, hlin, hno⟩ | ⟨hk, hlin⟩
    · obtain ⟨X, hX⟩ : ∃ X, (l.take k).drop fr = X := ⟨_, rfl⟩
      have hsl : ∀ V, (Instr.slice 9 (.string S) (some (.int .i64 (fr : Int))) (some (.int .i64 (k : Int))) none).run Tryd.prog V = .ok (.string (bs X)) V := fun V => (sl_run S fr k hfr (by omega) V).trans (by rw [HCUT.out, hX])
      have HXC := Lib.hid (cr_cases X)
      have hXL : X.length ≤ 1000000 := by rw [← hX, List.length_drop, List.length_take]; omega
      have HDL : Hid (done.length ≤ 1000000 ∧ (done ++ [X]).length ≤ k + 1 ∧ k ≤ n ∧ done.length ≤ k + 1 ∧ fr ≤ k + 1 ∧ X.length ≤ 1000000) := Lib.hid ⟨by omega, by rw [List.length_append]; simp; omega, hk, by omega, by omega, hXL⟩
      have HWK : Hid (wrap64 ((k : Int) + 1) = (k : Int) + 1) := Lib.hid (w_id (by omega) (by omega))
      have HKM : Hid (k < n1) := Lib.hid (by have := HN1.out; omega)
      clear hXL
      by_cases hkn : k < n
      · have hkz : k < S.size := by omega
        have HK := HS.out k hkz
        by_cases h10 : l.getD k 0 = 10
        · have f1 : ((S[k].toNat : Int) != 10) = false := by rw [HK, h10]; rfl
          have HNXT : Hid ((k + 1 ≤ n ∧ linesL l = (done ++ [X]) ++ linesL (l.drop (k + 1)) ∧ ∀ j, k + 1 ≤ j → j < k + 1 → l.getD j 0 ≠ 10) ∨ (k + 1 = n + 1 ∧ linesL l = done ++ [X])) := Lib.hid (.inl ⟨hkn, by rw [hlin, HF.out fr k hfr hkn h10 hno, hX, List.append_assoc]; rfl, fun j a b => by omega⟩)
          clear HS HF HLST HCUT hlin hno hX HK h10 ho hb hdl hfr hl hn
          generalize hXB : bs X = XB at *
          rcases HXC.out with ⟨h1, h2⟩ | ⟨Y, h1, h2⟩ | ⟨Y, c, h1, hc, h2⟩
          · have HC : Hid (bs (crL X) = ⟨#[]⟩) := Lib.hid (by rw [h2])
            have hxs : XB.size = 0 := by rw [← hXB, h1]; rfl
            have hxe : XB = ⟨#[]⟩ := by rw [← hXB, h1]
            subst hxe
            clear h1 h2 hXB
            go_wp2_with (first
              | (at_builtin; refine plain_append_one (.tmp 43) (.tmp 45) rfl 41 9 1 16 _ rfl Tryd.underlying41 str_info rfl (by decide) (by decide) w.heap.size _ _ [.string ⟨#[]⟩] ⟨wr.heap.size, 0, none⟩ 1 rfl rfl (HO.out.alloc _) rfl (new_cells wr _ rfl _ _) (by simp [Value.oneCell']) (by rw [List.length_map]; have := HDL.out.1; omega) (by have := HB.out.size; simp; omega) ?_; intro v' w' hown hgr hat; have hbV := (HB.out.alloc HB.out.size (.cells #[.string ⟨#[]⟩] 9)).trans ((HO.out.alloc _).below hgr (B := w.heap.size) (Nat.le_refl _) (by have := HB.out.size; simp; omega)); have HOV : Hid (OwnR w' w.heap.size 9 1 v' ((done ++ [X]).map fun x => [Value.string (bs (crL x))])) := Lib.hid (by rw [List.map_append]; show OwnR w' w.heap.size 9 1 v' (_ ++ [[Value.string (bs (crL X))]]); rw [HC.out]; exact hown); have HBV := Lib.hid hbV; clear hown hgr hat hbV)
              | fail)
            go_round
            case rel => exact ⟨k + 1, k + 1, done ++ [X], HOV.out, int_succ k _ HWK.out, int_succ k _ HWK.out, HBV.out, Nat.le_refl _, HDL.out.2.1, HNXT.out⟩
            case measure => exact meas n1 k _ (congrArg (Value.int .i64) HWK.out) HKM.out
          · have HC : Hid (bs (crL X) = bs Y) := Lib.hid (by rw [h2])
            have hxs : XB.size = Y.length + 1 := by rw [← hXB, h1, bs_size]; simp
            have hyl : Y.length ≤ 1000000 := by have hXL := HDL.out.2.2.2.2.2; rw [h1, List.length_append] at hXL; omega
            have hxz : Y.length < XB.size := by omega
            have hxb : XB[Y.length] = 13 := by subst hXB; rw [at_list hxz, h1, List.getD_eq_getElem?_getD]; simp
            have hs2 : ∀ V, (Instr.slice 9 (.string XB) none (some (.int .i64 (Y.length : Int))) none).run Tryd.prog V = .ok (.string (bs Y)) V := fun V => by
              have := run_slice_string_h (P := Tryd.prog) V 9 XB Tryd.underlying9 .i64 (Y.length : Int) (by omega) (by omega)
              rw [this, ← hXB, h1, cut_bs]
              simp
            clear h1 h2
            obtain ⟨q, hq⟩ : ∃ q, Y.length = q := ⟨_, rfl⟩
            simp only [hq] at hxs hxz hxb hs2 hyl
            have hqw : wrap64 (q : Int) = q := w_id (by omega) (by omega)
            clear hyl
            generalize bs Y = YB at *
            go_wp2_with (first
              | (at_builtin; refine plain_append_one (.tmp 43) (.tmp 45) rfl 41 9 1 16 _ rfl Tryd.underlying41 str_info rfl (by decide) (by decide) w.heap.size _ _ [.string YB] ⟨wr.heap.size, 0, none⟩ 1 rfl rfl (HO.out.alloc _) rfl (new_cells wr _ rfl _ _) (by simp [Value.oneCell']) (by rw [List.length_map]; have := HDL.out.1; omega) (by have := HB.out.size; simp; omega) ?_; intro v' w' hown hgr hat; have hbV := (HB.out.alloc HB.out.size (.cells #[.string YB] 9)).trans ((HO.out.alloc _).below hgr (B := w.heap.size) (Nat.le_refl _) (by have := HB.out.size; simp; omega)); have HOV : Hid (OwnR w' w.heap.size 9 1 v' ((done ++ [X]).map fun x => [Value.string (bs (crL x))])) := Lib.hid (by rw [List.map_append]; show OwnR w' w.heap.size 9 1 v' (_ ++ [[Value.string (bs (crL X))]]); rw [HC.out]; exact hown); have HBV := Lib.hid hbV; clear hown hgr hat hbV)
              | fail)
            go_round
            case rel => exact ⟨k + 1, k + 1, done ++ [X], HOV.out, int_succ k _ HWK.out, int_succ k _ HWK.out, HBV.out, Nat.le_refl _, HDL.out.2.1, HNXT.out⟩
            case measure => exact meas n1 k _ (congrArg (Value.int .i64) HWK.out) HKM.out
          · have HC : Hid (bs (crL X) = XB) := Lib.hid (by rw [h2, hXB])
            have hxs : XB.size = Y.length + 1 := by rw [← hXB, h1, bs_size]; simp
            have hyl : Y.length ≤ 1000000 := by have hXL := HDL.out.2.2.2.2.2; rw [h1, List.length_append] at hXL; omega
            have hxz : Y.length < XB.size := by omega
            have hxb : XB[Y.length] = c := by subst hXB; rw [at_list hxz, h1, List.getD_eq_getElem?_getD]; simp
            have hcc : ((c.toNat : Int) == 13) = false := (u8_is c 13 (by decide)).trans hc
            clear h1 h2 hXB hc
            obtain ⟨q, hq⟩ : ∃ q, Y.length = q := ⟨_, rfl⟩
            simp only [hq] at hxs hxz hxb hyl
            have hqw : wrap64 (q : Int) = q := w_id (by omega) (by omega)
            clear hyl
            go_wp2_with (first
              | (at_builtin; refine plain_append_one (.tmp 43) (.tmp 45) rfl 41 9 1 16 _ rfl Tryd.underlying41 str_info rfl (by decide) (by decide) w.heap.size _ _ [.string XB] ⟨wr.heap.size, 0, none⟩ 1 rfl rfl (HO.out.alloc _) rfl (new_cells wr _ rfl _ _) (by simp [Value.oneCell']) (by rw [List.length_map]; have := HDL.out.1; omega) (by have := HB.out.size; simp; omega) ?_; intro v' w' hown hgr hat; have hbV := (HB.out.alloc HB.out.size (.cells #[.string XB] 9)).trans ((HO.out.alloc _).below hgr (B := w.heap.size) (Nat.le_refl _) (by have := HB.out.size; simp; omega)); have HOV : Hid (OwnR w' w.heap.size 9 1 v' ((done ++ [X]).map fun x => [Value.string (bs (crL x))])) := Lib.hid (by rw [List.map_append]; show OwnR w' w.heap.size 9 1 v' (_ ++ [[Value.string (bs (crL X))]]); rw [HC.out]; exact hown); have HBV := Lib.hid hbV; clear hown hgr hat hbV)
              | fail)
            go_round
            case rel => exact ⟨k + 1, k + 1, done ++ [X], HOV.out, int_succ k _ HWK.out, int_succ k _ HWK.out, HBV.out, Nat.le_refl _, HDL.out.2.1, HNXT.out⟩
            case measure => exact meas n1 k _ (congrArg (Value.int .i64) HWK.out) HKM.out
        · have f1 : ((S[k].toNat : Int) != 10) = true := by rw [HK]; exact ne10 _ h10
          have HNXT : Hid ((k + 1 ≤ n ∧ linesL l = done ++ linesL (l.drop fr) ∧ ∀ j, fr ≤ j → j < k + 1 → l.getD j 0 ≠ 10) ∨ (k + 1 = n + 1 ∧ linesL l = done)) := Lib.hid (.inl ⟨hkn, hlin, fun j a b => by
            rcases Nat.lt_or_ge j k with c | c
            · exact hno j a c
            · obtain rfl : j = k := by omega
              exact h10⟩)
          clear HS HF HLST HCUT hlin hno hX HK h10 ho hb hsl HXC hdl hfr hl hn
          go_wp2
          go_round
          case rel => exact ⟨k + 1, fr, done, HO.out, rfl, int_succ k _ HWK.out, HB.out, HDL.out.2.2.2.2.1, HDL.out.2.2.2.1, HNXT.out⟩
          case measure => exact meas n1 k _ (congrArg (Value.int .i64) HWK.out) HKM.out
      · obtain rfl : k = n := by omega
        have hk2 : ¬ (k : Int) < (S.size : Int) := by omega
        have HNXT : Hid ((k + 1 ≤ k ∧ linesL l = (done ++ [X]) ++ linesL (l.drop (k + 1)) ∧ ∀ j, k + 1 ≤ j → j < k + 1 → l.getD j 0 ≠ 10) ∨ (k + 1 = k + 1 ∧ linesL l = done ++ [X])) := Lib.hid (.inr ⟨rfl, by
          have h := HLST.out fr hno
          rw [hX] at h
          rw [hlin, h]⟩)
        clear HS HF HLST HCUT hlin hno hX ho hb hdl hfr hl hn
        generalize hXB : bs X = XB at *
        rcases HXC.out with ⟨h1, h2⟩ | ⟨Y, h1, h2⟩ | ⟨Y, c, h1, hc, h2⟩
        · have HC : Hid (bs (crL X) = ⟨#[]⟩) := Lib.hid (by rw [h2])
          have hxs : XB.size = 0 := by rw [← hXB, h1]; rfl
          have hxe : XB = ⟨#[]⟩ := by rw [← hXB, h1]
          subst hxe
          clear h1 h2 hXB
          go_wp2_with (first
            | (at_builtin; refine plain_append_one (.tmp 43) (.tmp 45) rfl 41 9 1 16 _ rfl Tryd.underlying41 str_info rfl (by decide) (by decide) w.heap.size _ _ [.string ⟨#[]⟩] ⟨wr.heap.size, 0, none⟩ 1 rfl rfl (HO.out.alloc _) rfl (new_cells wr _ rfl _ _) (by simp [Value.oneCell']) (by rw [List.length_map]; have := HDL.out.1; omega) (by have := HB.out.size; simp; omega) ?_; intro v' w' hown hgr hat; have hbV := (HB.out.alloc HB.out.size (.cells #[.string ⟨#[]⟩] 9)).trans ((HO.out.alloc _).below hgr (B := w.heap.size) (Nat.le_refl _) (by have := HB.out.size; simp; omega)); have HOV : Hid (OwnR w' w.heap.size 9 1 v' ((done ++ [X]).map fun x => [Value.string (bs (crL x))])) := Lib.hid (by rw [List.map_append]; show OwnR w' w.heap.size 9 1 v' (_ ++ [[Value.string (bs (crL X))]]); rw [HC.out]; exact hown); have HBV := Lib.hid hbV; clear hown hgr hat hbV)
            | fail)
          go_round
          case rel => exact ⟨k + 1, k + 1, done ++ [X], HOV.out, int_succ k _ HWK.out, int_succ k _ HWK.out, HBV.out, Nat.le_refl _, HDL.out.2.1, HNXT.out⟩
          case measure => exact meas n1 k _ (congrArg (Value.int .i64) HWK.out) HKM.out
        · have HC : Hid (bs (crL X) = bs Y) := Lib.hid (by rw [h2])
          have hxs : XB.size = Y.length + 1 := by rw [← hXB, h1, bs_size]; simp
          have hyl : Y.length ≤ 1000000 := by have hXL := HDL.out.2.2.2.2.2; rw [h1, List.length_append] at hXL; omega
          have hxz : Y.length < XB.size := by omega
          have hxb : XB[Y.length] = 13 := by subst hXB; rw [at_list hxz, h1, List.getD_eq_getElem?_getD]; simp
          have hs2 : ∀ V, (Instr.slice 9 (.string XB) none (some (.int .i64 (Y.length : Int))) none).run Tryd.prog V = .ok (.string (bs Y)) V := fun V => by
            have := run_slice_string_h (P := Tryd.prog) V 9 XB Tryd.underlying9 .i64 (Y.length : Int) (by omega) (by omega)
            rw [this, ← hXB, h1, cut_bs]
            simp
          clear h1 h2
          obtain ⟨q, hq⟩ : ∃ q, Y.length = q := ⟨_, rfl⟩
          simp only [hq] at hxs hxz hxb hs2 hyl
          have hqw : wrap64 (q : Int) = q := w_id (by omega) (by omega)
          clear hyl
          generalize bs Y = YB at *
          go_wp2_with (first
            | (at_builtin; refine plain_append_one (.tmp 43) (.tmp 45) rfl 41 9 1 16 _ rfl Tryd.underlying41 str_info rfl (by decide) (by decide) w.heap.size _ _ [.string YB] ⟨wr.heap.size, 0, none⟩ 1 rfl rfl (HO.out.alloc _) rfl (new_cells wr _ rfl _ _) (by simp [Value.oneCell']) (by rw [List.length_map]; have := HDL.out.1; omega) (by have := HB.out.size; simp; omega) ?_; intro v' w' hown hgr hat; have hbV := (HB.out.alloc HB.out.size (.cells #[.string YB] 9)).trans ((HO.out.alloc _).below hgr (B := w.heap.size) (Nat.le_refl _) (by have := HB.out.size; simp; omega)); have HOV : Hid (OwnR w' w.heap.size 9 1 v' ((done ++ [X]).map fun x => [Value.string (bs (crL x))])) := Lib.hid (by rw [List.map_append]; show OwnR w' w.heap.size 9 1 v' (_ ++ [[Value.string (bs (crL X))]]); rw [HC.out]; exact hown); have HBV := Lib.hid hbV; clear hown hgr hat hbV)
            | fail)
          go_round
          case rel => exact ⟨k + 1, k + 1, done ++ [X], HOV.out, int_succ k _ HWK.out, int_succ k _ HWK.out, HBV.out, Nat.le_refl _, HDL.out.2.1, HNXT.out⟩
          case measure => exact meas n1 k _ (congrArg (Value.int .i64) HWK.out) HKM.out
        · have HC : Hid (bs (crL X) = XB) := Lib.hid (by rw [h2, hXB])
          have hxs : XB.size = Y.length + 1 := by rw [← hXB, h1, bs_size]; simp
          have hyl : Y.length ≤ 1000000 := by have hXL := HDL.out.2.2.2.2.2; rw [h1, List.length_append] at hXL; omega
          have hxz : Y.length < XB.size := by omega
          have hxb : XB[Y.length] = c := by subst hXB; rw [at_list hxz, h1, List.getD_eq_getElem?_getD]; simp
          have hcc : ((c.toNat : Int) == 13) = false := (u8_is c 13 (by decide)).trans hc
          clear h1 h2 hXB hc
          obtain ⟨q, hq⟩ : ∃ q, Y.length = q := ⟨_, rfl⟩
          simp only [hq] at hxs hxz hxb hyl
          have hqw : wrap64 (q : Int) = q := w_id (by omega) (by omega)
          clear hyl
          go_wp2_with (first
            | (at_builtin; refine plain_append_one (.tmp 43) (.tmp 45) rfl 41 9 1 16 _ rfl Tryd.underlying41 str_info rfl (by decide) (by decide) w.heap.size _ _ [.string XB] ⟨wr.heap.size, 0, none⟩ 1 rfl rfl (HO.out.alloc _) rfl (new_cells wr _ rfl _ _) (by simp [Value.oneCell']) (by rw [List.length_map]; have := HDL.out.1; omega) (by have := HB.out.size; simp; omega) ?_; intro v' w' hown hgr hat; have hbV := (HB.out.alloc HB.out.size (.cells #[.string XB] 9)).trans ((HO.out.alloc _).below hgr (B := w.heap.size) (Nat.le_refl _) (by have := HB.out.size; simp; omega)); have HOV : Hid (OwnR w' w.heap.size 9 1 v' ((done ++ [X]).map fun x => [Value.string (bs (crL x))])) := Lib.hid (by rw [List.map_append]; show OwnR w' w.heap.size 9 1 v' (_ ++ [[Value.string (bs (crL X))]]); rw [HC.out]; exact hown); have HBV := Lib.hid hbV; clear hown hgr hat hbV)
            | fail)
          go_round
          case rel => exact ⟨k + 1, k + 1, done ++ [X], HOV.out, int_succ k _ HWK.out, int_succ k _ HWK.out, HBV.out, Nat.le_refl _, HDL.out.2.1, HNXT.out⟩
          case measure => exact meas n1 k _ (congrArg (Value.int .i64) HWK.out) HKM.out
    · subst hk
      have hk2 : ¬ (((n + 1 : Nat)) : Int) ≤ (S.size : Int) := by omega
      go_wp2
      go_ret
      exact ⟨_, rfl, by first | exact HO.out | (rw [hlin]; exact HO.out), HB.out⟩
end Go.Proofs.YtokeepmlibolfaaDoor.Ln
