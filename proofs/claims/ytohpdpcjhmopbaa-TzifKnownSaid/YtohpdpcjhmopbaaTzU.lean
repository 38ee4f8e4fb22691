/-
  Layer 6 (tzif): the law TzifMore, its long way (written by gen_more6.py).
-/
import Derived.Test.YtohpdpcjhmopbaaTzT
import Derived.Deep.DeepCutAuto
namespace Go.Proofs.Ytohpdpcjhmopbaa.Tz
open Go.RowKit

set_option maxRecDepth 100000 in
set_option maxHeartbeats 2000000 in
theorem more_f (z : Zn) (vt vs vi : Value) (B : Nat) (sec more idx : Int) (w : World) (h : ZnAt w B z vt vs vi) (hB : B ≤ w.heap.size) (hf : fewZ z 500 = true) (ho : ZnOk z) (hr : rightZ z = true) (h1 : z.times.length < 499) (h2 : 0 ≤ idx) (h3 : idx < z.types.length) (j : Nat) (hj : z.times.length = j + 1) (last : Int) (hx : z.times[j]? = some last) (hl : 4611686018427387904 < last) :
    Calls Try.prog 6 #[.agg #[vt, vs, vi, .string z.footer], .int .i64 sec, .int .u32 more, .int .i64 idx] w fun e w' => e = .returned (.bool true) ∧ Below w.heap.size w w' := by
  obtain ⟨At, ct, rfl⟩ := h.types.len
  obtain ⟨As, cs, rfl⟩ := h.times.len
  obtain ⟨Ai, ci, rfl⟩ := h.index.len
  have H := Lib.hid h
  obtain ⟨W0, hW0⟩ : ∃ W0, w.alloc (.cells #[.slice At z.types.length ct, .slice As z.times.length cs, .slice Ai z.index.length ci, .string z.footer] 26) = W0 := ⟨_, rfl⟩
  have HB0 : Hid (Below w.heap.size w W0) := Lib.hid (by rw [← hW0]; exact (Below.refl _ _).alloc (Nat.le_refl _) _)
  have HSZ : Hid (W0.heap.size = w.heap.size + 1) := Lib.hid (by rw [← hW0]; simp)
  have HC0 : Hid (∀ i u, (#[.slice At z.types.length ct, .slice As z.times.length cs, .slice Ai z.index.length ci, .string z.footer] : Array Value)[i]? = some u → W0.cell? ⟨w.heap.size, i, none⟩ = some u) := Lib.hid fun i u hu => by rw [← hW0]; exact cell_new w _ _ _ i u rfl hu
  have HB : Hid (Below W0.heap.size W0 W0) := Lib.hid (Below.refl _ _)
  have HC : Hid (∀ V, Below W0.heap.size W0 V → ∀ i u, (#[.slice At z.types.length ct, .slice As z.times.length cs, .slice Ai z.index.length ci, .string z.footer] : Array Value)[i]? = some u → V.cell? ⟨w.heap.size, i, none⟩ = some u) := Lib.hid fun V hb i u hu => cells_at w.heap.size hb (by rw [HSZ.out]; omega) (HC0.out i u hu)
  have HZ : Hid (∀ V, Below W0.heap.size W0 V → ZnAt V B z (.slice At z.types.length ct) (.slice As z.times.length cs) (.slice Ai z.index.length ci)) := Lib.hid fun V hb => (H.out.below HB0.out hB).below hb (by rw [HSZ.out]; omega)
  have HFEW : Hid (∀ V, Below W0.heap.size W0 V → Calls Try.prog 8 #[.agg #[.slice At z.types.length ct, .slice As z.times.length cs, .slice Ai z.index.length ci, .string z.footer], .int .i64 500] V fun e V' => e = .returned (.bool true) ∧ Below V.heap.size V V') := Lib.hid fun V hb => by
    have := few_any z _ _ _ B 500 V (HZ.out V hb)
    rwa [hf] at this
  have HRT : Hid (∀ V, Below W0.heap.size W0 V → Calls Try.prog 13 #[.agg #[.slice At z.types.length ct, .slice As z.times.length cs, .slice Ai z.index.length ci, .string z.footer]] V fun e V' => e = .returned (.bool true) ∧ Below V.heap.size V V') := Lib.hid fun V hb => by
    have := right_any z _ _ _ B V (HZ.out V hb) ho (by have := hb.size; have := HSZ.out; omega)
    rwa [hr] at this
  have q0 := HC.out _ HB.out 0 _ rfl; have q1 := HC.out _ HB.out 1 _ rfl; have q2 := HC.out _ HB.out 2 _ rfl; have q3 := HC.out _ HB.out 3 _ rfl
  obtain ⟨g, off, c', hv, hg, c0⟩ := (HZ.out _ HB.out).times.one hx
  injection hv with e1 _ e3
  subst e1; subst e3
  have HG : Hid (∀ V, Below W0.heap.size W0 V → V.cell? ⟨g, off + j, none⟩ = some (.int .i64 last)) := Lib.hid fun V hb => cells_at g hb (by rw [HSZ.out]; omega) c0
  have hj0 : (0 : Int) < (z.times.length : Int) := by omega
  have hj1 : (z.times.length : Int) - 1 = (j : Int) := by omega
  have hj2 : (0 : Int) ≤ (j : Int) := by omega
  have hj3 : (j : Int) < (z.times.length : Int) := by omega
  clear c0 hg
  have h499 : ¬ (499 : Int) ≤ (z.times.length : Int) := by omega
  have hi0 : ¬ idx < 0 := by omega
  have hi1 : ¬ (z.types.length : Int) ≤ idx := by omega
  clear h hf hB hr ho hj
  go_enter Try.func6, Try.ntmps6
  go_wp2_with (first
    | (go_at_call 8; refine (HFEW.out _ HB.out).mono ?_; clear HFEW q0 q1 q2 q3; rintro e V1 ⟨rfl, hb⟩; have HB1 := Lib.hid (HB.out.trans (hb.mono HB.out.size)); clear hb; have q0 := HC.out _ HB1.out 0 _ rfl; have q1 := HC.out _ HB1.out 1 _ rfl; have q2 := HC.out _ HB1.out 2 _ rfl; have q3 := HC.out _ HB1.out 3 _ rfl)
    | (go_at_call 13; refine (HRT.out _ HB1.out).mono ?_; clear HRT q0 q1 q2 q3; rintro e V2 ⟨rfl, hb⟩; have HB2 := Lib.hid (HB1.out.trans (hb.mono HB1.out.size)); clear hb; have q0 := HC.out _ HB2.out 0 _ rfl; have q1 := HC.out _ HB2.out 1 _ rfl; have q2 := HC.out _ HB2.out 2 _ rfl; have q3 := HC.out _ HB2.out 3 _ rfl; have kj := HG.out _ HB2.out)
    | (go_at_call 9; refine (works_any _).mono ?_; rintro e V9 ⟨rfl, hb⟩; have HB9 := Lib.hid (HB2.out.trans (hb.mono HB2.out.size)); clear hb)
    | fail)
  go_ret
  exact ⟨rfl, HB0.out.trans (HB9.out.mono HB0.out.size)⟩
set_option maxRecDepth 100000 in
set_option maxHeartbeats 2000000 in
theorem more_n (z : Zn) (vt vs vi : Value) (B : Nat) (sec more idx : Int) (w : World) (h : ZnAt w B z vt vs vi) (hB : B ≤ w.heap.size) (hf : fewZ z 500 = true) (ho : ZnOk z) (hr : rightZ z = true) (h1 : z.times.length < 499) (h2 : 0 ≤ idx) (h3 : idx < z.types.length) (h4 : 0 ≤ more) (h5 : more ≤ 4294967295) (h0 : z.times.length = 0) (hs : 1 + more ≤ sec) :
    Calls Try.prog 6 #[.agg #[vt, vs, vi, .string z.footer], .int .i64 sec, .int .u32 more, .int .i64 idx] w fun e w' => e = .returned (.bool true) ∧ Below w.heap.size w w' := by
  obtain ⟨At, ct, rfl⟩ := h.types.len
  obtain ⟨As, cs, rfl⟩ := h.times.len
  obtain ⟨Ai, ci, rfl⟩ := h.index.len
  have H := Lib.hid h
  obtain ⟨W0, hW0⟩ : ∃ W0, w.alloc (.cells #[.slice At z.types.length ct, .slice As z.times.length cs, .slice Ai z.index.length ci, .string z.footer] 26) = W0 := ⟨_, rfl⟩
  have HB0 : Hid (Below w.heap.size w W0) := Lib.hid (by rw [← hW0]; exact (Below.refl _ _).alloc (Nat.le_refl _) _)
  have HSZ : Hid (W0.heap.size = w.heap.size + 1) := Lib.hid (by rw [← hW0]; simp)
  have HC0 : Hid (∀ i u, (#[.slice At z.types.length ct, .slice As z.times.length cs, .slice Ai z.index.length ci, .string z.footer] : Array Value)[i]? = some u → W0.cell? ⟨w.heap.size, i, none⟩ = some u) := Lib.hid fun i u hu => by rw [← hW0]; exact cell_new w _ _ _ i u rfl hu
  have HB : Hid (Below W0.heap.size W0 W0) := Lib.hid (Below.refl _ _)
  have HC : Hid (∀ V, Below W0.heap.size W0 V → ∀ i u, (#[.slice At z.types.length ct, .slice As z.times.length cs, .slice Ai z.index.length ci, .string z.footer] : Array Value)[i]? = some u → V.cell? ⟨w.heap.size, i, none⟩ = some u) := Lib.hid fun V hb i u hu => cells_at w.heap.size hb (by rw [HSZ.out]; omega) (HC0.out i u hu)
  have HZ : Hid (∀ V, Below W0.heap.size W0 V → ZnAt V B z (.slice At z.types.length ct) (.slice As z.times.length cs) (.slice Ai z.index.length ci)) := Lib.hid fun V hb => (H.out.below HB0.out hB).below hb (by rw [HSZ.out]; omega)
  have HFEW : Hid (∀ V, Below W0.heap.size W0 V → Calls Try.prog 8 #[.agg #[.slice At z.types.length ct, .slice As z.times.length cs, .slice Ai z.index.length ci, .string z.footer], .int .i64 500] V fun e V' => e = .returned (.bool true) ∧ Below V.heap.size V V') := Lib.hid fun V hb => by
    have := few_any z _ _ _ B 500 V (HZ.out V hb)
    rwa [hf] at this
  have HRT : Hid (∀ V, Below W0.heap.size W0 V → Calls Try.prog 13 #[.agg #[.slice At z.types.length ct, .slice As z.times.length cs, .slice Ai z.index.length ci, .string z.footer]] V fun e V' => e = .returned (.bool true) ∧ Below V.heap.size V V') := Lib.hid fun V hb => by
    have := right_any z _ _ _ B V (HZ.out V hb) ho (by have := hb.size; have := HSZ.out; omega)
    rwa [hr] at this
  have q0 := HC.out _ HB.out 0 _ rfl; have q1 := HC.out _ HB.out 1 _ rfl; have q2 := HC.out _ HB.out 2 _ rfl; have q3 := HC.out _ HB.out 3 _ rfl
  have hj0 : ¬ (0 : Int) < (z.times.length : Int) := by omega
  have h499 : ¬ (499 : Int) ≤ (z.times.length : Int) := by omega
  have hi0 : ¬ idx < 0 := by omega
  have hi1 : ¬ (z.types.length : Int) ≤ idx := by omega
  have hat : ∀ y ∈ z.times, y < 1 + more := by intro y hy; have : z.times = [] := List.eq_nil_of_length_eq_zero h0; rw [this] at hy; simp at hy
  obtain ⟨y, hy⟩ : ∃ y, moreZ z (1 + more) idx = y := ⟨_, rfl⟩
  have HY := Lib.hid hy
  have HYR : Hid (rightZ y = true) := Lib.hid (by rw [← hy]; exact more_right hr h1 hat h2 h3)
  have HYA : Hid (atZ y sec = if (1 + more) ≤ sec then idx else atZ z sec) := Lib.hid (by rw [← hy]; exact more_at hr h1 hat h2 h3)
  have HYO : Hid (ZnOk y) := Lib.hid (by rw [← hy]; exact ⟨ho.types, by simp [moreZ]; omega, by have := (right_parts hr).2; simp [moreZ]; omega, ho.abbr, ho.footer⟩)
  have HIL : Hid (z.index.length ≤ 500) := Lib.hid (by have := (right_parts hr).2; omega)
  have HHO := Lib.hid ho; have HHR := Lib.hid hr
  have HBL : Hid (B ≤ W0.heap.size) := Lib.hid (by have := HSZ.out; omega)
  clear h hf hr ho hy hat h0
  go_enter Try.func6, Try.ntmps6
  go_upto_region 10 with (first
    | (go_at_call 8; refine (HFEW.out _ HB.out).mono ?_; clear HFEW q0 q1 q2 q3; rintro e V1 ⟨rfl, hb⟩; have HB1 := Lib.hid (HB.out.trans (hb.mono HB.out.size)); clear hb; have q0 := HC.out _ HB1.out 0 _ rfl; have q1 := HC.out _ HB1.out 1 _ rfl; have q2 := HC.out _ HB1.out 2 _ rfl; have q3 := HC.out _ HB1.out 3 _ rfl)
    | (go_at_call 13; refine (HRT.out _ HB1.out).mono ?_; clear HRT q0 q1 q2 q3; rintro e V2 ⟨rfl, hb⟩; have HB2 := Lib.hid (HB1.out.trans (hb.mono HB1.out.size)); clear hb; have q0 := HC.out _ HB2.out 0 _ rfl; have q1 := HC.out _ HB2.out 1 _ rfl; have q2 := HC.out _ HB2.out 2 _ rfl; have q3 := HC.out _ HB2.out 3 _ rfl)
    | fail)
  refine wp_world (R := fun U => Below W0.heap.size W0 U ∧ U.heap.size = V2.heap.size + 1 ∧ ZnBox U V2.heap.size (.slice At z.types.length ct) (.slice As z.times.length cs) (.slice Ai z.index.length ci) (.string z.footer)) ⟨HB2.out.alloc HB2.out.size _, by simp, ZnBox.new V2 _ rfl _ _ _ _ _⟩ ?_
  have HP : Hid (W0.heap.size ≤ V2.heap.size) := Lib.hid HB2.out.size
  clear q0 q1 q2 q3
  obtain ⟨P, hP⟩ : ∃ P, V2.heap.size = P := ⟨_, rfl⟩
  rw [hP] at HP ⊢
  clear hP HB2 HB1
  rintro U ⟨hb, hu, hbox⟩
  have HBU := Lib.hid hb; have HU := Lib.hid hu; have HX := Lib.hid hbox
  have qz : ∀ o, (U.alloc o).cell? ⟨w.heap.size, 1, none⟩ = some (.slice As z.times.length cs) := fun o => cell_old U o _ _ _ (by have := HU.out; have := HP.out; have := HSZ.out; omega) (HC.out U hb 1 _ rfl)
  clear hb hu hbox
  go_upto_region 11 with (first
    | (at_builtin; refine plain_append_ints_n (.tmp 60) (.tmp 62) 23 2 Try.underlying23 i64_info rfl rfl (P + 1) B z.times.length _ _ [] z.times rfl rfl (OwnI.empty U 2 (P + 1) (Nat.le_of_eq HU.out.symm)) ((HZ.out U HBU.out).times.below ((Below.refl U.heap.size U).alloc (Nat.le_refl _) _) (Nat.le_trans HBL.out HBU.out.size)) (by show 0 + _ ≤ _; omega) (by have := HU.out; simp; omega) rfl ?_; intro A5 c5 V5 hO hG; have HO5 := Lib.hid hO; have HB5 : Hid (Below (P + 1) U V5) := Lib.hid (((Below.refl U.heap.size U).alloc (Nat.le_refl _) _).mono (Nat.le_of_eq HU.out.symm) |>.trans (growI_below (OwnI.empty U 2 (P + 1) (Nat.le_of_eq HU.out.symm)) hG (Nat.le_refl _) (by have := HU.out; simp; omega))); clear hO hG qz)
    | (at_builtin; refine plain_append_ints_n (.tmp 63) (.tmp 65) 23 2 Try.underlying23 i64_info rfl rfl (P + 1) (V5.heap.size + 1) (z.times.length + 1) _ _ ([] ++ z.times) [(1 + more)] rfl rfl (HO5.out.alloc _) (Sl.new (rows := [[.int .i64 ((1 + more))]]) (Nat.lt_succ_self _) (fun j row hj k u hu => by
        match j, hj with
        | 0, hj =>
          have e : row = [.int .i64 ((1 + more))] := by simpa using hj.symm
          subst e
          match k, hu with
          | 0, hu => exact cell_new V5 _ _ _ 0 u rfl hu)) (by show (List.length z.times) + 1 ≤ _; omega) (by have := HB5.out.size; have := HU.out; simp; omega) (by simp) ?_; intro A6 c6 V6 hO hG; have HO6 := Lib.hid hO; have HB6 : Hid (Below (P + 1) U V6) := Lib.hid (HB5.out.trans ((((Below.refl V5.heap.size V5).alloc (Nat.le_refl _) _).mono (by have := HB5.out.size; have := HU.out; omega)).trans (growI_below (HO5.out.alloc _) hG (Nat.le_refl _) (by have := HB5.out.size; have := HU.out; simp; omega)))); clear hO hG HO5 HB5; have HX6 := Lib.hid (HX.out.below HB6.out (Nat.lt_succ_self P)); have y1 := HX6.out.c1; have f1 := HX6.out.fr 1)
    | fail)
  refine wp_world (R := fun T => Below W0.heap.size W0 T ∧ P + 1 ≤ T.heap.size ∧ ZnBox T P (.slice At z.types.length ct) (.slice A6 (z.times.length + 1) c6) (.slice Ai z.index.length ci) (.string z.footer) ∧ OwnI T (P + 1) 2 (.slice A6 (z.times.length + 1) c6) (z.times ++ [(1 + more)])) ⟨(HBU.out.trans (HB6.out.mono (by have := HP.out; omega))).setCell (by have := HP.out; omega) _, by have := HX6.out.lt; simp; omega, HX6.out.set1 _, HO6.out.set (Nat.lt_succ_self P) _ _⟩ ?_
  clear y1 f1 HX6 HO6 HB6 HX HU HBU
  rintro T ⟨hb, ht, hbox, hown⟩
  have HBT := Lib.hid hb; have HTS := Lib.hid ht; have HX := Lib.hid hbox; have HOT := Lib.hid hown
  have qz : ∀ o, (T.alloc o).cell? ⟨w.heap.size, 2, none⟩ = some (.slice Ai z.index.length ci) := fun o => cell_old T o _ _ _ (by have := HTS.out; have := HP.out; have := HSZ.out; omega) (HC.out T hb 2 _ rfl)
  clear hb ht hbox hown
  go_upto_region 12 with (first
    | (at_builtin; refine plain_append_ints_n (.tmp 68) (.tmp 70) 24 3 Try.underlying24 int_info rfl rfl T.heap.size B z.index.length _ _ [] z.index rfl rfl (OwnI.empty T 3 T.heap.size (Nat.le_refl _)) ((HZ.out T HBT.out).index.below ((Below.refl T.heap.size T).alloc (Nat.le_refl _) _) (Nat.le_trans HBL.out HBT.out.size)) (by have := HIL.out; show 0 + _ ≤ _; omega) (by simp) rfl ?_; intro A7 c7 V7 hO hG; have HO7 := Lib.hid hO; have HB7 : Hid (Below T.heap.size T V7) := Lib.hid (((Below.refl T.heap.size T).alloc (Nat.le_refl _) _).trans (growI_below (OwnI.empty T 3 T.heap.size (Nat.le_refl _)) hG (Nat.le_refl _) (by simp))); clear hO hG qz)
    | (at_builtin; refine plain_append_ints_n (.tmp 71) (.tmp 73) 24 3 Try.underlying24 int_info rfl rfl T.heap.size (V7.heap.size + 1) (z.index.length + 1) _ _ ([] ++ z.index) [idx] rfl rfl (HO7.out.alloc _) (Sl.new (rows := [[.int .i64 idx]]) (Nat.lt_succ_self _) (fun j row hj k u hu => by
        match j, hj with
        | 0, hj =>
          have e : row = [.int .i64 idx] := by simpa using hj.symm
          subst e
          match k, hu with
          | 0, hu => exact cell_new V7 _ _ _ 0 u rfl hu)) (by have := HIL.out; show (List.length z.index) + 1 ≤ _; omega) (by have := HB7.out.size; simp; omega) (by simp) ?_; intro A8 c8 V8 hO hG; have HO8 := Lib.hid hO; have HB8 : Hid (Below T.heap.size T V8) := Lib.hid (HB7.out.trans ((((Below.refl V7.heap.size V7).alloc (Nat.le_refl _) _).mono HB7.out.size).trans (growI_below (HO7.out.alloc _) hG (Nat.le_refl _) (by have := HB7.out.size; simp; omega)))); clear hO hG HO7 HB7; have HX8 := Lib.hid (HX.out.below HB8.out (by have := HTS.out; omega)); have y1 := HX8.out.c2; have f1 := HX8.out.fr 2)
    | fail)
  refine wp_world (R := fun Y => Below W0.heap.size W0 Y ∧ ZnBox Y P (.slice At z.types.length ct) (.slice A6 (z.times.length + 1) c6) (.slice A8 (z.index.length + 1) c8) (.string z.footer) ∧ OwnI Y (P + 1) 2 (.slice A6 (z.times.length + 1) c6) (z.times ++ [(1 + more)]) ∧ OwnI Y T.heap.size 3 (.slice A8 (z.index.length + 1) c8) (z.index ++ [idx])) ⟨(HBT.out.trans (HB8.out.mono HBT.out.size)).setCell (by have := HP.out; omega) _, HX8.out.set2 _, (HOT.out.keep HB8.out).set (Nat.lt_succ_self P) _ _, HO8.out.set (by have := HTS.out; omega) _ _⟩ ?_
  clear y1 f1 HX8 HO8 HB8 HX HTS HBT HOT
  rintro Y ⟨hb, hbox, hown, hown2⟩
  have HBY := Lib.hid hb; have HX := Lib.hid hbox
  have HZY : Hid (∀ V, Below Y.heap.size Y V → ZnAt V Y.heap.size y (.slice At z.types.length ct) (.slice A6 (z.times.length + 1) c6) (.slice A8 (z.index.length + 1) c8)) := Lib.hid fun V hv => by
    have e := HY.out
    subst e
    exact (ZnAt.mk ⟨(HZ.out Y hb).types.form, fun j row hj => by
      obtain ⟨g, off, c, e, hg, hc⟩ := (HZ.out Y hb).types.at_ j row hj
      exact ⟨g, off, c, e, Nat.lt_of_lt_of_le hg (Nat.le_trans HBL.out hb.size), hc⟩⟩ (hown.sl (Nat.le_refl _)) (hown2.sl (Nat.le_refl _)) : ZnAt Y Y.heap.size (moreZ z ((1 + more)) idx) _ _ _).below hv (Nat.le_refl _)
  have HFY : Hid (y.footer = z.footer) := Lib.hid (by rw [← HY.out]; rfl)
  obtain ⟨a, ha⟩ : ∃ a, atZ z sec = a := ⟨_, rfl⟩
  have HYA2 : Hid (atZ y sec = idx) := Lib.hid (by rw [HYA.out, ha]; simp; omega)
  have HAZ : Hid (∀ V, Below W0.heap.size W0 V → Calls Try.prog 15 #[.agg #[.slice At z.types.length ct, .slice As z.times.length cs, .slice Ai z.index.length ci, .string z.footer], .int .i64 sec] V fun e V' => e = .returned (.int .i64 a) ∧ Below V.heap.size V V') := Lib.hid fun V hv => by
    have := at_any z _ _ _ B sec V (HZ.out V hv) HHO.out (Nat.le_trans HBL.out hv.size)
    rwa [ha] at this
  have HRY : Hid (∀ V, Below Y.heap.size Y V → Calls Try.prog 13 #[.agg #[.slice At z.types.length ct, .slice A6 (z.times.length + 1) c6, .slice A8 (z.index.length + 1) c8, .string z.footer]] V fun e V' => e = .returned (.bool true) ∧ Below V.heap.size V V') := Lib.hid fun V hv => by
    have := right_any y _ _ _ Y.heap.size V (HZY.out V hv) HYO.out hv.size
    rwa [HYR.out, HFY.out] at this
  have HAY : Hid (∀ V, Below Y.heap.size Y V → Calls Try.prog 15 #[.agg #[.slice At z.types.length ct, .slice A6 (z.times.length + 1) c6, .slice A8 (z.index.length + 1) c8, .string z.footer], .int .i64 sec] V fun e V' => e = .returned (.int .i64 (idx)) ∧ Below V.heap.size V V') := Lib.hid fun V hv => by
    have := at_any y _ _ _ Y.heap.size sec V (HZY.out V hv) HYO.out hv.size
    rwa [HYA2.out, HFY.out] at this
  have q0 := HC.out _ hb 0 _ rfl; have q1 := HC.out _ hb 1 _ rfl; have q2 := HC.out _ hb 2 _ rfl; have q3 := HC.out _ hb 3 _ rfl
  clear ha hb hbox hown hown2
  go_wp2_with (first
    | (go_at_call 15; refine (HAZ.out _ HBY.out).mono ?_; clear HAZ q0 q1 q2 q3; rintro e Y1 ⟨rfl, hb⟩; have HB1 := Lib.hid hb; clear hb; have k0 := (HX.out.below HB1.out HX.out.lt).c0; have k1 := (HX.out.below HB1.out HX.out.lt).c1; have k2 := (HX.out.below HB1.out HX.out.lt).c2; have k3 := (HX.out.below HB1.out HX.out.lt).c3)
    | (go_at_call 13; refine (HRY.out _ HB1.out).mono ?_; clear HRY k0 k1 k2 k3; rintro e Y2 ⟨rfl, hb⟩; have HB2 := Lib.hid (HB1.out.trans (hb.mono HB1.out.size)); clear hb; have k0 := (HX.out.below HB2.out HX.out.lt).c0; have k1 := (HX.out.below HB2.out HX.out.lt).c1; have k2 := (HX.out.below HB2.out HX.out.lt).c2; have k3 := (HX.out.below HB2.out HX.out.lt).c3)
    | (go_at_call 15; refine (HAY.out _ HB2.out).mono ?_; clear HAY k0 k1 k2 k3; rintro e Y3 ⟨rfl, hb⟩; have HB3 := Lib.hid (HB2.out.trans (hb.mono HB2.out.size)); clear hb)
    | (go_at_call 9; refine (works_any _).mono ?_; rintro e Y4 ⟨rfl, hb⟩; have HB4 := Lib.hid (HB3.out.trans (hb.mono HB3.out.size)); clear hb)
    | fail)
  go_ret
  exact ⟨rfl, HB0.out.trans ((HBY.out.trans (HB4.out.mono HBY.out.size)).mono HB0.out.size)⟩
set_option maxRecDepth 100000 in
set_option maxHeartbeats 2000000 in
theorem more_m (z : Zn) (vt vs vi : Value) (B : Nat) (sec more idx : Int) (w : World) (h : ZnAt w B z vt vs vi) (hB : B ≤ w.heap.size) (hf : fewZ z 500 = true) (ho : ZnOk z) (hr : rightZ z = true) (h1 : z.times.length < 499) (h2 : 0 ≤ idx) (h3 : idx < z.types.length) (h4 : 0 ≤ more) (h5 : more ≤ 4294967295) (h0 : z.times.length = 0) (hs : ¬ 1 + more ≤ sec) :
    Calls Try.prog 6 #[.agg #[vt, vs, vi, .string z.footer], .int .i64 sec, .int .u32 more, .int .i64 idx] w fun e w' => e = .returned (.bool true) ∧ Below w.heap.size w w' := by
  obtain ⟨At, ct, rfl⟩ := h.types.len
  obtain ⟨As, cs, rfl⟩ := h.times.len
  obtain ⟨Ai, ci, rfl⟩ := h.index.len
  have H := Lib.hid h
  obtain ⟨W0, hW0⟩ : ∃ W0, w.alloc (.cells #[.slice At z.types.length ct, .slice As z.times.length cs, .slice Ai z.index.length ci, .string z.footer] 26) = W0 := ⟨_, rfl⟩
  have HB0 : Hid (Below w.heap.size w W0) := Lib.hid (by rw [← hW0]; exact (Below.refl _ _).alloc (Nat.le_refl _) _)
  have HSZ : Hid (W0.heap.size = w.heap.size + 1) := Lib.hid (by rw [← hW0]; simp)
  have HC0 : Hid (∀ i u, (#[.slice At z.types.length ct, .slice As z.times.length cs, .slice Ai z.index.length ci, .string z.footer] : Array Value)[i]? = some u → W0.cell? ⟨w.heap.size, i, none⟩ = some u) := Lib.hid fun i u hu => by rw [← hW0]; exact cell_new w _ _ _ i u rfl hu
  have HB : Hid (Below W0.heap.size W0 W0) := Lib.hid (Below.refl _ _)
  have HC : Hid (∀ V, Below W0.heap.size W0 V → ∀ i u, (#[.slice At z.types.length ct, .slice As z.times.length cs, .slice Ai z.index.length ci, .string z.footer] : Array Value)[i]? = some u → V.cell? ⟨w.heap.size, i, none⟩ = some u) := Lib.hid fun V hb i u hu => cells_at w.heap.size hb (by rw [HSZ.out]; omega) (HC0.out i u hu)
  have HZ : Hid (∀ V, Below W0.heap.size W0 V → ZnAt V B z (.slice At z.types.length ct) (.slice As z.times.length cs) (.slice Ai z.index.length ci)) := Lib.hid fun V hb => (H.out.below HB0.out hB).below hb (by rw [HSZ.out]; omega)
  have HFEW : Hid (∀ V, Below W0.heap.size W0 V → Calls Try.prog 8 #[.agg #[.slice At z.types.length ct, .slice As z.times.length cs, .slice Ai z.index.length ci, .string z.footer], .int .i64 500] V fun e V' => e = .returned (.bool true) ∧ Below V.heap.size V V') := Lib.hid fun V hb => by
    have := few_any z _ _ _ B 500 V (HZ.out V hb)
    rwa [hf] at this
  have HRT : Hid (∀ V, Below W0.heap.size W0 V → Calls Try.prog 13 #[.agg #[.slice At z.types.length ct, .slice As z.times.length cs, .slice Ai z.index.length ci, .string z.footer]] V fun e V' => e = .returned (.bool true) ∧ Below V.heap.size V V') := Lib.hid fun V hb => by
    have := right_any z _ _ _ B V (HZ.out V hb) ho (by have := hb.size; have := HSZ.out; omega)
    rwa [hr] at this
  have q0 := HC.out _ HB.out 0 _ rfl; have q1 := HC.out _ HB.out 1 _ rfl; have q2 := HC.out _ HB.out 2 _ rfl; have q3 := HC.out _ HB.out 3 _ rfl
  have hj0 : ¬ (0 : Int) < (z.times.length : Int) := by omega
  have h499 : ¬ (499 : Int) ≤ (z.times.length : Int) := by omega
  have hi0 : ¬ idx < 0 := by omega
  have hi1 : ¬ (z.types.length : Int) ≤ idx := by omega
  have hat : ∀ y ∈ z.times, y < 1 + more := by intro y hy; have : z.times = [] := List.eq_nil_of_length_eq_zero h0; rw [this] at hy; simp at hy
  obtain ⟨y, hy⟩ : ∃ y, moreZ z (1 + more) idx = y := ⟨_, rfl⟩
  have HY := Lib.hid hy
  have HYR : Hid (rightZ y = true) := Lib.hid (by rw [← hy]; exact more_right hr h1 hat h2 h3)
  have HYA : Hid (atZ y sec = if (1 + more) ≤ sec then idx else atZ z sec) := Lib.hid (by rw [← hy]; exact more_at hr h1 hat h2 h3)
  have HYO : Hid (ZnOk y) := Lib.hid (by rw [← hy]; exact ⟨ho.types, by simp [moreZ]; omega, by have := (right_parts hr).2; simp [moreZ]; omega, ho.abbr, ho.footer⟩)
  have HIL : Hid (z.index.length ≤ 500) := Lib.hid (by have := (right_parts hr).2; omega)
  have HHO := Lib.hid ho; have HHR := Lib.hid hr
  have HBL : Hid (B ≤ W0.heap.size) := Lib.hid (by have := HSZ.out; omega)
  clear h hf hr ho hy hat h0
  go_enter Try.func6, Try.ntmps6
  go_upto_region 10 with (first
    | (go_at_call 8; refine (HFEW.out _ HB.out).mono ?_; clear HFEW q0 q1 q2 q3; rintro e V1 ⟨rfl, hb⟩; have HB1 := Lib.hid (HB.out.trans (hb.mono HB.out.size)); clear hb; have q0 := HC.out _ HB1.out 0 _ rfl; have q1 := HC.out _ HB1.out 1 _ rfl; have q2 := HC.out _ HB1.out 2 _ rfl; have q3 := HC.out _ HB1.out 3 _ rfl)
    | (go_at_call 13; refine (HRT.out _ HB1.out).mono ?_; clear HRT q0 q1 q2 q3; rintro e V2 ⟨rfl, hb⟩; have HB2 := Lib.hid (HB1.out.trans (hb.mono HB1.out.size)); clear hb; have q0 := HC.out _ HB2.out 0 _ rfl; have q1 := HC.out _ HB2.out 1 _ rfl; have q2 := HC.out _ HB2.out 2 _ rfl; have q3 := HC.out _ HB2.out 3 _ rfl)
    | fail)
  refine wp_world (R := fun U => Below W0.heap.size W0 U ∧ U.heap.size = V2.heap.size + 1 ∧ ZnBox U V2.heap.size (.slice At z.types.length ct) (.slice As z.times.length cs) (.slice Ai z.index.length ci) (.string z.footer)) ⟨HB2.out.alloc HB2.out.size _, by simp, ZnBox.new V2 _ rfl _ _ _ _ _⟩ ?_
  have HP : Hid (W0.heap.size ≤ V2.heap.size) := Lib.hid HB2.out.size
  clear q0 q1 q2 q3
  obtain ⟨P, hP⟩ : ∃ P, V2.heap.size = P := ⟨_, rfl⟩
  rw [hP] at HP ⊢
  clear hP HB2 HB1
  rintro U ⟨hb, hu, hbox⟩
  have HBU := Lib.hid hb; have HU := Lib.hid hu; have HX := Lib.hid hbox
  have qz : ∀ o, (U.alloc o).cell? ⟨w.heap.size, 1, none⟩ = some (.slice As z.times.length cs) := fun o => cell_old U o _ _ _ (by have := HU.out; have := HP.out; have := HSZ.out; omega) (HC.out U hb 1 _ rfl)
  clear hb hu hbox
  go_upto_region 11 with (first
    | (at_builtin; refine plain_append_ints_n (.tmp 60) (.tmp 62) 23 2 Try.underlying23 i64_info rfl rfl (P + 1) B z.times.length _ _ [] z.times rfl rfl (OwnI.empty U 2 (P + 1) (Nat.le_of_eq HU.out.symm)) ((HZ.out U HBU.out).times.below ((Below.refl U.heap.size U).alloc (Nat.le_refl _) _) (Nat.le_trans HBL.out HBU.out.size)) (by show 0 + _ ≤ _; omega) (by have := HU.out; simp; omega) rfl ?_; intro A5 c5 V5 hO hG; have HO5 := Lib.hid hO; have HB5 : Hid (Below (P + 1) U V5) := Lib.hid (((Below.refl U.heap.size U).alloc (Nat.le_refl _) _).mono (Nat.le_of_eq HU.out.symm) |>.trans (growI_below (OwnI.empty U 2 (P + 1) (Nat.le_of_eq HU.out.symm)) hG (Nat.le_refl _) (by have := HU.out; simp; omega))); clear hO hG qz)
    | (at_builtin; refine plain_append_ints_n (.tmp 63) (.tmp 65) 23 2 Try.underlying23 i64_info rfl rfl (P + 1) (V5.heap.size + 1) (z.times.length + 1) _ _ ([] ++ z.times) [(1 + more)] rfl rfl (HO5.out.alloc _) (Sl.new (rows := [[.int .i64 ((1 + more))]]) (Nat.lt_succ_self _) (fun j row hj k u hu => by
        match j, hj with
        | 0, hj =>
          have e : row = [.int .i64 ((1 + more))] := by simpa using hj.symm
          subst e
          match k, hu with
          | 0, hu => exact cell_new V5 _ _ _ 0 u rfl hu)) (by show (List.length z.times) + 1 ≤ _; omega) (by have := HB5.out.size; have := HU.out; simp; omega) (by simp) ?_; intro A6 c6 V6 hO hG; have HO6 := Lib.hid hO; have HB6 : Hid (Below (P + 1) U V6) := Lib.hid (HB5.out.trans ((((Below.refl V5.heap.size V5).alloc (Nat.le_refl _) _).mono (by have := HB5.out.size; have := HU.out; omega)).trans (growI_below (HO5.out.alloc _) hG (Nat.le_refl _) (by have := HB5.out.size; have := HU.out; simp; omega)))); clear hO hG HO5 HB5; have HX6 := Lib.hid (HX.out.below HB6.out (Nat.lt_succ_self P)); have y1 := HX6.out.c1; have f1 := HX6.out.fr 1)
    | fail)
  refine wp_world (R := fun T => Below W0.heap.size W0 T ∧ P + 1 ≤ T.heap.size ∧ ZnBox T P (.slice At z.types.length ct) (.slice A6 (z.times.length + 1) c6) (.slice Ai z.index.length ci) (.string z.footer) ∧ OwnI T (P + 1) 2 (.slice A6 (z.times.length + 1) c6) (z.times ++ [(1 + more)])) ⟨(HBU.out.trans (HB6.out.mono (by have := HP.out; omega))).setCell (by have := HP.out; omega) _, by have := HX6.out.lt; simp; omega, HX6.out.set1 _, HO6.out.set (Nat.lt_succ_self P) _ _⟩ ?_
  clear y1 f1 HX6 HO6 HB6 HX HU HBU
  rintro T ⟨hb, ht, hbox, hown⟩
  have HBT := Lib.hid hb; have HTS := Lib.hid ht; have HX := Lib.hid hbox; have HOT := Lib.hid hown
  have qz : ∀ o, (T.alloc o).cell? ⟨w.heap.size, 2, none⟩ = some (.slice Ai z.index.length ci) := fun o => cell_old T o _ _ _ (by have := HTS.out; have := HP.out; have := HSZ.out; omega) (HC.out T hb 2 _ rfl)
  clear hb ht hbox hown
  go_upto_region 12 with (first
    | (at_builtin; refine plain_append_ints_n (.tmp 68) (.tmp 70) 24 3 Try.underlying24 int_info rfl rfl T.heap.size B z.index.length _ _ [] z.index rfl rfl (OwnI.empty T 3 T.heap.size (Nat.le_refl _)) ((HZ.out T HBT.out).index.below ((Below.refl T.heap.size T).alloc (Nat.le_refl _) _) (Nat.le_trans HBL.out HBT.out.size)) (by have := HIL.out; show 0 + _ ≤ _; omega) (by simp) rfl ?_; intro A7 c7 V7 hO hG; have HO7 := Lib.hid hO; have HB7 : Hid (Below T.heap.size T V7) := Lib.hid (((Below.refl T.heap.size T).alloc (Nat.le_refl _) _).trans (growI_below (OwnI.empty T 3 T.heap.size (Nat.le_refl _)) hG (Nat.le_refl _) (by simp))); clear hO hG qz)
    | (at_builtin; refine plain_append_ints_n (.tmp 71) (.tmp 73) 24 3 Try.underlying24 int_info rfl rfl T.heap.size (V7.heap.size + 1) (z.index.length + 1) _ _ ([] ++ z.index) [idx] rfl rfl (HO7.out.alloc _) (Sl.new (rows := [[.int .i64 idx]]) (Nat.lt_succ_self _) (fun j row hj k u hu => by
        match j, hj with
        | 0, hj =>
          have e : row = [.int .i64 idx] := by simpa using hj.symm
          subst e
          match k, hu with
          | 0, hu => exact cell_new V7 _ _ _ 0 u rfl hu)) (by have := HIL.out; show (List.length z.index) + 1 ≤ _; omega) (by have := HB7.out.size; simp; omega) (by simp) ?_; intro A8 c8 V8 hO hG; have HO8 := Lib.hid hO; have HB8 : Hid (Below T.heap.size T V8) := Lib.hid (HB7.out.trans ((((Below.refl V7.heap.size V7).alloc (Nat.le_refl _) _).mono HB7.out.size).trans (growI_below (HO7.out.alloc _) hG (Nat.le_refl _) (by have := HB7.out.size; simp; omega)))); clear hO hG HO7 HB7; have HX8 := Lib.hid (HX.out.below HB8.out (by have := HTS.out; omega)); have y1 := HX8.out.c2; have f1 := HX8.out.fr 2)
    | fail)
  refine wp_world (R := fun Y => Below W0.heap.size W0 Y ∧ ZnBox Y P (.slice At z.types.length ct) (.slice A6 (z.times.length + 1) c6) (.slice A8 (z.index.length + 1) c8) (.string z.footer) ∧ OwnI Y (P + 1) 2 (.slice A6 (z.times.length + 1) c6) (z.times ++ [(1 + more)]) ∧ OwnI Y T.heap.size 3 (.slice A8 (z.index.length + 1) c8) (z.index ++ [idx])) ⟨(HBT.out.trans (HB8.out.mono HBT.out.size)).setCell (by have := HP.out; omega) _, HX8.out.set2 _, (HOT.out.keep HB8.out).set (Nat.lt_succ_self P) _ _, HO8.out.set (by have := HTS.out; omega) _ _⟩ ?_
  clear y1 f1 HX8 HO8 HB8 HX HTS HBT HOT
  rintro Y ⟨hb, hbox, hown, hown2⟩
  have HBY := Lib.hid hb; have HX := Lib.hid hbox
  have HZY : Hid (∀ V, Below Y.heap.size Y V → ZnAt V Y.heap.size y (.slice At z.types.length ct) (.slice A6 (z.times.length + 1) c6) (.slice A8 (z.index.length + 1) c8)) := Lib.hid fun V hv => by
    have e := HY.out
    subst e
    exact (ZnAt.mk ⟨(HZ.out Y hb).types.form, fun j row hj => by
      obtain ⟨g, off, c, e, hg, hc⟩ := (HZ.out Y hb).types.at_ j row hj
      exact ⟨g, off, c, e, Nat.lt_of_lt_of_le hg (Nat.le_trans HBL.out hb.size), hc⟩⟩ (hown.sl (Nat.le_refl _)) (hown2.sl (Nat.le_refl _)) : ZnAt Y Y.heap.size (moreZ z ((1 + more)) idx) _ _ _).below hv (Nat.le_refl _)
  have HFY : Hid (y.footer = z.footer) := Lib.hid (by rw [← HY.out]; rfl)
  obtain ⟨a, ha⟩ : ∃ a, atZ z sec = a := ⟨_, rfl⟩
  have HYA2 : Hid (atZ y sec = a) := Lib.hid (by rw [HYA.out, ha]; simp; omega)
  have HAZ : Hid (∀ V, Below W0.heap.size W0 V → Calls Try.prog 15 #[.agg #[.slice At z.types.length ct, .slice As z.times.length cs, .slice Ai z.index.length ci, .string z.footer], .int .i64 sec] V fun e V' => e = .returned (.int .i64 a) ∧ Below V.heap.size V V') := Lib.hid fun V hv => by
    have := at_any z _ _ _ B sec V (HZ.out V hv) HHO.out (Nat.le_trans HBL.out hv.size)
    rwa [ha] at this
  have HRY : Hid (∀ V, Below Y.heap.size Y V → Calls Try.prog 13 #[.agg #[.slice At z.types.length ct, .slice A6 (z.times.length + 1) c6, .slice A8 (z.index.length + 1) c8, .string z.footer]] V fun e V' => e = .returned (.bool true) ∧ Below V.heap.size V V') := Lib.hid fun V hv => by
    have := right_any y _ _ _ Y.heap.size V (HZY.out V hv) HYO.out hv.size
    rwa [HYR.out, HFY.out] at this
  have HAY : Hid (∀ V, Below Y.heap.size Y V → Calls Try.prog 15 #[.agg #[.slice At z.types.length ct, .slice A6 (z.times.length + 1) c6, .slice A8 (z.index.length + 1) c8, .string z.footer], .int .i64 sec] V fun e V' => e = .returned (.int .i64 (a)) ∧ Below V.heap.size V V') := Lib.hid fun V hv => by
    have := at_any y _ _ _ Y.heap.size sec V (HZY.out V hv) HYO.out hv.size
    rwa [HYA2.out, HFY.out] at this
  have q0 := HC.out _ hb 0 _ rfl; have q1 := HC.out _ hb 1 _ rfl; have q2 := HC.out _ hb 2 _ rfl; have q3 := HC.out _ hb 3 _ rfl
  clear ha hb hbox hown hown2
  go_wp2_with (first
    | (go_at_call 15; refine (HAZ.out _ HBY.out).mono ?_; clear HAZ q0 q1 q2 q3; rintro e Y1 ⟨rfl, hb⟩; have HB1 := Lib.hid hb; clear hb; have k0 := (HX.out.below HB1.out HX.out.lt).c0; have k1 := (HX.out.below HB1.out HX.out.lt).c1; have k2 := (HX.out.below HB1.out HX.out.lt).c2; have k3 := (HX.out.below HB1.out HX.out.lt).c3)
    | (go_at_call 13; refine (HRY.out _ HB1.out).mono ?_; clear HRY k0 k1 k2 k3; rintro e Y2 ⟨rfl, hb⟩; have HB2 := Lib.hid (HB1.out.trans (hb.mono HB1.out.size)); clear hb; have k0 := (HX.out.below HB2.out HX.out.lt).c0; have k1 := (HX.out.below HB2.out HX.out.lt).c1; have k2 := (HX.out.below HB2.out HX.out.lt).c2; have k3 := (HX.out.below HB2.out HX.out.lt).c3)
    | (go_at_call 15; refine (HAY.out _ HB2.out).mono ?_; clear HAY k0 k1 k2 k3; rintro e Y3 ⟨rfl, hb⟩; have HB3 := Lib.hid (HB2.out.trans (hb.mono HB2.out.size)); clear hb)
    | (go_at_call 9; refine (works_any _).mono ?_; rintro e Y4 ⟨rfl, hb⟩; have HB4 := Lib.hid (HB3.out.trans (hb.mono HB3.out.size)); clear hb)
    | fail)
  go_ret
  exact ⟨rfl, HB0.out.trans ((HBY.out.trans (HB4.out.mono HBY.out.size)).mono HB0.out.size)⟩
set_option maxRecDepth 100000 in
set_option maxHeartbeats 2000000 in
theorem more_s (z : Zn) (vt vs vi : Value) (B : Nat) (sec more idx : Int) (w : World) (h : ZnAt w B z vt vs vi) (hB : B ≤ w.heap.size) (hf : fewZ z 500 = true) (ho : ZnOk z) (hr : rightZ z = true) (h1 : z.times.length < 499) (h2 : 0 ≤ idx) (h3 : idx < z.types.length) (h4 : 0 ≤ more) (h5 : more ≤ 4294967295) (j : Nat) (hj : z.times.length = j + 1) (last : Int) (hx : z.times[j]? = some last) (hl : last ≤ 4611686018427387904) (hl0 : -9223372036854775808 ≤ last) (hs : last + 1 + more ≤ sec) :
    Calls Try.prog 6 #[.agg #[vt, vs, vi, .string z.footer], .int .i64 sec, .int .u32 more, .int .i64 idx] w fun e w' => e = .returned (.bool true) ∧ Below w.heap.size w w' := by
  obtain ⟨At, ct, rfl⟩ := h.types.len
  obtain ⟨As, cs, rfl⟩ := h.times.len
  obtain ⟨Ai, ci, rfl⟩ := h.index.len
  have H := Lib.hid h
  obtain ⟨W0, hW0⟩ : ∃ W0, w.alloc (.cells #[.slice At z.types.length ct, .slice As z.times.length cs, .slice Ai z.index.length ci, .string z.footer] 26) = W0 := ⟨_, rfl⟩
  have HB0 : Hid (Below w.heap.size w W0) := Lib.hid (by rw [← hW0]; exact (Below.refl _ _).alloc (Nat.le_refl _) _)
  have HSZ : Hid (W0.heap.size = w.heap.size + 1) := Lib.hid (by rw [← hW0]; simp)
  have HC0 : Hid (∀ i u, (#[.slice At z.types.length ct, .slice As z.times.length cs, .slice Ai z.index.length ci, .string z.footer] : Array Value)[i]? = some u → W0.cell? ⟨w.heap.size, i, none⟩ = some u) := Lib.hid fun i u hu => by rw [← hW0]; exact cell_new w _ _ _ i u rfl hu
  have HB : Hid (Below W0.heap.size W0 W0) := Lib.hid (Below.refl _ _)
  have HC : Hid (∀ V, Below W0.heap.size W0 V → ∀ i u, (#[.slice At z.types.length ct, .slice As z.times.length cs, .slice Ai z.index.length ci, .string z.footer] : Array Value)[i]? = some u → V.cell? ⟨w.heap.size, i, none⟩ = some u) := Lib.hid fun V hb i u hu => cells_at w.heap.size hb (by rw [HSZ.out]; omega) (HC0.out i u hu)
  have HZ : Hid (∀ V, Below W0.heap.size W0 V → ZnAt V B z (.slice At z.types.length ct) (.slice As z.times.length cs) (.slice Ai z.index.length ci)) := Lib.hid fun V hb => (H.out.below HB0.out hB).below hb (by rw [HSZ.out]; omega)
  have HFEW : Hid (∀ V, Below W0.heap.size W0 V → Calls Try.prog 8 #[.agg #[.slice At z.types.length ct, .slice As z.times.length cs, .slice Ai z.index.length ci, .string z.footer], .int .i64 500] V fun e V' => e = .returned (.bool true) ∧ Below V.heap.size V V') := Lib.hid fun V hb => by
    have := few_any z _ _ _ B 500 V (HZ.out V hb)
    rwa [hf] at this
  have HRT : Hid (∀ V, Below W0.heap.size W0 V → Calls Try.prog 13 #[.agg #[.slice At z.types.length ct, .slice As z.times.length cs, .slice Ai z.index.length ci, .string z.footer]] V fun e V' => e = .returned (.bool true) ∧ Below V.heap.size V V') := Lib.hid fun V hb => by
    have := right_any z _ _ _ B V (HZ.out V hb) ho (by have := hb.size; have := HSZ.out; omega)
    rwa [hr] at this
  have q0 := HC.out _ HB.out 0 _ rfl; have q1 := HC.out _ HB.out 1 _ rfl; have q2 := HC.out _ HB.out 2 _ rfl; have q3 := HC.out _ HB.out 3 _ rfl
  obtain ⟨g, off, c', hv, hg, c0⟩ := (HZ.out _ HB.out).times.one hx
  injection hv with e1 _ e3
  subst e1; subst e3
  have HG : Hid (∀ V, Below W0.heap.size W0 V → V.cell? ⟨g, off + j, none⟩ = some (.int .i64 last)) := Lib.hid fun V hb => cells_at g hb (by rw [HSZ.out]; omega) c0
  have hj0 : (0 : Int) < (z.times.length : Int) := by omega
  have hj1 : (z.times.length : Int) - 1 = (j : Int) := by omega
  have hj2 : (0 : Int) ≤ (j : Int) := by omega
  have hj3 : (j : Int) < (z.times.length : Int) := by omega
  clear c0 hg
  have h499 : ¬ (499 : Int) ≤ (z.times.length : Int) := by omega
  have hi0 : ¬ idx < 0 := by omega
  have hi1 : ¬ (z.types.length : Int) ≤ idx := by omega
  have hat : ∀ y ∈ z.times, y < last + 1 + more := by intro y hy; have := rises_last (right_parts hr).1 y hy last (by rw [List.getLast?_eq_getElem?, hj]; exact hx); omega
  have hl1 : ¬ 4611686018427387904 < last := by omega
  obtain ⟨y, hy⟩ : ∃ y, moreZ z (last + 1 + more) idx = y := ⟨_, rfl⟩
  have HY := Lib.hid hy
  have HYR : Hid (rightZ y = true) := Lib.hid (by rw [← hy]; exact more_right hr h1 hat h2 h3)
  have HYA : Hid (atZ y sec = if (last + 1 + more) ≤ sec then idx else atZ z sec) := Lib.hid (by rw [← hy]; exact more_at hr h1 hat h2 h3)
  have HYO : Hid (ZnOk y) := Lib.hid (by rw [← hy]; exact ⟨ho.types, by simp [moreZ]; omega, by have := (right_parts hr).2; simp [moreZ]; omega, ho.abbr, ho.footer⟩)
  have HIL : Hid (z.index.length ≤ 500) := Lib.hid (by have := (right_parts hr).2; omega)
  have HHO := Lib.hid ho; have HHR := Lib.hid hr
  have HBL : Hid (B ≤ W0.heap.size) := Lib.hid (by have := HSZ.out; omega)
  clear h hf hr ho hy hat hj
  go_enter Try.func6, Try.ntmps6
  go_upto_region 10 with (first
    | (go_at_call 8; refine (HFEW.out _ HB.out).mono ?_; clear HFEW q0 q1 q2 q3; rintro e V1 ⟨rfl, hb⟩; have HB1 := Lib.hid (HB.out.trans (hb.mono HB.out.size)); clear hb; have q0 := HC.out _ HB1.out 0 _ rfl; have q1 := HC.out _ HB1.out 1 _ rfl; have q2 := HC.out _ HB1.out 2 _ rfl; have q3 := HC.out _ HB1.out 3 _ rfl)
    | (go_at_call 13; refine (HRT.out _ HB1.out).mono ?_; clear HRT q0 q1 q2 q3; rintro e V2 ⟨rfl, hb⟩; have HB2 := Lib.hid (HB1.out.trans (hb.mono HB1.out.size)); clear hb; have q0 := HC.out _ HB2.out 0 _ rfl; have q1 := HC.out _ HB2.out 1 _ rfl; have q2 := HC.out _ HB2.out 2 _ rfl; have q3 := HC.out _ HB2.out 3 _ rfl; have kj := HG.out _ HB2.out)
    | fail)
  refine wp_world (R := fun U => Below W0.heap.size W0 U ∧ U.heap.size = V2.heap.size + 1 ∧ ZnBox U V2.heap.size (.slice At z.types.length ct) (.slice (some ⟨g, off, none⟩) z.times.length cs) (.slice Ai z.index.length ci) (.string z.footer)) ⟨HB2.out.alloc HB2.out.size _, by simp, ZnBox.new V2 _ rfl _ _ _ _ _⟩ ?_
  have HP : Hid (W0.heap.size ≤ V2.heap.size) := Lib.hid HB2.out.size
  clear q0 q1 q2 q3 kj
  obtain ⟨P, hP⟩ : ∃ P, V2.heap.size = P := ⟨_, rfl⟩
  rw [hP] at HP ⊢
  clear hP HB2 HB1
  rintro U ⟨hb, hu, hbox⟩
  have HBU := Lib.hid hb; have HU := Lib.hid hu; have HX := Lib.hid hbox
  have qz : ∀ o, (U.alloc o).cell? ⟨w.heap.size, 1, none⟩ = some (.slice (some ⟨g, off, none⟩) z.times.length cs) := fun o => cell_old U o _ _ _ (by have := HU.out; have := HP.out; have := HSZ.out; omega) (HC.out U hb 1 _ rfl)
  clear hb hu hbox
  go_upto_region 11 with (first
    | (at_builtin; refine plain_append_ints_n (.tmp 60) (.tmp 62) 23 2 Try.underlying23 i64_info rfl rfl (P + 1) B z.times.length _ _ [] z.times rfl rfl (OwnI.empty U 2 (P + 1) (Nat.le_of_eq HU.out.symm)) ((HZ.out U HBU.out).times.below ((Below.refl U.heap.size U).alloc (Nat.le_refl _) _) (Nat.le_trans HBL.out HBU.out.size)) (by show 0 + _ ≤ _; omega) (by have := HU.out; simp; omega) rfl ?_; intro A5 c5 V5 hO hG; have HO5 := Lib.hid hO; have HB5 : Hid (Below (P + 1) U V5) := Lib.hid (((Below.refl U.heap.size U).alloc (Nat.le_refl _) _).mono (Nat.le_of_eq HU.out.symm) |>.trans (growI_below (OwnI.empty U 2 (P + 1) (Nat.le_of_eq HU.out.symm)) hG (Nat.le_refl _) (by have := HU.out; simp; omega))); clear hO hG qz)
    | (at_builtin; refine plain_append_ints_n (.tmp 63) (.tmp 65) 23 2 Try.underlying23 i64_info rfl rfl (P + 1) (V5.heap.size + 1) (z.times.length + 1) _ _ ([] ++ z.times) [(last + 1 + more)] rfl rfl (HO5.out.alloc _) (Sl.new (rows := [[.int .i64 ((last + 1 + more))]]) (Nat.lt_succ_self _) (fun j row hj k u hu => by
        match j, hj with
        | 0, hj =>
          have e : row = [.int .i64 ((last + 1 + more))] := by simpa using hj.symm
          subst e
          match k, hu with
          | 0, hu => exact cell_new V5 _ _ _ 0 u rfl hu)) (by show (List.length z.times) + 1 ≤ _; omega) (by have := HB5.out.size; have := HU.out; simp; omega) (by simp) ?_; intro A6 c6 V6 hO hG; have HO6 := Lib.hid hO; have HB6 : Hid (Below (P + 1) U V6) := Lib.hid (HB5.out.trans ((((Below.refl V5.heap.size V5).alloc (Nat.le_refl _) _).mono (by have := HB5.out.size; have := HU.out; omega)).trans (growI_below (HO5.out.alloc _) hG (Nat.le_refl _) (by have := HB5.out.size; have := HU.out; simp; omega)))); clear hO hG HO5 HB5; have HX6 := Lib.hid (HX.out.below HB6.out (Nat.lt_succ_self P)); have y1 := HX6.out.c1; have f1 := HX6.out.fr 1)
    | fail)
  refine wp_world (R := fun T => Below W0.heap.size W0 T ∧ P + 1 ≤ T.heap.size ∧ ZnBox T P (.slice At z.types.length ct) (.slice A6 (z.times.length + 1) c6) (.slice Ai z.index.length ci) (.string z.footer) ∧ OwnI T (P + 1) 2 (.slice A6 (z.times.length + 1) c6) (z.times ++ [(last + 1 + more)])) ⟨(HBU.out.trans (HB6.out.mono (by have := HP.out; omega))).setCell (by have := HP.out; omega) _, by have := HX6.out.lt; simp; omega, HX6.out.set1 _, HO6.out.set (Nat.lt_succ_self P) _ _⟩ ?_
  clear y1 f1 HX6 HO6 HB6 HX HU HBU
  rintro T ⟨hb, ht, hbox, hown⟩
  have HBT := Lib.hid hb; have HTS := Lib.hid ht; have HX := Lib.hid hbox; have HOT := Lib.hid hown
  have qz : ∀ o, (T.alloc o).cell? ⟨w.heap.size, 2, none⟩ = some (.slice Ai z.index.length ci) := fun o => cell_old T o _ _ _ (by have := HTS.out; have := HP.out; have := HSZ.out; omega) (HC.out T hb 2 _ rfl)
  clear hb ht hbox hown
  go_upto_region 12 with (first
    | (at_builtin; refine plain_append_ints_n (.tmp 68) (.tmp 70) 24 3 Try.underlying24 int_info rfl rfl T.heap.size B z.index.length _ _ [] z.index rfl rfl (OwnI.empty T 3 T.heap.size (Nat.le_refl _)) ((HZ.out T HBT.out).index.below ((Below.refl T.heap.size T).alloc (Nat.le_refl _) _) (Nat.le_trans HBL.out HBT.out.size)) (by have := HIL.out; show 0 + _ ≤ _; omega) (by simp) rfl ?_; intro A7 c7 V7 hO hG; have HO7 := Lib.hid hO; have HB7 : Hid (Below T.heap.size T V7) := Lib.hid (((Below.refl T.heap.size T).alloc (Nat.le_refl _) _).trans (growI_below (OwnI.empty T 3 T.heap.size (Nat.le_refl _)) hG (Nat.le_refl _) (by simp))); clear hO hG qz)
    | (at_builtin; refine plain_append_ints_n (.tmp 71) (.tmp 73) 24 3 Try.underlying24 int_info rfl rfl T.heap.size (V7.heap.size + 1) (z.index.length + 1) _ _ ([] ++ z.index) [idx] rfl rfl (HO7.out.alloc _) (Sl.new (rows := [[.int .i64 idx]]) (Nat.lt_succ_self _) (fun j row hj k u hu => by
        match j, hj with
        | 0, hj =>
          have e : row = [.int .i64 idx] := by simpa using hj.symm
          subst e
          match k, hu with
          | 0, hu => exact cell_new V7 _ _ _ 0 u rfl hu)) (by have := HIL.out; show (List.length z.index) + 1 ≤ _; omega) (by have := HB7.out.size; simp; omega) (by simp) ?_; intro A8 c8 V8 hO hG; have HO8 := Lib.hid hO; have HB8 : Hid (Below T.heap.size T V8) := Lib.hid (HB7.out.trans ((((Below.refl V7.heap.size V7).alloc (Nat.le_refl _) _).mono HB7.out.size).trans (growI_below (HO7.out.alloc _) hG (Nat.le_refl _) (by have := HB7.out.size; simp; omega)))); clear hO hG HO7 HB7; have HX8 := Lib.hid (HX.out.below HB8.out (by have := HTS.out; omega)); have y1 := HX8.out.c2; have f1 := HX8.out.fr 2)
    | fail)
  refine wp_world (R := fun Y => Below W0.heap.size W0 Y ∧ ZnBox Y P (.slice At z.types.length ct) (.slice A6 (z.times.length + 1) c6) (.slice A8 (z.index.length + 1) c8) (.string z.footer) ∧ OwnI Y (P + 1) 2 (.slice A6 (z.times.length + 1) c6) (z.times ++ [(last + 1 + more)]) ∧ OwnI Y T.heap.size 3 (.slice A8 (z.index.length + 1) c8) (z.index ++ [idx])) ⟨(HBT.out.trans (HB8.out.mono HBT.out.size)).setCell (by have := HP.out; omega) _, HX8.out.set2 _, (HOT.out.keep HB8.out).set (Nat.lt_succ_self P) _ _, HO8.out.set (by have := HTS.out; omega) _ _⟩ ?_
  clear y1 f1 HX8 HO8 HB8 HX HTS HBT HOT
  rintro Y ⟨hb, hbox, hown, hown2⟩
  have HBY := Lib.hid hb; have HX := Lib.hid hbox
  have HZY : Hid (∀ V, Below Y.heap.size Y V → ZnAt V Y.heap.size y (.slice At z.types.length ct) (.slice A6 (z.times.length + 1) c6) (.slice A8 (z.index.length + 1) c8)) := Lib.hid fun V hv => by
    have e := HY.out
    subst e
    exact (ZnAt.mk ⟨(HZ.out Y hb).types.form, fun j row hj => by
      obtain ⟨g, off, c, e, hg, hc⟩ := (HZ.out Y hb).types.at_ j row hj
      exact ⟨g, off, c, e, Nat.lt_of_lt_of_le hg (Nat.le_trans HBL.out hb.size), hc⟩⟩ (hown.sl (Nat.le_refl _)) (hown2.sl (Nat.le_refl _)) : ZnAt Y Y.heap.size (moreZ z ((last + 1 + more)) idx) _ _ _).below hv (Nat.le_refl _)
  have HFY : Hid (y.footer = z.footer) := Lib.hid (by rw [← HY.out]; rfl)
  obtain ⟨a, ha⟩ : ∃ a, atZ z sec = a := ⟨_, rfl⟩
  have HYA2 : Hid (atZ y sec = idx) := Lib.hid (by rw [HYA.out, ha]; simp; omega)
  have HAZ : Hid (∀ V, Below W0.heap.size W0 V → Calls Try.prog 15 #[.agg #[.slice At z.types.length ct, .slice (some ⟨g, off, none⟩) z.times.length cs, .slice Ai z.index.length ci, .string z.footer], .int .i64 sec] V fun e V' => e = .returned (.int .i64 a) ∧ Below V.heap.size V V') := Lib.hid fun V hv => by
    have := at_any z _ _ _ B sec V (HZ.out V hv) HHO.out (Nat.le_trans HBL.out hv.size)
    rwa [ha] at this
  have HRY : Hid (∀ V, Below Y.heap.size Y V → Calls Try.prog 13 #[.agg #[.slice At z.types.length ct, .slice A6 (z.times.length + 1) c6, .slice A8 (z.index.length + 1) c8, .string z.footer]] V fun e V' => e = .returned (.bool true) ∧ Below V.heap.size V V') := Lib.hid fun V hv => by
    have := right_any y _ _ _ Y.heap.size V (HZY.out V hv) HYO.out hv.size
    rwa [HYR.out, HFY.out] at this
  have HAY : Hid (∀ V, Below Y.heap.size Y V → Calls Try.prog 15 #[.agg #[.slice At z.types.length ct, .slice A6 (z.times.length + 1) c6, .slice A8 (z.index.length + 1) c8, .string z.footer], .int .i64 sec] V fun e V' => e = .returned (.int .i64 (idx)) ∧ Below V.heap.size V V') := Lib.hid fun V hv => by
    have := at_any y _ _ _ Y.heap.size sec V (HZY.out V hv) HYO.out hv.size
    rwa [HYA2.out, HFY.out] at this
  have q0 := HC.out _ hb 0 _ rfl; have q1 := HC.out _ hb 1 _ rfl; have q2 := HC.out _ hb 2 _ rfl; have q3 := HC.out _ hb 3 _ rfl
  clear ha hb hbox hown hown2
  go_wp2_with (first
    | (go_at_call 15; refine (HAZ.out _ HBY.out).mono ?_; clear HAZ q0 q1 q2 q3; rintro e Y1 ⟨rfl, hb⟩; have HB1 := Lib.hid hb; clear hb; have k0 := (HX.out.below HB1.out HX.out.lt).c0; have k1 := (HX.out.below HB1.out HX.out.lt).c1; have k2 := (HX.out.below HB1.out HX.out.lt).c2; have k3 := (HX.out.below HB1.out HX.out.lt).c3)
    | (go_at_call 13; refine (HRY.out _ HB1.out).mono ?_; clear HRY k0 k1 k2 k3; rintro e Y2 ⟨rfl, hb⟩; have HB2 := Lib.hid (HB1.out.trans (hb.mono HB1.out.size)); clear hb; have k0 := (HX.out.below HB2.out HX.out.lt).c0; have k1 := (HX.out.below HB2.out HX.out.lt).c1; have k2 := (HX.out.below HB2.out HX.out.lt).c2; have k3 := (HX.out.below HB2.out HX.out.lt).c3)
    | (go_at_call 15; refine (HAY.out _ HB2.out).mono ?_; clear HAY k0 k1 k2 k3; rintro e Y3 ⟨rfl, hb⟩; have HB3 := Lib.hid (HB2.out.trans (hb.mono HB2.out.size)); clear hb)
    | (go_at_call 9; refine (works_any _).mono ?_; rintro e Y4 ⟨rfl, hb⟩; have HB4 := Lib.hid (HB3.out.trans (hb.mono HB3.out.size)); clear hb)
    | fail)
  go_ret
  exact ⟨rfl, HB0.out.trans ((HBY.out.trans (HB4.out.mono HBY.out.size)).mono HB0.out.size)⟩
set_option maxRecDepth 100000 in
set_option maxHeartbeats 2000000 in
theorem more_t (z : Zn) (vt vs vi : Value) (B : Nat) (sec more idx : Int) (w : World) (h : ZnAt w B z vt vs vi) (hB : B ≤ w.heap.size) (hf : fewZ z 500 = true) (ho : ZnOk z) (hr : rightZ z = true) (h1 : z.times.length < 499) (h2 : 0 ≤ idx) (h3 : idx < z.types.length) (h4 : 0 ≤ more) (h5 : more ≤ 4294967295) (j : Nat) (hj : z.times.length = j + 1) (last : Int) (hx : z.times[j]? = some last) (hl : last ≤ 4611686018427387904) (hl0 : -9223372036854775808 ≤ last) (hs : ¬ last + 1 + more ≤ sec) :
    Calls Try.prog 6 #[.agg #[vt, vs, vi, .string z.footer], .int .i64 sec, .int .u32 more, .int .i64 idx] w fun e w' => e = .returned (.bool true) ∧ Below w.heap.size w w' := by
  obtain ⟨At, ct, rfl⟩ := h.types.len
  obtain ⟨As, cs, rfl⟩ := h.times.len
  obtain ⟨Ai, ci, rfl⟩ := h.index.len
  have H := Lib.hid h
  obtain ⟨W0, hW0⟩ : ∃ W0, w.alloc (.cells #[.slice At z.types.length ct, .slice As z.times.length cs, .slice Ai z.index.length ci, .string z.footer] 26) = W0 := ⟨_, rfl⟩
  have HB0 : Hid (Below w.heap.size w W0) := Lib.hid (by rw [← hW0]; exact (Below.refl _ _).alloc (Nat.le_refl _) _)
  have HSZ : Hid (W0.heap.size = w.heap.size + 1) := Lib.hid (by rw [← hW0]; simp)
  have HC0 : Hid (∀ i u, (#[.slice At z.types.length ct, .slice As z.times.length cs, .slice Ai z.index.length ci, .string z.footer] : Array Value)[i]? = some u → W0.cell? ⟨w.heap.size, i, none⟩ = some u) := Lib.hid fun i u hu => by rw [← hW0]; exact cell_new w _ _ _ i u rfl hu
  have HB : Hid (Below W0.heap.size W0 W0) := Lib.hid (Below.refl _ _)
  have HC : Hid (∀ V, Below W0.heap.size W0 V → ∀ i u, (#[.slice At z.types.length ct, .slice As z.times.length cs, .slice Ai z.index.length ci, .string z.footer] : Array Value)[i]? = some u → V.cell? ⟨w.heap.size, i, none⟩ = some u) := Lib.hid fun V hb i u hu => cells_at w.heap.size hb (by rw [HSZ.out]; omega) (HC0.out i u hu)
  have HZ : Hid (∀ V, Below W0.heap.size W0 V → ZnAt V B z (.slice At z.types.length ct) (.slice As z.times.length cs) (.slice Ai z.index.length ci)) := Lib.hid fun V hb => (H.out.below HB0.out hB).below hb (by rw [HSZ.out]; omega)
  have HFEW : Hid (∀ V, Below W0.heap.size W0 V → Calls Try.prog 8 #[.agg #[.slice At z.types.length ct, .slice As z.times.length cs, .slice Ai z.index.length ci, .string z.footer], .int .i64 500] V fun e V' => e = .returned (.bool true) ∧ Below V.heap.size V V') := Lib.hid fun V hb => by
    have := few_any z _ _ _ B 500 V (HZ.out V hb)
    rwa [hf] at this
  have HRT : Hid (∀ V, Below W0.heap.size W0 V → Calls Try.prog 13 #[.agg #[.slice At z.types.length ct, .slice As z.times.length cs, .slice Ai z.index.length ci, .string z.footer]] V fun e V' => e = .returned (.bool true) ∧ Below V.heap.size V V') := Lib.hid fun V hb => by
    have := right_any z _ _ _ B V (HZ.out V hb) ho (by have := hb.size; have := HSZ.out; omega)
    rwa [hr] at this
  have q0 := HC.out _ HB.out 0 _ rfl; have q1 := HC.out _ HB.out 1 _ rfl; have q2 := HC.out _ HB.out 2 _ rfl; have q3 := HC.out _ HB.out 3 _ rfl
  obtain ⟨g, off, c', hv, hg, c0⟩ := (HZ.out _ HB.out).times.one hx
  injection hv with e1 _ e3
  subst e1; subst e3
  have HG : Hid (∀ V, Below W0.heap.size W0 V → V.cell? ⟨g, off + j, none⟩ = some (.int .i64 last)) := Lib.hid fun V hb => cells_at g hb (by rw [HSZ.out]; omega) c0
  have hj0 : (0 : Int) < (z.times.length : Int) := by omega
  have hj1 : (z.times.length : Int) - 1 = (j : Int) := by omega
  have hj2 : (0 : Int) ≤ (j : Int) := by omega
  have hj3 : (j : Int) < (z.times.length : Int) := by omega
  clear c0 hg
  have h499 : ¬ (499 : Int) ≤ (z.times.length : Int) := by omega
  have hi0 : ¬ idx < 0 := by omega
  have hi1 : ¬ (z.types.length : Int) ≤ idx := by omega
  have hat : ∀ y ∈ z.times, y < last + 1 + more := by intro y hy; have := rises_last (right_parts hr).1 y hy last (by rw [List.getLast?_eq_getElem?, hj]; exact hx); omega
  have hl1 : ¬ 4611686018427387904 < last := by omega
  obtain ⟨y, hy⟩ : ∃ y, moreZ z (last + 1 + more) idx = y := ⟨_, rfl⟩
  have HY := Lib.hid hy
  have HYR : Hid (rightZ y = true) := Lib.hid (by rw [← hy]; exact more_right hr h1 hat h2 h3)
  have HYA : Hid (atZ y sec = if (last + 1 + more) ≤ sec then idx else atZ z sec) := Lib.hid (by rw [← hy]; exact more_at hr h1 hat h2 h3)
  have HYO : Hid (ZnOk y) := Lib.hid (by rw [← hy]; exact ⟨ho.types, by simp [moreZ]; omega, by have := (right_parts hr).2; simp [moreZ]; omega, ho.abbr, ho.footer⟩)
  have HIL : Hid (z.index.length ≤ 500) := Lib.hid (by have := (right_parts hr).2; omega)
  have HHO := Lib.hid ho; have HHR := Lib.hid hr
  have HBL : Hid (B ≤ W0.heap.size) := Lib.hid (by have := HSZ.out; omega)
  clear h hf hr ho hy hat hj
  go_enter Try.func6, Try.ntmps6
  go_upto_region 10 with (first
    | (go_at_call 8; refine (HFEW.out _ HB.out).mono ?_; clear HFEW q0 q1 q2 q3; rintro e V1 ⟨rfl, hb⟩; have HB1 := Lib.hid (HB.out.trans (hb.mono HB.out.size)); clear hb; have q0 := HC.out _ HB1.out 0 _ rfl; have q1 := HC.out _ HB1.out 1 _ rfl; have q2 := HC.out _ HB1.out 2 _ rfl; have q3 := HC.out _ HB1.out 3 _ rfl)
    | (go_at_call 13; refine (HRT.out _ HB1.out).mono ?_; clear HRT q0 q1 q2 q3; rintro e V2 ⟨rfl, hb⟩; have HB2 := Lib.hid (HB1.out.trans (hb.mono HB1.out.size)); clear hb; have q0 := HC.out _ HB2.out 0 _ rfl; have q1 := HC.out _ HB2.out 1 _ rfl; have q2 := HC.out _ HB2.out 2 _ rfl; have q3 := HC.out _ HB2.out 3 _ rfl; have kj := HG.out _ HB2.out)
    | fail)
  refine wp_world (R := fun U => Below W0.heap.size W0 U ∧ U.heap.size = V2.heap.size + 1 ∧ ZnBox U V2.heap.size (.slice At z.types.length ct) (.slice (some ⟨g, off, none⟩) z.times.length cs) (.slice Ai z.index.length ci) (.string z.footer)) ⟨HB2.out.alloc HB2.out.size _, by simp, ZnBox.new V2 _ rfl _ _ _ _ _⟩ ?_
  have HP : Hid (W0.heap.size ≤ V2.heap.size) := Lib.hid HB2.out.size
  clear q0 q1 q2 q3 kj
  obtain ⟨P, hP⟩ : ∃ P, V2.heap.size = P := ⟨_, rfl⟩
  rw [hP] at HP ⊢
  clear hP HB2 HB1
  rintro U ⟨hb, hu, hbox⟩
  have HBU := Lib.hid hb; have HU := Lib.hid hu; have HX := Lib.hid hbox
  have qz : ∀ o, (U.alloc o).cell? ⟨w.heap.size, 1, none⟩ = some (.slice (some ⟨g, off, none⟩) z.times.length cs) := fun o => cell_old U o _ _ _ (by have := HU.out; have := HP.out; have := HSZ.out; omega) (HC.out U hb 1 _ rfl)
  clear hb hu hbox
  go_upto_region 11 with (first
    | (at_builtin; refine plain_append_ints_n (.tmp 60) (.tmp 62) 23 2 Try.underlying23 i64_info rfl rfl (P + 1) B z.times.length _ _ [] z.times rfl rfl (OwnI.empty U 2 (P + 1) (Nat.le_of_eq HU.out.symm)) ((HZ.out U HBU.out).times.below ((Below.refl U.heap.size U).alloc (Nat.le_refl _) _) (Nat.le_trans HBL.out HBU.out.size)) (by show 0 + _ ≤ _; omega) (by have := HU.out; simp; omega) rfl ?_; intro A5 c5 V5 hO hG; have HO5 := Lib.hid hO; have HB5 : Hid (Below (P + 1) U V5) := Lib.hid (((Below.refl U.heap.size U).alloc (Nat.le_refl _) _).mono (Nat.le_of_eq HU.out.symm) |>.trans (growI_below (OwnI.empty U 2 (P + 1) (Nat.le_of_eq HU.out.symm)) hG (Nat.le_refl _) (by have := HU.out; simp; omega))); clear hO hG qz)
    | (at_builtin; refine plain_append_ints_n (.tmp 63) (.tmp 65) 23 2 Try.underlying23 i64_info rfl rfl (P + 1) (V5.heap.size + 1) (z.times.length + 1) _ _ ([] ++ z.times) [(last + 1 + more)] rfl rfl (HO5.out.alloc _) (Sl.new (rows := [[.int .i64 ((last + 1 + more))]]) (Nat.lt_succ_self _) (fun j row hj k u hu => by
        match j, hj with
        | 0, hj =>
          have e : row = [.int .i64 ((last + 1 + more))] := by simpa using hj.symm
          subst e
          match k, hu with
          | 0, hu => exact cell_new V5 _ _ _ 0 u rfl hu)) (by show (List.length z.times) + 1 ≤ _; omega) (by have := HB5.out.size; have := HU.out; simp; omega) (by simp) ?_; intro A6 c6 V6 hO hG; have HO6 := Lib.hid hO; have HB6 : Hid (Below (P + 1) U V6) := Lib.hid (HB5.out.trans ((((Below.refl V5.heap.size V5).alloc (Nat.le_refl _) _).mono (by have := HB5.out.size; have := HU.out; omega)).trans (growI_below (HO5.out.alloc _) hG (Nat.le_refl _) (by have := HB5.out.size; have := HU.out; simp; omega)))); clear hO hG HO5 HB5; have HX6 := Lib.hid (HX.out.below HB6.out (Nat.lt_succ_self P)); have y1 := HX6.out.c1; have f1 := HX6.out.fr 1)
    | fail)
  refine wp_world (R := fun T => Below W0.heap.size W0 T ∧ P + 1 ≤ T.heap.size ∧ ZnBox T P (.slice At z.types.length ct) (.slice A6 (z.times.length + 1) c6) (.slice Ai z.index.length ci) (.string z.footer) ∧ OwnI T (P + 1) 2 (.slice A6 (z.times.length + 1) c6) (z.times ++ [(last + 1 + more)])) ⟨(HBU.out.trans (HB6.out.mono (by have := HP.out; omega))).setCell (by have := HP.out; omega) _, by have := HX6.out.lt; simp; omega, HX6.out.set1 _, HO6.out.set (Nat.lt_succ_self P) _ _⟩ ?_
  clear y1 f1 HX6 HO6 HB6 HX HU HBU
  rintro T ⟨hb, ht, hbox, hown⟩
  have HBT := Lib.hid hb; have HTS := Lib.hid ht; have HX := Lib.hid hbox; have HOT := Lib.hid hown
  have qz : ∀ o, (T.alloc o).cell? ⟨w.heap.size, 2, none⟩ = some (.slice Ai z.index.length ci) := fun o => cell_old T o _ _ _ (by have := HTS.out; have := HP.out; have := HSZ.out; omega) (HC.out T hb 2 _ rfl)
  clear hb ht hbox hown
  go_upto_region 12 with (first
    | (at_builtin; refine plain_append_ints_n (.tmp 68) (.tmp 70) 24 3 Try.underlying24 int_info rfl rfl T.heap.size B z.index.length _ _ [] z.index rfl rfl (OwnI.empty T 3 T.heap.size (Nat.le_refl _)) ((HZ.out T HBT.out).index.below ((Below.refl T.heap.size T).alloc (Nat.le_refl _) _) (Nat.le_trans HBL.out HBT.out.size)) (by have := HIL.out; show 0 + _ ≤ _; omega) (by simp) rfl ?_; intro A7 c7 V7 hO hG; have HO7 := Lib.hid hO; have HB7 : Hid (Below T.heap.size T V7) := Lib.hid (((Below.refl T.heap.size T).alloc (Nat.le_refl _) _).trans (growI_below (OwnI.empty T 3 T.heap.size (Nat.le_refl _)) hG (Nat.le_refl _) (by simp))); clear hO hG qz)
    | (at_builtin; refine plain_append_ints_n (.tmp 71) (.tmp 73) 24 3 Try.underlying24 int_info rfl rfl T.heap.size (V7.heap.size + 1) (z.index.length + 1) _ _ ([] ++ z.index) [idx] rfl rfl (HO7.out.alloc _) (Sl.new (rows := [[.int .i64 idx]]) (Nat.lt_succ_self _) (fun j row hj k u hu => by
        match j, hj with
        | 0, hj =>
          have e : row = [.int .i64 idx] := by simpa using hj.symm
          subst e
          match k, hu with
          | 0, hu => exact cell_new V7 _ _ _ 0 u rfl hu)) (by have := HIL.out; show (List.length z.index) + 1 ≤ _; omega) (by have := HB7.out.size; simp; omega) (by simp) ?_; intro A8 c8 V8 hO hG; have HO8 := Lib.hid hO; have HB8 : Hid (Below T.heap.size T V8) := Lib.hid (HB7.out.trans ((((Below.refl V7.heap.size V7).alloc (Nat.le_refl _) _).mono HB7.out.size).trans (growI_below (HO7.out.alloc _) hG (Nat.le_refl _) (by have := HB7.out.size; simp; omega)))); clear hO hG HO7 HB7; have HX8 := Lib.hid (HX.out.below HB8.out (by have := HTS.out; omega)); have y1 := HX8.out.c2; have f1 := HX8.out.fr 2)
    | fail)
  refine wp_world (R := fun Y => Below W0.heap.size W0 Y ∧ ZnBox Y P (.slice At z.types.length ct) (.slice A6 (z.times.length + 1) c6) (.slice A8 (z.index.length + 1) c8) (.string z.footer) ∧ OwnI Y (P + 1) 2 (.slice A6 (z.times.length + 1) c6) (z.times ++ [(last + 1 + more)]) ∧ OwnI Y T.heap.size 3 (.slice A8 (z.index.length + 1) c8) (z.index ++ [idx])) ⟨(HBT.out.trans (HB8.out.mono HBT.out.size)).setCell (by have := HP.out; omega) _, HX8.out.set2 _, (HOT.out.keep HB8.out).set (Nat.lt_succ_self P) _ _, HO8.out.set (by have := HTS.out; omega) _ _⟩ ?_
  clear y1 f1 HX8 HO8 HB8 HX HTS HBT HOT
  rintro Y ⟨hb, hbox, hown, hown2⟩
  have HBY := Lib.hid hb; have HX := Lib.hid hbox
  have HZY : Hid (∀ V, Below Y.heap.size Y V → ZnAt V Y.heap.size y (.slice At z.types.length ct) (.slice A6 (z.times.length + 1) c6) (.slice A8 (z.index.length + 1) c8)) := Lib.hid fun V hv => by
    have e := HY.out
    subst e
    exact (ZnAt.mk ⟨(HZ.out Y hb).types.form, fun j row hj => by
      obtain ⟨g, off, c, e, hg, hc⟩ := (HZ.out Y hb).types.at_ j row hj
      exact ⟨g, off, c, e, Nat.lt_of_lt_of_le hg (Nat.le_trans HBL.out hb.size), hc⟩⟩ (hown.sl (Nat.le_refl _)) (hown2.sl (Nat.le_refl _)) : ZnAt Y Y.heap.size (moreZ z ((last + 1 + more)) idx) _ _ _).below hv (Nat.le_refl _)
  have HFY : Hid (y.footer = z.footer) := Lib.hid (by rw [← HY.out]; rfl)
  obtain ⟨a, ha⟩ : ∃ a, atZ z sec = a := ⟨_, rfl⟩
  have HYA2 : Hid (atZ y sec = a) := Lib.hid (by rw [HYA.out, ha]; simp; omega)
  have HAZ : Hid (∀ V, Below W0.heap.size W0 V → Calls Try.prog 15 #[.agg #[.slice At z.types.length ct, .slice (some ⟨g, off, none⟩) z.times.length cs, .slice Ai z.index.length ci, .string z.footer], .int .i64 sec] V fun e V' => e = .returned (.int .i64 a) ∧ Below V.heap.size V V') := Lib.hid fun V hv => by
    have := at_any z _ _ _ B sec V (HZ.out V hv) HHO.out (Nat.le_trans HBL.out hv.size)
    rwa [ha] at this
  have HRY : Hid (∀ V, Below Y.heap.size Y V → Calls Try.prog 13 #[.agg #[.slice At z.types.length ct, .slice A6 (z.times.length + 1) c6, .slice A8 (z.index.length + 1) c8, .string z.footer]] V fun e V' => e = .returned (.bool true) ∧ Below V.heap.size V V') := Lib.hid fun V hv => by
    have := right_any y _ _ _ Y.heap.size V (HZY.out V hv) HYO.out hv.size
    rwa [HYR.out, HFY.out] at this
  have HAY : Hid (∀ V, Below Y.heap.size Y V → Calls Try.prog 15 #[.agg #[.slice At z.types.length ct, .slice A6 (z.times.length + 1) c6, .slice A8 (z.index.length + 1) c8, .string z.footer], .int .i64 sec] V fun e V' => e = .returned (.int .i64 (a)) ∧ Below V.heap.size V V') := Lib.hid fun V hv => by
    have := at_any y _ _ _ Y.heap.size sec V (HZY.out V hv) HYO.out hv.size
    rwa [HYA2.out, HFY.out] at this
  have q0 := HC.out _ hb 0 _ rfl; have q1 := HC.out _ hb 1 _ rfl; have q2 := HC.out _ hb 2 _ rfl; have q3 := HC.out _ hb 3 _ rfl
  clear ha hb hbox hown hown2
  go_wp2_with (first
    | (go_at_call 15; refine (HAZ.out _ HBY.out).mono ?_; clear HAZ q0 q1 q2 q3; rintro e Y1 ⟨rfl, hb⟩; have HB1 := Lib.hid hb; clear hb; have k0 := (HX.out.below HB1.out HX.out.lt).c0; have k1 := (HX.out.below HB1.out HX.out.lt).c1; have k2 := (HX.out.below HB1.out HX.out.lt).c2; have k3 := (HX.out.below HB1.out HX.out.lt).c3)
    | (go_at_call 13; refine (HRY.out _ HB1.out).mono ?_; clear HRY k0 k1 k2 k3; rintro e Y2 ⟨rfl, hb⟩; have HB2 := Lib.hid (HB1.out.trans (hb.mono HB1.out.size)); clear hb; have k0 := (HX.out.below HB2.out HX.out.lt).c0; have k1 := (HX.out.below HB2.out HX.out.lt).c1; have k2 := (HX.out.below HB2.out HX.out.lt).c2; have k3 := (HX.out.below HB2.out HX.out.lt).c3)
    | (go_at_call 15; refine (HAY.out _ HB2.out).mono ?_; clear HAY k0 k1 k2 k3; rintro e Y3 ⟨rfl, hb⟩; have HB3 := Lib.hid (HB2.out.trans (hb.mono HB2.out.size)); clear hb)
    | (go_at_call 9; refine (works_any _).mono ?_; rintro e Y4 ⟨rfl, hb⟩; have HB4 := Lib.hid (HB3.out.trans (hb.mono HB3.out.size)); clear hb)
    | fail)
  go_ret
  exact ⟨rfl, HB0.out.trans ((HBY.out.trans (HB4.out.mono HBY.out.size)).mono HB0.out.size)⟩
end Go.Proofs.Ytohpdpcjhmopbaa.Tz
