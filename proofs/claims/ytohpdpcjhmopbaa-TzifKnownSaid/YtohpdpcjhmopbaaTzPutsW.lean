/-
  Layer 6 (tzif): the law TzifPuts (written by gen_puts6.py).
-/
import Derived.Test.YtohpdpcjhmopbaaTzSame2
import Derived.Test.YtohpdpcjhmopbaaTzRow
import Derived.Test.YtohpdpcjhmopbaaTzGuard
import Derived.Deep.RegionHeld3
import Derived.Deep.DeepCutAuto
import Derived.Lib.QuietBelow
import Derived.Laws.BytesArg
namespace Go.Proofs.Ytohpdpcjhmopbaa.Tz
open Go.RowKit

theorem Sl.up {w : World} {B C sz : Nat} {v : Value} {xs : List (List Value)} (h : Sl w B sz v xs) (hB : B ≤ C) : Sl w C sz v xs :=
  ⟨h.form, fun j row hj => by
    obtain ⟨g, off, c, hv, hg, hc⟩ := h.at_ j row hj
    exact ⟨g, off, c, hv, Nat.lt_of_lt_of_le hg hB, hc⟩⟩
theorem ZnAt.up {w : World} {B C : Nat} {z : Zn} {vt vs vi : Value} (h : ZnAt w B z vt vs vi) (hB : B ≤ C) : ZnAt w C z vt vs vi := ⟨h.types.up hB, h.times.up hB, h.index.up hB⟩
theorem eqL_refl {α : Type} {e : α → α → Bool} (he : ∀ x, e x x = true) : ∀ l : List α, eqL e l l = true
  | [] => rfl
  | a :: l => by unfold eqL; rw [he a, eqL_refl he l]; rfl
theorem same_refl (z : Zn) : sameZ z z = true := by
  unfold sameZ
  rw [eqL_refl (fun x => by unfold eqT; simp), eqL_refl (fun x => by unfold eqI; simp), eqL_refl (fun x => by unfold eqI; simp)]
  simp
theorem conv_bytes {u : World} {g n c : Nat} {xs : List Int} (hl : xs.length = n) (hc : ∀ j x, xs[j]? = some x → u.cell? ((⟨g, 0, none⟩ : Addr).add j) = some (by8 x)) : (convert 33 9 (.slice (some ⟨g, 0, none⟩) n c)).run Try.prog u = .ok (.string (strOfNums xs)) u :=
  run_convert_bytes_arg u 33 5 Try.underlying33 Try.underlying5 g 0 n c xs hl (fun i hi => by
    have h1 := hc i (xs[i]'(by omega)) (List.getElem?_eq_getElem (by omega))
    rw [Own_add] at h1
    rw [Nat.zero_add, h1, List.getD_eq_getElem?_getD, List.getElem?_eq_getElem (by omega)]; rfl) 9 Try.underlying9
theorem putB_pos (z : Zn) : 0 < (putB z).length := by unfold putB; simp; omega
set_option maxRecDepth 100000 in
set_option maxHeartbeats 4000000 in
theorem puts_a (z o : Zn) (vt vs vi ut us ui : Value) (sec : Int) (w : World) (hz : ZnAt w w.heap.size z vt vs vi) (ho : ZnAt w w.heap.size o ut us ui) (hf : fewZ z 500 = false) :
    Calls Try.prog 3 #[.agg #[vt, vs, vi, .string z.footer], .agg #[ut, us, ui, .string o.footer], .int .i64 sec] w fun e w' => e = .returned (.bool true) ∧ Below w.heap.size w w' := by
  obtain ⟨At, ct, rfl⟩ := hz.types.len
  obtain ⟨As, cs, rfl⟩ := hz.times.len
  obtain ⟨Ai, ci, rfl⟩ := hz.index.len
  obtain ⟨Bt, dt, rfl⟩ := ho.types.len
  obtain ⟨Bs, ds, rfl⟩ := ho.times.len
  obtain ⟨Bi, di, rfl⟩ := ho.index.len
  obtain ⟨P, hP⟩ : ∃ P, w.heap.size = P := ⟨_, rfl⟩
  obtain ⟨W0, hW0⟩ : ∃ W0, (w.alloc (.cells #[.slice At z.types.length ct, .slice As z.times.length cs, .slice Ai z.index.length ci, .string z.footer] 26)).alloc (.cells #[.slice Bt o.types.length dt, .slice Bs o.times.length ds, .slice Bi o.index.length di, .string o.footer] 26) = W0 := ⟨_, rfl⟩
  have HB0 : Hid (Below P w W0) := Lib.hid (by rw [← hW0, ← hP]; exact ((Below.refl _ _).alloc (Nat.le_refl _) _).alloc (by simp) _)
  have HP0 : Hid (P ≤ W0.heap.size) := Lib.hid (by rw [← hP]; exact HB0.out.size)
  have HXZ : Hid (ZnBox W0 P (.slice At z.types.length ct) (.slice As z.times.length cs) (.slice Ai z.index.length ci) (.string z.footer)) := Lib.hid (by
    rw [← hW0]
    exact (ZnBox.new w P hP _ _ _ _ _).below ((Below.refl (P + 1) _).alloc (by simp [hP]) _) (Nat.lt_succ_self _))
  have HXO : Hid (ZnBox W0 (P + 1) (.slice Bt o.types.length dt) (.slice Bs o.times.length ds) (.slice Bi o.index.length di) (.string o.footer)) := Lib.hid (by
    rw [← hW0]
    exact ZnBox.new _ (P + 1) (by simp [hP]) _ _ _ _ _)
  have HZ : Hid (∀ V, Below W0.heap.size W0 V → ZnAt V P z (.slice At z.types.length ct) (.slice As z.times.length cs) (.slice Ai z.index.length ci)) := Lib.hid fun V hb => by
    have h1 := (hz.below (C := P) HB0.out (by omega)).below hb (by rw [hP]; exact HP0.out)
    rwa [hP] at h1
  have HO : Hid (∀ V, Below W0.heap.size W0 V → ZnAt V P o (.slice Bt o.types.length dt) (.slice Bs o.times.length ds) (.slice Bi o.index.length di)) := Lib.hid fun V hb => by
    have h1 := (ho.below (C := P) HB0.out (by omega)).below hb (by rw [hP]; exact HP0.out)
    rwa [hP] at h1
  have HB : Hid (Below W0.heap.size W0 W0) := Lib.hid (Below.refl _ _)
  obtain ⟨f1, hf1⟩ : ∃ f, fewZ z 500 = f := ⟨_, rfl⟩
  obtain ⟨f2, hf2⟩ : ∃ f, fewZ o 500 = f := ⟨_, rfl⟩
  have HF1 : Hid (∀ V, Below W0.heap.size W0 V → Calls Try.prog 8 #[.agg #[.slice At z.types.length ct, .slice As z.times.length cs, .slice Ai z.index.length ci, .string z.footer], .int .i64 500] V fun e V' => e = .returned (.bool f1) ∧ Below V.heap.size V V') := Lib.hid fun V hb => by
    have := few_any z _ _ _ P 500 V (HZ.out V hb)
    rwa [hf1] at this
  have HF2 : Hid (∀ V, Below W0.heap.size W0 V → Calls Try.prog 8 #[.agg #[.slice Bt o.types.length dt, .slice Bs o.times.length ds, .slice Bi o.index.length di, .string o.footer], .int .i64 500] V fun e V' => e = .returned (.bool f2) ∧ Below V.heap.size V V') := Lib.hid fun V hb => by
    have := few_any o _ _ _ P 500 V (HO.out V hb)
    rwa [hf2] at this
  rw [hP]
  have p0 := HXZ.out.c0; have p1 := HXZ.out.c1; have p2 := HXZ.out.c2; have p3 := HXZ.out.c3
  have q0 := HXO.out.c0; have q1 := HXO.out.c1; have q2 := HXO.out.c2; have q3 := HXO.out.c3
  obtain rfl : f1 = false := hf1.symm.trans hf
  clear hf hf1 hf2 hz ho
  go_enter Try.func3, Try.ntmps3
  go_wp2_with (first
    | (go_at_call 8; refine (HF1.out _ HB.out).mono ?_; clear HF1 p0 p1 p2 p3 q0 q1 q2 q3; rintro e V1 ⟨rfl, hb⟩; have HB1 := Lib.hid hb; clear hb; have p0 := (HXZ.out.below HB1.out HXZ.out.lt).c0; have p1 := (HXZ.out.below HB1.out HXZ.out.lt).c1; have p2 := (HXZ.out.below HB1.out HXZ.out.lt).c2; have p3 := (HXZ.out.below HB1.out HXZ.out.lt).c3; have q0 := (HXO.out.below HB1.out HXO.out.lt).c0; have q1 := (HXO.out.below HB1.out HXO.out.lt).c1; have q2 := (HXO.out.below HB1.out HXO.out.lt).c2; have q3 := (HXO.out.below HB1.out HXO.out.lt).c3)
    | (go_at_call 9; refine (works_any _).mono ?_; rintro e V9 ⟨rfl, hb⟩; have HB9 := Lib.hid (HB1.out.trans (hb.mono HB1.out.size)); clear hb)
    | fail)
  go_ret
  exact ⟨rfl, HB0.out.trans (HB9.out.mono HP0.out)⟩
set_option maxRecDepth 100000 in
set_option maxHeartbeats 4000000 in
theorem puts_b (z o : Zn) (vt vs vi ut us ui : Value) (sec : Int) (w : World) (hz : ZnAt w w.heap.size z vt vs vi) (ho : ZnAt w w.heap.size o ut us ui) (hf : fewZ z 500 = true) (hg : fewZ o 500 = false) :
    Calls Try.prog 3 #[.agg #[vt, vs, vi, .string z.footer], .agg #[ut, us, ui, .string o.footer], .int .i64 sec] w fun e w' => e = .returned (.bool true) ∧ Below w.heap.size w w' := by
  obtain ⟨At, ct, rfl⟩ := hz.types.len
  obtain ⟨As, cs, rfl⟩ := hz.times.len
  obtain ⟨Ai, ci, rfl⟩ := hz.index.len
  obtain ⟨Bt, dt, rfl⟩ := ho.types.len
  obtain ⟨Bs, ds, rfl⟩ := ho.times.len
  obtain ⟨Bi, di, rfl⟩ := ho.index.len
  obtain ⟨P, hP⟩ : ∃ P, w.heap.size = P := ⟨_, rfl⟩
  obtain ⟨W0, hW0⟩ : ∃ W0, (w.alloc (.cells #[.slice At z.types.length ct, .slice As z.times.length cs, .slice Ai z.index.length ci, .string z.footer] 26)).alloc (.cells #[.slice Bt o.types.length dt, .slice Bs o.times.length ds, .slice Bi o.index.length di, .string o.footer] 26) = W0 := ⟨_, rfl⟩
  have HB0 : Hid (Below P w W0) := Lib.hid (by rw [← hW0, ← hP]; exact ((Below.refl _ _).alloc (Nat.le_refl _) _).alloc (by simp) _)
  have HP0 : Hid (P ≤ W0.heap.size) := Lib.hid (by rw [← hP]; exact HB0.out.size)
  have HXZ : Hid (ZnBox W0 P (.slice At z.types.length ct) (.slice As z.times.length cs) (.slice Ai z.index.length ci) (.string z.footer)) := Lib.hid (by
    rw [← hW0]
    exact (ZnBox.new w P hP _ _ _ _ _).below ((Below.refl (P + 1) _).alloc (by simp [hP]) _) (Nat.lt_succ_self _))
  have HXO : Hid (ZnBox W0 (P + 1) (.slice Bt o.types.length dt) (.slice Bs o.times.length ds) (.slice Bi o.index.length di) (.string o.footer)) := Lib.hid (by
    rw [← hW0]
    exact ZnBox.new _ (P + 1) (by simp [hP]) _ _ _ _ _)
  have HZ : Hid (∀ V, Below W0.heap.size W0 V → ZnAt V P z (.slice At z.types.length ct) (.slice As z.times.length cs) (.slice Ai z.index.length ci)) := Lib.hid fun V hb => by
    have h1 := (hz.below (C := P) HB0.out (by omega)).below hb (by rw [hP]; exact HP0.out)
    rwa [hP] at h1
  have HO : Hid (∀ V, Below W0.heap.size W0 V → ZnAt V P o (.slice Bt o.types.length dt) (.slice Bs o.times.length ds) (.slice Bi o.index.length di)) := Lib.hid fun V hb => by
    have h1 := (ho.below (C := P) HB0.out (by omega)).below hb (by rw [hP]; exact HP0.out)
    rwa [hP] at h1
  have HB : Hid (Below W0.heap.size W0 W0) := Lib.hid (Below.refl _ _)
  obtain ⟨f1, hf1⟩ : ∃ f, fewZ z 500 = f := ⟨_, rfl⟩
  obtain ⟨f2, hf2⟩ : ∃ f, fewZ o 500 = f := ⟨_, rfl⟩
  have HF1 : Hid (∀ V, Below W0.heap.size W0 V → Calls Try.prog 8 #[.agg #[.slice At z.types.length ct, .slice As z.times.length cs, .slice Ai z.index.length ci, .string z.footer], .int .i64 500] V fun e V' => e = .returned (.bool f1) ∧ Below V.heap.size V V') := Lib.hid fun V hb => by
    have := few_any z _ _ _ P 500 V (HZ.out V hb)
    rwa [hf1] at this
  have HF2 : Hid (∀ V, Below W0.heap.size W0 V → Calls Try.prog 8 #[.agg #[.slice Bt o.types.length dt, .slice Bs o.times.length ds, .slice Bi o.index.length di, .string o.footer], .int .i64 500] V fun e V' => e = .returned (.bool f2) ∧ Below V.heap.size V V') := Lib.hid fun V hb => by
    have := few_any o _ _ _ P 500 V (HO.out V hb)
    rwa [hf2] at this
  rw [hP]
  have p0 := HXZ.out.c0; have p1 := HXZ.out.c1; have p2 := HXZ.out.c2; have p3 := HXZ.out.c3
  have q0 := HXO.out.c0; have q1 := HXO.out.c1; have q2 := HXO.out.c2; have q3 := HXO.out.c3
  obtain rfl : f1 = true := hf1.symm.trans hf
  obtain rfl : f2 = false := hf2.symm.trans hg
  clear hf hg hf1 hf2 hz ho
  go_enter Try.func3, Try.ntmps3
  go_wp2_with (first
    | (go_at_call 8; refine (HF1.out _ HB.out).mono ?_; clear HF1 p0 p1 p2 p3 q0 q1 q2 q3; rintro e V1 ⟨rfl, hb⟩; have HB1 := Lib.hid hb; clear hb; have p0 := (HXZ.out.below HB1.out HXZ.out.lt).c0; have p1 := (HXZ.out.below HB1.out HXZ.out.lt).c1; have p2 := (HXZ.out.below HB1.out HXZ.out.lt).c2; have p3 := (HXZ.out.below HB1.out HXZ.out.lt).c3; have q0 := (HXO.out.below HB1.out HXO.out.lt).c0; have q1 := (HXO.out.below HB1.out HXO.out.lt).c1; have q2 := (HXO.out.below HB1.out HXO.out.lt).c2; have q3 := (HXO.out.below HB1.out HXO.out.lt).c3)
    | (go_at_call 8; refine (HF2.out _ HB1.out).mono ?_; clear HF2 p0 p1 p2 p3 q0 q1 q2 q3; rintro e V2 ⟨rfl, hb⟩; have HB2 := Lib.hid (HB1.out.trans (hb.mono HB1.out.size)); clear hb; have p0 := (HXZ.out.below HB2.out HXZ.out.lt).c0; have p1 := (HXZ.out.below HB2.out HXZ.out.lt).c1; have p2 := (HXZ.out.below HB2.out HXZ.out.lt).c2; have p3 := (HXZ.out.below HB2.out HXZ.out.lt).c3)
    | (go_at_call 9; refine (works_any _).mono ?_; rintro e V9 ⟨rfl, hb⟩; have HB9 := Lib.hid (HB2.out.trans (hb.mono HB2.out.size)); clear hb)
    | fail)
  go_ret
  exact ⟨rfl, HB0.out.trans (HB9.out.mono HP0.out)⟩
set_option maxRecDepth 100000 in
set_option maxHeartbeats 4000000 in
theorem puts_yes (z o : Zn) (vt vs vi ut us ui : Value) (sec : Int) (w : World) (hz : ZnAt w w.heap.size z vt vs vi) (ho : ZnAt w w.heap.size o ut us ui) (hf : fewZ z 500 = true) (hg : fewZ o 500 = true) (kz : ZnOk z) (ko : ZnOk o) (hr : rightZ z = true) :
    Calls Try.prog 3 #[.agg #[vt, vs, vi, .string z.footer], .agg #[ut, us, ui, .string o.footer], .int .i64 sec] w fun e w' => e = .returned (.bool true) ∧ Below w.heap.size w w' := by
  obtain ⟨At, ct, rfl⟩ := hz.types.len
  obtain ⟨As, cs, rfl⟩ := hz.times.len
  obtain ⟨Ai, ci, rfl⟩ := hz.index.len
  obtain ⟨Bt, dt, rfl⟩ := ho.types.len
  obtain ⟨Bs, ds, rfl⟩ := ho.times.len
  obtain ⟨Bi, di, rfl⟩ := ho.index.len
  obtain ⟨P, hP⟩ : ∃ P, w.heap.size = P := ⟨_, rfl⟩
  obtain ⟨W0, hW0⟩ : ∃ W0, (w.alloc (.cells #[.slice At z.types.length ct, .slice As z.times.length cs, .slice Ai z.index.length ci, .string z.footer] 26)).alloc (.cells #[.slice Bt o.types.length dt, .slice Bs o.times.length ds, .slice Bi o.index.length di, .string o.footer] 26) = W0 := ⟨_, rfl⟩
  have HB0 : Hid (Below P w W0) := Lib.hid (by rw [← hW0, ← hP]; exact ((Below.refl _ _).alloc (Nat.le_refl _) _).alloc (by simp) _)
  have HP0 : Hid (P ≤ W0.heap.size) := Lib.hid (by rw [← hP]; exact HB0.out.size)
  have HXZ : Hid (ZnBox W0 P (.slice At z.types.length ct) (.slice As z.times.length cs) (.slice Ai z.index.length ci) (.string z.footer)) := Lib.hid (by
    rw [← hW0]
    exact (ZnBox.new w P hP _ _ _ _ _).below ((Below.refl (P + 1) _).alloc (by simp [hP]) _) (Nat.lt_succ_self _))
  have HXO : Hid (ZnBox W0 (P + 1) (.slice Bt o.types.length dt) (.slice Bs o.times.length ds) (.slice Bi o.index.length di) (.string o.footer)) := Lib.hid (by
    rw [← hW0]
    exact ZnBox.new _ (P + 1) (by simp [hP]) _ _ _ _ _)
  have HZ : Hid (∀ V, Below W0.heap.size W0 V → ZnAt V P z (.slice At z.types.length ct) (.slice As z.times.length cs) (.slice Ai z.index.length ci)) := Lib.hid fun V hb => by
    have h1 := (hz.below (C := P) HB0.out (by omega)).below hb (by rw [hP]; exact HP0.out)
    rwa [hP] at h1
  have HO : Hid (∀ V, Below W0.heap.size W0 V → ZnAt V P o (.slice Bt o.types.length dt) (.slice Bs o.times.length ds) (.slice Bi o.index.length di)) := Lib.hid fun V hb => by
    have h1 := (ho.below (C := P) HB0.out (by omega)).below hb (by rw [hP]; exact HP0.out)
    rwa [hP] at h1
  have HB : Hid (Below W0.heap.size W0 W0) := Lib.hid (Below.refl _ _)
  obtain ⟨f1, hf1⟩ : ∃ f, fewZ z 500 = f := ⟨_, rfl⟩
  obtain ⟨f2, hf2⟩ : ∃ f, fewZ o 500 = f := ⟨_, rfl⟩
  have HF1 : Hid (∀ V, Below W0.heap.size W0 V → Calls Try.prog 8 #[.agg #[.slice At z.types.length ct, .slice As z.times.length cs, .slice Ai z.index.length ci, .string z.footer], .int .i64 500] V fun e V' => e = .returned (.bool f1) ∧ Below V.heap.size V V') := Lib.hid fun V hb => by
    have := few_any z _ _ _ P 500 V (HZ.out V hb)
    rwa [hf1] at this
  have HF2 : Hid (∀ V, Below W0.heap.size W0 V → Calls Try.prog 8 #[.agg #[.slice Bt o.types.length dt, .slice Bs o.times.length ds, .slice Bi o.index.length di, .string o.footer], .int .i64 500] V fun e V' => e = .returned (.bool f2) ∧ Below V.heap.size V V') := Lib.hid fun V hb => by
    have := few_any o _ _ _ P 500 V (HO.out V hb)
    rwa [hf2] at this
  rw [hP]
  have p0 := HXZ.out.c0; have p1 := HXZ.out.c1; have p2 := HXZ.out.c2; have p3 := HXZ.out.c3
  have q0 := HXO.out.c0; have q1 := HXO.out.c1; have q2 := HXO.out.c2; have q3 := HXO.out.c3
  obtain rfl : f1 = true := hf1.symm.trans hf
  obtain rfl : f2 = true := hf2.symm.trans hg
  have KZ := Lib.hid kz; have KO := Lib.hid ko; have HR := Lib.hid hr
  have HPL : Hid (∀ V, Below W0.heap.size W0 V → Calls Try.prog 10 #[.agg #[.slice At z.types.length ct, .slice As z.times.length cs, .slice Ai z.index.length ci, .string z.footer]] V fun e w' => ∃ A c, e = .returned (.agg #[.slice A z.types.length c, .slice As z.times.length cs, .slice Ai z.index.length ci, .string z.footer]) ∧ ZnAt w' w'.heap.size z (.slice A z.types.length c) (.slice As z.times.length cs) (.slice Ai z.index.length ci) ∧ Below V.heap.size V w') := Lib.hid fun V hb =>
    plain_any z _ _ _ P V (HZ.out V hb) (by have := hf; unfold fewZ at this; simp at this; omega) (Nat.le_trans HP0.out hb.size)
  have HPO : Hid (∀ V, Below W0.heap.size W0 V → Calls Try.prog 10 #[.agg #[.slice Bt o.types.length dt, .slice Bs o.times.length ds, .slice Bi o.index.length di, .string o.footer]] V fun e w' => ∃ A c, e = .returned (.agg #[.slice A o.types.length c, .slice Bs o.times.length ds, .slice Bi o.index.length di, .string o.footer]) ∧ ZnAt w' w'.heap.size o (.slice A o.types.length c) (.slice Bs o.times.length ds) (.slice Bi o.index.length di) ∧ Below V.heap.size V w') := Lib.hid fun V hb =>
    plain_any o _ _ _ P V (HO.out V hb) (by have := hg; unfold fewZ at this; simp at this; omega) (Nat.le_trans HP0.out hb.size)
  have HRZ : Hid (∀ V, Below W0.heap.size W0 V → Calls Try.prog 13 #[.agg #[.slice At z.types.length ct, .slice As z.times.length cs, .slice Ai z.index.length ci, .string z.footer]] V fun e V' => e = .returned (.bool true) ∧ Below V.heap.size V V') := Lib.hid fun V hb => by
    have := right_any z _ _ _ P V (HZ.out V hb) kz (Nat.le_trans HP0.out hb.size)
    rwa [hr] at this
  obtain ⟨n, hn⟩ : ∃ n, (putB z).length = n := ⟨_, rfl⟩
  obtain ⟨T, hT⟩ : ∃ T, strOfNums (putB z) = T := ⟨_, rfl⟩
  have HPU : Hid (∀ V, Below W0.heap.size W0 V → Calls Try.prog 11 #[.agg #[.slice At z.types.length ct, .slice As z.times.length cs, .slice Ai z.index.length ci, .string z.footer]] V fun e w' => ∃ g c, e = .returned (.tuple #[.slice (some ⟨g, 0, none⟩) n c, .int .i64 0]) ∧ g < w'.heap.size ∧ (∀ U, Below w'.heap.size w' U → (convert 33 9 (.slice (some ⟨g, 0, none⟩) n c)).run Try.prog U = .ok (.string T) U) ∧ Below V.heap.size V w') := Lib.hid fun V hb => by
    refine (put_yes z _ _ _ P V (HZ.out V hb) kz (Nat.le_trans HP0.out hb.size) hr).mono ?_
    rintro e w' ⟨v, he, h1, h2⟩
    obtain ⟨g, c, e1, _, hg, hc⟩ := h1.open_ (putB_pos z)
    subst e1
    rw [hn] at he
    exact ⟨g, c, he, hg, fun U hU => by rw [← hT]; exact conv_bytes (by omega) (fun j x hx => by have h3 := hc j x hx; rw [Own_add] at h3 ⊢; exact cells_at g hU hg h3), h2⟩
  clear hf hg hf1 hf2 hz ho kz ko hr
  go_enter Try.func3, Try.ntmps3
  go_wp2_with (first
    | (go_at_call 8; refine (HF1.out _ HB.out).mono ?_; clear HF1 p0 p1 p2 p3 q0 q1 q2 q3; rintro e V1 ⟨rfl, hb⟩; have HB1 := Lib.hid hb; clear hb; have p0 := (HXZ.out.below HB1.out HXZ.out.lt).c0; have p1 := (HXZ.out.below HB1.out HXZ.out.lt).c1; have p2 := (HXZ.out.below HB1.out HXZ.out.lt).c2; have p3 := (HXZ.out.below HB1.out HXZ.out.lt).c3; have q0 := (HXO.out.below HB1.out HXO.out.lt).c0; have q1 := (HXO.out.below HB1.out HXO.out.lt).c1; have q2 := (HXO.out.below HB1.out HXO.out.lt).c2; have q3 := (HXO.out.below HB1.out HXO.out.lt).c3)
    | (go_at_call 8; refine (HF2.out _ HB1.out).mono ?_; clear HF2 p0 p1 p2 p3 q0 q1 q2 q3; rintro e V2 ⟨rfl, hb⟩; have HB2 := Lib.hid (HB1.out.trans (hb.mono HB1.out.size)); clear hb; have p0 := (HXZ.out.below HB2.out HXZ.out.lt).c0; have p1 := (HXZ.out.below HB2.out HXZ.out.lt).c1; have p2 := (HXZ.out.below HB2.out HXZ.out.lt).c2; have p3 := (HXZ.out.below HB2.out HXZ.out.lt).c3)
    | (go_at_call 10; refine (HPL.out _ HB2.out).mono ?_; clear HPL p0 p1 p2 p3; rintro e V3 ⟨Mt, mt, rfl, hzm, hb⟩; have HB3 := Lib.hid (HB2.out.trans (hb.mono HB2.out.size)); have HZM := Lib.hid hzm; have HM3 := Lib.hid (HB3.out.alloc HB3.out.size (.cells #[.slice Mt z.types.length mt, .slice As z.times.length cs, .slice Ai z.index.length ci, .string z.footer] 31)); clear hb hzm; have p0 := (HXZ.out.below HM3.out HXZ.out.lt).c0; have p1 := (HXZ.out.below HM3.out HXZ.out.lt).c1; have p2 := (HXZ.out.below HM3.out HXZ.out.lt).c2; have p3 := (HXZ.out.below HM3.out HXZ.out.lt).c3)
    | fail)
  obtain ⟨M, hM⟩ : ∃ M, V3.heap.size = M := ⟨_, rfl⟩
  obtain ⟨X, hX⟩ : ∃ X, V3.alloc (.cells #[.slice Mt z.types.length mt, .slice As z.times.length cs, .slice Ai z.index.length ci, .string z.footer] 31) = X := ⟨_, rfl⟩
  rw [hX, hM]
  have HXM : Hid (ZnBox X M (.slice Mt z.types.length mt) (.slice As z.times.length cs) (.slice Ai z.index.length ci) (.string z.footer)) := Lib.hid (by rw [← hX]; exact ZnBox.new V3 M hM _ _ _ _ _)
  have HBX : Hid (Below W0.heap.size W0 X) := Lib.hid (by rw [← hX]; exact HM3.out)
  have HZX : Hid (ZnAt X X.heap.size z (.slice Mt z.types.length mt) (.slice As z.times.length cs) (.slice Ai z.index.length ci)) := Lib.hid (by
    rw [← hX]
    exact (HZM.out.below ((Below.refl V3.heap.size V3).alloc (Nat.le_refl _) _) (Nat.le_refl _)).up (by simp))
  have HRM : Hid (∀ V, Below X.heap.size X V → Calls Try.prog 12 #[.agg #[.slice Mt z.types.length mt, .slice As z.times.length cs, .slice Ai z.index.length ci, .string z.footer]] V fun e w' => e = .returned (.bool true) ∧ Below V.heap.size V w') := Lib.hid fun V hb => by
    have := rright_any z _ _ _ X.heap.size V (HZX.out.below hb (Nat.le_refl _)) KZ.out hb.size
    rwa [HR.out] at this
  clear hX hM HZM HM3 p0 p1 p2 p3
  refine (HPU.out _ HBX.out).mono ?_
  clear HPU
  rintro e V4 ⟨gb, cb, rfl, hgb, hcv, hb⟩
  have HX4 := Lib.hid hb
  have HCV := Lib.hid hcv; clear hb hgb hcv
  have m0 := (HXM.out.below HX4.out HXM.out.lt).c0; have m1 := (HXM.out.below HX4.out HXM.out.lt).c1; have m2 := (HXM.out.below HX4.out HXM.out.lt).c2; have m3 := (HXM.out.below HX4.out HXM.out.lt).c3
  go_upto_region 6 with (first
    | (go_at_call 12; refine (HRM.out _ HX4.out).mono ?_; rintro e V5 ⟨rfl, hb⟩; have HX5 := Lib.hid (HX4.out.trans (hb.mono HX4.out.size)); have H45 := Lib.hid hb; clear hb)
    | fail)
  clear m0 m1 m2 m3
  have HW5 : Hid (Below W0.heap.size W0 V5) := Lib.hid (HBX.out.trans (HX5.out.mono HBX.out.size))
  have HZ5 : Hid (∀ u, Below V5.heap.size V5 u → Below W0.heap.size W0 u) := Lib.hid fun u hu => HW5.out.trans (hu.mono HW5.out.size)
  have HM5 : Hid (∀ u, Below V5.heap.size V5 u → Below X.heap.size X u) := Lib.hid fun u hu => HX5.out.trans (hu.mono HX5.out.size)
  have HR6 : Hid (∀ u, Below V5.heap.size V5 u → Calls Try.prog 13 #[.agg #[.slice At z.types.length ct, .slice As z.times.length cs, .slice Ai z.index.length ci, .string z.footer]] u fun e w' => e = .returned (.bool true) ∧ Below V5.heap.size V5 w') := Lib.hid fun u hu => (HRZ.out u (HZ5.out u hu)).mono fun e w' ⟨h1, h2⟩ => ⟨h1, hu.trans (h2.mono hu.size)⟩
  have HP6 : Hid (∀ u, Below V5.heap.size V5 u → Calls Try.prog 14 #[.agg #[.slice Mt z.types.length mt, .slice As z.times.length cs, .slice Ai z.index.length ci, .string z.footer]] u fun e w' => ∃ g c, e = .returned (.slice (some ⟨g, 0, none⟩) n c) ∧ (convert 33 9 (.slice (some ⟨g, 0, none⟩) n c)).run Try.prog w' = .ok (.string T) w' ∧ Below V5.heap.size V5 w') := Lib.hid fun u hu => by
    refine (rput_any z _ _ _ X.heap.size u (HZX.out.below (HM5.out u hu) (Nat.le_refl _)) (HM5.out u hu).size HR.out).mono ?_
    rintro e w' ⟨v, he, h1, h2⟩
    obtain ⟨g, c, e1, _, hg, hc⟩ := h1.open_ (putB_pos z)
    subst e1
    rw [hn] at he
    exact ⟨g, c, he, by rw [← hT]; exact conv_bytes (by omega) hc, hu.trans (h2.mono hu.size)⟩
  have HSK : Hid (∀ u, Below V5.heap.size V5 u → (u.cell? ⟨P, 0, none⟩ = some (.slice At z.types.length ct) ∧ u.cell? ⟨P, 1, none⟩ = some (.slice As z.times.length cs) ∧ u.cell? ⟨P, 2, none⟩ = some (.slice Ai z.index.length ci) ∧ u.cell? ⟨P, 3, none⟩ = some (.string z.footer) ∧ u.cell? ⟨M, 0, none⟩ = some (.slice Mt z.types.length mt) ∧ u.cell? ⟨M, 1, none⟩ = some (.slice As z.times.length cs) ∧ u.cell? ⟨M, 2, none⟩ = some (.slice Ai z.index.length ci) ∧ u.cell? ⟨M, 3, none⟩ = some (.string z.footer) ∧ (convert 33 9 (.slice (some ⟨gb, 0, none⟩) n cb)).run Try.prog u = .ok (.string T) u) ∧ Below V5.heap.size V5 u) := Lib.hid fun u hu => by
    have hz := HXZ.out.below (HZ5.out u hu) HXZ.out.lt
    have hm := HXM.out.below (HM5.out u hu) HXM.out.lt
    exact ⟨⟨hz.c0, hz.c1, hz.c2, hz.c3, hm.c0, hm.c1, hm.c2, hm.c3, HCV.out u (H45.out.trans (hu.mono H45.out.size))⟩, hu⟩
  clear hn hT
  go_cut [60] (fun u wx => u = .bool false ∧ Below V5.heap.size V5 wx)
  case first =>
    refine wp_region_guard (fun u => u.cell? ⟨P, 0, none⟩ = some (.slice At z.types.length ct) ∧ u.cell? ⟨P, 1, none⟩ = some (.slice As z.times.length cs) ∧ u.cell? ⟨P, 2, none⟩ = some (.slice Ai z.index.length ci) ∧ u.cell? ⟨P, 3, none⟩ = some (.string z.footer) ∧ u.cell? ⟨M, 0, none⟩ = some (.slice Mt z.types.length mt) ∧ u.cell? ⟨M, 1, none⟩ = some (.slice As z.times.length cs) ∧ u.cell? ⟨M, 2, none⟩ = some (.slice Ai z.index.length ci) ∧ u.cell? ⟨M, 3, none⟩ = some (.string z.footer) ∧ (convert 33 9 (.slice (some ⟨gb, 0, none⟩) n cb)).run Try.prog u = .ok (.string T) u) [(0, true), (2, true), (1, false), (3, true), (4, true), (5, true), (6, true), (7, true), (8, true), (9, true), (10, true), (11, true), (12, true), (13, false), (14, false), (15, true), (16, true), (17, true), (18, true), (19, true), (20, true), (21, true), (22, true), (23, true), (24, true), (25, true), (26, true), (27, true), (28, true), (29, true), (30, true)] _ (by kernel_rfl) rfl (by kernel_rfl) (by kernel_rfl) (HSK.out _ (Below.refl _ _).drew).1 ?_
    simp only [permL, List.dropLast, List.getElem?_cons_zero, List.getElem?_cons_succ, List.getLast]
    repeat (first
      | (apply wpMixG_free
         · rfl
         · intro z' hz
           try dsimp only at hz
           go_simp
           all_goals with_reducible rfl
         simp only [Act.put, List.setIfInBounds_toArray, List.set_cons_zero, List.set_cons_succ])
      | (refine wpMixG_skip (by rfl) ?_
         simp only [Act.put, List.setIfInBounds_toArray, List.set_cons_zero, List.set_cons_succ]))
    refine wpMixG_turn (by rfl) (fun K hK => ?_)
    have HKK := Lib.hid hK; clear hK
    go_simp
    refine (HR6.out _ (Below.refl _ _).drew).mono ?_
    rintro e u1 ⟨rfl, hk⟩
    have HU1 := Lib.hid hk; clear hk
    refine HKK.out _ _ (HSK.out _ HU1.out).1 ?_
    clear HKK
    try simp only [Act.put, List.setIfInBounds_toArray, List.set_cons_zero, List.set_cons_succ]
    repeat (first
      | (apply wpMixG_free
         · rfl
         · intro z' hz
           try dsimp only at hz
           go_simp
           all_goals with_reducible rfl
         simp only [Act.put, List.setIfInBounds_toArray, List.set_cons_zero, List.set_cons_succ])
      | (refine wpMixG_skip (by rfl) ?_
         simp only [Act.put, List.setIfInBounds_toArray, List.set_cons_zero, List.set_cons_succ]))
    refine wpMixG_turn (by rfl) (fun K hK => ?_)
    have HKK := Lib.hid hK; clear hK
    go_simp
    refine (HP6.out _ HU1.out).mono ?_
    rintro e u2 ⟨g6, c6, rfl, hc6, hk⟩
    have HU2 := Lib.hid hk; clear hk
    refine HKK.out _ _ (HSK.out _ HU2.out).1 ?_
    clear HKK
    try simp only [Act.put, List.setIfInBounds_toArray, List.set_cons_zero, List.set_cons_succ]
    refine wpMixG_turn (by rfl) (fun K hK => ?_)
    have HKK := Lib.hid hK; clear hK
    go_simp
    refine HKK.out _ _ (HSK.out _ HU2.out).1 ?_
    clear HKK hc6
    try simp only [Act.put, List.setIfInBounds_toArray, List.set_cons_zero, List.set_cons_succ]
    repeat (first
      | (apply wpMixG_free
         · rfl
         · intro z' hz
           try dsimp only at hz
           go_simp
           all_goals with_reducible rfl
         simp only [Act.put, List.setIfInBounds_toArray, List.set_cons_zero, List.set_cons_succ])
      | (refine wpMixG_skip (by rfl) ?_
         simp only [Act.put, List.setIfInBounds_toArray, List.set_cons_zero, List.set_cons_succ]))
    refine wpMixG_end ?_
    go_simp
    go_wp2_with fail
    go_meet
    exact ⟨rfl, HU2.out⟩
  case rest =>
    obtain ⟨rfl, hG⟩ := hcut
    have HG := Lib.hid hG
    clear hG
    go_upto_region 8 with (fail)
    refine wp_world (R := fun K => Below V5.heap.size V5 K) HG.out ?_
    clear HG
    rintro K hk
    have HK := Lib.hid hk
    clear hk
    have HKW : Hid (∀ u, Below K.heap.size K u → Below W0.heap.size W0 u) := Lib.hid fun u hu => HZ5.out u (HK.out.trans (hu.mono HK.out.size))
    have HKX : Hid (∀ u, Below K.heap.size K u → Below X.heap.size X u) := Lib.hid fun u hu => HM5.out u (HK.out.trans (hu.mono HK.out.size))
    obtain ⟨a, ha⟩ : ∃ a, atZ z sec = a := ⟨_, rfl⟩
    obtain ⟨sm, hsm⟩ : ∃ sm, sameZ z o = sm := ⟨_, rfl⟩
    have HA8 : Hid (∀ u, Below K.heap.size K u → Calls Try.prog 15 #[.agg #[.slice At z.types.length ct, .slice As z.times.length cs, .slice Ai z.index.length ci, .string z.footer], .int .i64 sec] u fun e w' => e = .returned (.int .i64 a) ∧ Below K.heap.size K w') := Lib.hid fun u hu => by
      have := at_any z _ _ _ P sec u (HZ.out u (HKW.out u hu)) KZ.out (Nat.le_trans HP0.out (HKW.out u hu).size)
      rw [ha] at this
      exact this.mono fun e w' ⟨h1, h2⟩ => ⟨h1, hu.trans (h2.mono hu.size)⟩
    have HB8 : Hid (∀ u, Below K.heap.size K u → Calls Try.prog 16 #[.agg #[.slice Mt z.types.length mt, .slice As z.times.length cs, .slice Ai z.index.length ci, .string z.footer], .int .i64 sec] u fun e w' => e = .returned (.int .i64 a) ∧ Below K.heap.size K w') := Lib.hid fun u hu => by
      have := rat_any z _ _ _ X.heap.size sec u (HZX.out.below (HKX.out u hu) (Nat.le_refl _)) KZ.out (HKX.out u hu).size
      rw [ha] at this
      exact this.mono fun e w' ⟨h1, h2⟩ => ⟨h1, hu.trans (h2.mono hu.size)⟩
    have HS8 : Hid (∀ u, Below K.heap.size K u → Calls Try.prog 17 #[.agg #[.slice At z.types.length ct, .slice As z.times.length cs, .slice Ai z.index.length ci, .string z.footer], .agg #[.slice Bt o.types.length dt, .slice Bs o.times.length ds, .slice Bi o.index.length di, .string o.footer]] u fun e w' => e = .returned (.bool sm) ∧ Below u.heap.size u w' ∧ Below K.heap.size K w') := Lib.hid fun u hu => by
      have := same_any z o _ _ _ _ _ _ P u (HZ.out u (HKW.out u hu)) (HO.out u (HKW.out u hu)) KZ.out (Nat.le_trans HP0.out (HKW.out u hu).size)
      rw [hsm] at this
      exact this.mono fun e w' ⟨h1, h2⟩ => ⟨h1, h2, hu.trans (h2.mono hu.size)⟩
    have HS9 : Hid (∀ u, Below K.heap.size K u → Calls Try.prog 17 #[.agg #[.slice At z.types.length ct, .slice As z.times.length cs, .slice Ai z.index.length ci, .string z.footer], .agg #[.slice At z.types.length ct, .slice As z.times.length cs, .slice Ai z.index.length ci, .string z.footer]] u fun e w' => e = .returned (.bool true) ∧ Below K.heap.size K w') := Lib.hid fun u hu => by
      have := same_any z z _ _ _ _ _ _ P u (HZ.out u (HKW.out u hu)) (HZ.out u (HKW.out u hu)) KZ.out (Nat.le_trans HP0.out (HKW.out u hu).size)
      rw [same_refl] at this
      exact this.mono fun e w' ⟨h1, h2⟩ => ⟨h1, hu.trans (h2.mono hu.size)⟩
    have HP8 : Hid (∀ u, Below K.heap.size K u → Calls Try.prog 10 #[.agg #[.slice Bt o.types.length dt, .slice Bs o.times.length ds, .slice Bi o.index.length di, .string o.footer]] u fun e w' => ∃ A c, e = .returned (.agg #[.slice A o.types.length c, .slice Bs o.times.length ds, .slice Bi o.index.length di, .string o.footer]) ∧ ZnAt w' w'.heap.size o (.slice A o.types.length c) (.slice Bs o.times.length ds) (.slice Bi o.index.length di) ∧ Below K.heap.size K w') := Lib.hid fun u hu => (HPO.out u (HKW.out u hu)).mono fun e w' ⟨A, c, h1, h2, h3⟩ => ⟨A, c, h1, h2, hu.trans (h3.mono hu.size)⟩
    have HQ8 : Hid (∀ u A c, Below K.heap.size K u → ZnAt u u.heap.size o (.slice A o.types.length c) (.slice Bs o.times.length ds) (.slice Bi o.index.length di) → Calls Try.prog 18 #[.agg #[.slice Mt z.types.length mt, .slice As z.times.length cs, .slice Ai z.index.length ci, .string z.footer], .agg #[.slice A o.types.length c, .slice Bs o.times.length ds, .slice Bi o.index.length di, .string o.footer]] u fun e w' => e = .returned (.bool sm) ∧ Below K.heap.size K w') := Lib.hid fun u A c hu hz => by
      have := rsame_any z o _ _ _ _ _ _ u.heap.size u ((HZX.out.below (HKX.out u hu) (Nat.le_refl _)).up (HKX.out u hu).size) hz KZ.out (Nat.le_refl _)
      rw [hsm] at this
      exact this.mono fun e w' ⟨h1, h2⟩ => ⟨h1, hu.trans (h2.mono hu.size)⟩
    have HW8 : Hid (∀ u, Below K.heap.size K u → Calls Try.prog 9 #[] u fun e w' => e = .returned (.bool true) ∧ Below K.heap.size K w') := Lib.hid fun u hu => (works_any u).mono fun e w' ⟨h1, h2⟩ => ⟨h1, hu.trans (h2.mono hu.size)⟩
    have HSK : Hid (∀ u, Below K.heap.size K u → u.cell? ⟨P, 0, none⟩ = some (.slice At z.types.length ct) ∧ u.cell? ⟨P, 1, none⟩ = some (.slice As z.times.length cs) ∧ u.cell? ⟨P, 2, none⟩ = some (.slice Ai z.index.length ci) ∧ u.cell? ⟨P, 3, none⟩ = some (.string z.footer) ∧ u.cell? ⟨P + 1, 0, none⟩ = some (.slice Bt o.types.length dt) ∧ u.cell? ⟨P + 1, 1, none⟩ = some (.slice Bs o.times.length ds) ∧ u.cell? ⟨P + 1, 2, none⟩ = some (.slice Bi o.index.length di) ∧ u.cell? ⟨P + 1, 3, none⟩ = some (.string o.footer) ∧ u.cell? ⟨M, 0, none⟩ = some (.slice Mt z.types.length mt) ∧ u.cell? ⟨M, 1, none⟩ = some (.slice As z.times.length cs) ∧ u.cell? ⟨M, 2, none⟩ = some (.slice Ai z.index.length ci) ∧ u.cell? ⟨M, 3, none⟩ = some (.string z.footer) ∧ Below K.heap.size K u) := Lib.hid fun u hu => by
      have hz := HXZ.out.below (HKW.out u hu) HXZ.out.lt
      have ho := HXO.out.below (HKW.out u hu) HXO.out.lt
      have hm := HXM.out.below (HKX.out u hu) HXM.out.lt
      exact ⟨hz.c0, hz.c1, hz.c2, hz.c3, ho.c0, ho.c1, ho.c2, ho.c3, hm.c0, hm.c1, hm.c2, hm.c3, hu⟩
    have HFIN : Hid (∀ u, Below K.heap.size K u → Below P w u) := Lib.hid fun u hu => HB0.out.trans ((HKW.out u hu).mono HP0.out)
    clear ha hsm HZ HO HB HXZ HXO HXM HZX HRM HPO HRZ HR6 HKW HKX HZ5 HM5 HW5 HX4 HX5 H45 HBX HB2 HB1 HB3 
    go_region_held3 (fun u => u.cell? ⟨P, 0, none⟩ = some (.slice At z.types.length ct) ∧ u.cell? ⟨P, 1, none⟩ = some (.slice As z.times.length cs) ∧ u.cell? ⟨P, 2, none⟩ = some (.slice Ai z.index.length ci) ∧ u.cell? ⟨P, 3, none⟩ = some (.string z.footer) ∧ u.cell? ⟨P + 1, 0, none⟩ = some (.slice Bt o.types.length dt) ∧ u.cell? ⟨P + 1, 1, none⟩ = some (.slice Bs o.times.length ds) ∧ u.cell? ⟨P + 1, 2, none⟩ = some (.slice Bi o.index.length di) ∧ u.cell? ⟨P + 1, 3, none⟩ = some (.string o.footer) ∧ u.cell? ⟨M, 0, none⟩ = some (.slice Mt z.types.length mt) ∧ u.cell? ⟨M, 1, none⟩ = some (.slice As z.times.length cs) ∧ u.cell? ⟨M, 2, none⟩ = some (.slice Ai z.index.length ci) ∧ u.cell? ⟨M, 3, none⟩ = some (.string z.footer) ∧ Below K.heap.size K u)
      (first | exact HSK.out _ (by assumption) | exact HSK.out _ (Below.refl _ _).drew | exact HSK.out _ (Below.refl _ _))
      (first
        | (go_at_call 15; (with_reducible refine (HA8.out _ (by first | assumption | exact (Below.refl _ _).drew)).mono ?_); rintro e w' ⟨rfl, hk⟩)
        | (go_at_call 16; (with_reducible refine (HB8.out _ (by first | assumption | exact (Below.refl _ _).drew)).mono ?_); rintro e w' ⟨rfl, hk⟩)
        | (go_at_call 17; (with_reducible refine (HS8.out _ (by assumption)).mono ?_); clear HS8; rintro e w' ⟨rfl, hu, hk⟩; try (have HZP := Lib.hid ((HZP.out.below hu (Nat.le_refl _)).up hu.size)))
        | (go_at_call 17; (with_reducible refine (HS9.out _ (by assumption)).mono ?_); rintro e w' ⟨rfl, hk⟩)
        | (go_at_call 10; (with_reducible refine (HP8.out _ (by assumption)).mono ?_); rintro e w' ⟨Pt, pt, rfl, hzp, hk⟩; have HZP := Lib.hid hzp; clear hzp)
        | (go_at_call 18; (with_reducible refine (HQ8.out _ _ _ (by assumption) HZP.out).mono ?_); rintro e w' ⟨rfl, hk⟩)
        | (go_at_call 9; (with_reducible refine (HW8.out _ (by assumption)).mono ?_); rintro e w' ⟨rfl, hk⟩))
    all_goals (go_wp2_with fail)
    all_goals go_ret
    all_goals exact ⟨by first | rfl | simp, HFIN.out _ (by assumption)⟩
set_option maxRecDepth 100000 in
set_option maxHeartbeats 4000000 in
theorem puts_no (z o : Zn) (vt vs vi ut us ui : Value) (sec : Int) (w : World) (hz : ZnAt w w.heap.size z vt vs vi) (ho : ZnAt w w.heap.size o ut us ui) (hf : fewZ z 500 = true) (hg : fewZ o 500 = true) (kz : ZnOk z) (ko : ZnOk o) (hr : rightZ z = false) :
    Calls Try.prog 3 #[.agg #[vt, vs, vi, .string z.footer], .agg #[ut, us, ui, .string o.footer], .int .i64 sec] w fun e w' => e = .returned (.bool true) ∧ Below w.heap.size w w' := by
  obtain ⟨At, ct, rfl⟩ := hz.types.len
  obtain ⟨As, cs, rfl⟩ := hz.times.len
  obtain ⟨Ai, ci, rfl⟩ := hz.index.len
  obtain ⟨Bt, dt, rfl⟩ := ho.types.len
  obtain ⟨Bs, ds, rfl⟩ := ho.times.len
  obtain ⟨Bi, di, rfl⟩ := ho.index.len
  obtain ⟨P, hP⟩ : ∃ P, w.heap.size = P := ⟨_, rfl⟩
  obtain ⟨W0, hW0⟩ : ∃ W0, (w.alloc (.cells #[.slice At z.types.length ct, .slice As z.times.length cs, .slice Ai z.index.length ci, .string z.footer] 26)).alloc (.cells #[.slice Bt o.types.length dt, .slice Bs o.times.length ds, .slice Bi o.index.length di, .string o.footer] 26) = W0 := ⟨_, rfl⟩
  have HB0 : Hid (Below P w W0) := Lib.hid (by rw [← hW0, ← hP]; exact ((Below.refl _ _).alloc (Nat.le_refl _) _).alloc (by simp) _)
  have HP0 : Hid (P ≤ W0.heap.size) := Lib.hid (by rw [← hP]; exact HB0.out.size)
  have HXZ : Hid (ZnBox W0 P (.slice At z.types.length ct) (.slice As z.times.length cs) (.slice Ai z.index.length ci) (.string z.footer)) := Lib.hid (by
    rw [← hW0]
    exact (ZnBox.new w P hP _ _ _ _ _).below ((Below.refl (P + 1) _).alloc (by simp [hP]) _) (Nat.lt_succ_self _))
  have HXO : Hid (ZnBox W0 (P + 1) (.slice Bt o.types.length dt) (.slice Bs o.times.length ds) (.slice Bi o.index.length di) (.string o.footer)) := Lib.hid (by
    rw [← hW0]
    exact ZnBox.new _ (P + 1) (by simp [hP]) _ _ _ _ _)
  have HZ : Hid (∀ V, Below W0.heap.size W0 V → ZnAt V P z (.slice At z.types.length ct) (.slice As z.times.length cs) (.slice Ai z.index.length ci)) := Lib.hid fun V hb => by
    have h1 := (hz.below (C := P) HB0.out (by omega)).below hb (by rw [hP]; exact HP0.out)
    rwa [hP] at h1
  have HO : Hid (∀ V, Below W0.heap.size W0 V → ZnAt V P o (.slice Bt o.types.length dt) (.slice Bs o.times.length ds) (.slice Bi o.index.length di)) := Lib.hid fun V hb => by
    have h1 := (ho.below (C := P) HB0.out (by omega)).below hb (by rw [hP]; exact HP0.out)
    rwa [hP] at h1
  have HB : Hid (Below W0.heap.size W0 W0) := Lib.hid (Below.refl _ _)
  obtain ⟨f1, hf1⟩ : ∃ f, fewZ z 500 = f := ⟨_, rfl⟩
  obtain ⟨f2, hf2⟩ : ∃ f, fewZ o 500 = f := ⟨_, rfl⟩
  have HF1 : Hid (∀ V, Below W0.heap.size W0 V → Calls Try.prog 8 #[.agg #[.slice At z.types.length ct, .slice As z.times.length cs, .slice Ai z.index.length ci, .string z.footer], .int .i64 500] V fun e V' => e = .returned (.bool f1) ∧ Below V.heap.size V V') := Lib.hid fun V hb => by
    have := few_any z _ _ _ P 500 V (HZ.out V hb)
    rwa [hf1] at this
  have HF2 : Hid (∀ V, Below W0.heap.size W0 V → Calls Try.prog 8 #[.agg #[.slice Bt o.types.length dt, .slice Bs o.times.length ds, .slice Bi o.index.length di, .string o.footer], .int .i64 500] V fun e V' => e = .returned (.bool f2) ∧ Below V.heap.size V V') := Lib.hid fun V hb => by
    have := few_any o _ _ _ P 500 V (HO.out V hb)
    rwa [hf2] at this
  rw [hP]
  have p0 := HXZ.out.c0; have p1 := HXZ.out.c1; have p2 := HXZ.out.c2; have p3 := HXZ.out.c3
  have q0 := HXO.out.c0; have q1 := HXO.out.c1; have q2 := HXO.out.c2; have q3 := HXO.out.c3
  obtain rfl : f1 = true := hf1.symm.trans hf
  obtain rfl : f2 = true := hf2.symm.trans hg
  have KZ := Lib.hid kz; have KO := Lib.hid ko; have HR := Lib.hid hr
  have HPL : Hid (∀ V, Below W0.heap.size W0 V → Calls Try.prog 10 #[.agg #[.slice At z.types.length ct, .slice As z.times.length cs, .slice Ai z.index.length ci, .string z.footer]] V fun e w' => ∃ A c, e = .returned (.agg #[.slice A z.types.length c, .slice As z.times.length cs, .slice Ai z.index.length ci, .string z.footer]) ∧ ZnAt w' w'.heap.size z (.slice A z.types.length c) (.slice As z.times.length cs) (.slice Ai z.index.length ci) ∧ Below V.heap.size V w') := Lib.hid fun V hb =>
    plain_any z _ _ _ P V (HZ.out V hb) (by have := hf; unfold fewZ at this; simp at this; omega) (Nat.le_trans HP0.out hb.size)
  have HPO : Hid (∀ V, Below W0.heap.size W0 V → Calls Try.prog 10 #[.agg #[.slice Bt o.types.length dt, .slice Bs o.times.length ds, .slice Bi o.index.length di, .string o.footer]] V fun e w' => ∃ A c, e = .returned (.agg #[.slice A o.types.length c, .slice Bs o.times.length ds, .slice Bi o.index.length di, .string o.footer]) ∧ ZnAt w' w'.heap.size o (.slice A o.types.length c) (.slice Bs o.times.length ds) (.slice Bi o.index.length di) ∧ Below V.heap.size V w') := Lib.hid fun V hb =>
    plain_any o _ _ _ P V (HO.out V hb) (by have := hg; unfold fewZ at this; simp at this; omega) (Nat.le_trans HP0.out hb.size)
  have HRZ : Hid (∀ V, Below W0.heap.size W0 V → Calls Try.prog 13 #[.agg #[.slice At z.types.length ct, .slice As z.times.length cs, .slice Ai z.index.length ci, .string z.footer]] V fun e V' => e = .returned (.bool false) ∧ Below V.heap.size V V') := Lib.hid fun V hb => by
    have := right_any z _ _ _ P V (HZ.out V hb) kz (Nat.le_trans HP0.out hb.size)
    rwa [hr] at this
  have HPU : Hid (∀ V, Below W0.heap.size W0 V → Calls Try.prog 11 #[.agg #[.slice At z.types.length ct, .slice As z.times.length cs, .slice Ai z.index.length ci, .string z.footer]] V fun e w' => e = .returned (.tuple #[.slice none 0 0, .int .i64 2]) ∧ Below V.heap.size V w') := Lib.hid fun V hb =>
    put_no z _ _ _ P V (HZ.out V hb) kz (Nat.le_trans HP0.out hb.size) hr
  clear hf hg hf1 hf2 hz ho kz ko hr
  go_enter Try.func3, Try.ntmps3
  go_wp2_with (first
    | (go_at_call 8; refine (HF1.out _ HB.out).mono ?_; clear HF1 p0 p1 p2 p3 q0 q1 q2 q3; rintro e V1 ⟨rfl, hb⟩; have HB1 := Lib.hid hb; clear hb; have p0 := (HXZ.out.below HB1.out HXZ.out.lt).c0; have p1 := (HXZ.out.below HB1.out HXZ.out.lt).c1; have p2 := (HXZ.out.below HB1.out HXZ.out.lt).c2; have p3 := (HXZ.out.below HB1.out HXZ.out.lt).c3; have q0 := (HXO.out.below HB1.out HXO.out.lt).c0; have q1 := (HXO.out.below HB1.out HXO.out.lt).c1; have q2 := (HXO.out.below HB1.out HXO.out.lt).c2; have q3 := (HXO.out.below HB1.out HXO.out.lt).c3)
    | (go_at_call 8; refine (HF2.out _ HB1.out).mono ?_; clear HF2 p0 p1 p2 p3 q0 q1 q2 q3; rintro e V2 ⟨rfl, hb⟩; have HB2 := Lib.hid (HB1.out.trans (hb.mono HB1.out.size)); clear hb; have p0 := (HXZ.out.below HB2.out HXZ.out.lt).c0; have p1 := (HXZ.out.below HB2.out HXZ.out.lt).c1; have p2 := (HXZ.out.below HB2.out HXZ.out.lt).c2; have p3 := (HXZ.out.below HB2.out HXZ.out.lt).c3)
    | (go_at_call 10; refine (HPL.out _ HB2.out).mono ?_; clear HPL p0 p1 p2 p3; rintro e V3 ⟨Mt, mt, rfl, hzm, hb⟩; have HB3 := Lib.hid (HB2.out.trans (hb.mono HB2.out.size)); have HZM := Lib.hid hzm; have HM3 := Lib.hid (HB3.out.alloc HB3.out.size (.cells #[.slice Mt z.types.length mt, .slice As z.times.length cs, .slice Ai z.index.length ci, .string z.footer] 31)); clear hb hzm; have p0 := (HXZ.out.below HM3.out HXZ.out.lt).c0; have p1 := (HXZ.out.below HM3.out HXZ.out.lt).c1; have p2 := (HXZ.out.below HM3.out HXZ.out.lt).c2; have p3 := (HXZ.out.below HM3.out HXZ.out.lt).c3)
    | fail)
  obtain ⟨M, hM⟩ : ∃ M, V3.heap.size = M := ⟨_, rfl⟩
  obtain ⟨X, hX⟩ : ∃ X, V3.alloc (.cells #[.slice Mt z.types.length mt, .slice As z.times.length cs, .slice Ai z.index.length ci, .string z.footer] 31) = X := ⟨_, rfl⟩
  rw [hX, hM]
  have HXM : Hid (ZnBox X M (.slice Mt z.types.length mt) (.slice As z.times.length cs) (.slice Ai z.index.length ci) (.string z.footer)) := Lib.hid (by rw [← hX]; exact ZnBox.new V3 M hM _ _ _ _ _)
  have HBX : Hid (Below W0.heap.size W0 X) := Lib.hid (by rw [← hX]; exact HM3.out)
  have HZX : Hid (ZnAt X X.heap.size z (.slice Mt z.types.length mt) (.slice As z.times.length cs) (.slice Ai z.index.length ci)) := Lib.hid (by
    rw [← hX]
    exact (HZM.out.below ((Below.refl V3.heap.size V3).alloc (Nat.le_refl _) _) (Nat.le_refl _)).up (by simp))
  have HRM : Hid (∀ V, Below X.heap.size X V → Calls Try.prog 12 #[.agg #[.slice Mt z.types.length mt, .slice As z.times.length cs, .slice Ai z.index.length ci, .string z.footer]] V fun e w' => e = .returned (.bool false) ∧ Below V.heap.size V w') := Lib.hid fun V hb => by
    have := rright_any z _ _ _ X.heap.size V (HZX.out.below hb (Nat.le_refl _)) KZ.out hb.size
    rwa [HR.out] at this
  clear hX hM HZM HM3 p0 p1 p2 p3
  refine (HPU.out _ HBX.out).mono ?_
  clear HPU
  rintro e V4 ⟨rfl, hb⟩
  have HX4 := Lib.hid hb
  clear hb
  have m0 := (HXM.out.below HX4.out HXM.out.lt).c0; have m1 := (HXM.out.below HX4.out HXM.out.lt).c1; have m2 := (HXM.out.below HX4.out HXM.out.lt).c2; have m3 := (HXM.out.below HX4.out HXM.out.lt).c3
  go_upto_region 6 with (first
    | (go_at_call 12; refine (HRM.out _ HX4.out).mono ?_; rintro e V5 ⟨rfl, hb⟩; have HX5 := Lib.hid (HX4.out.trans (hb.mono HX4.out.size)); have H45 := Lib.hid hb; clear hb)
    | fail)
  clear m0 m1 m2 m3
  have HW5 : Hid (Below W0.heap.size W0 V5) := Lib.hid (HBX.out.trans (HX5.out.mono HBX.out.size))
  have HZ5 : Hid (∀ u, Below V5.heap.size V5 u → Below W0.heap.size W0 u) := Lib.hid fun u hu => HW5.out.trans (hu.mono HW5.out.size)
  have HM5 : Hid (∀ u, Below V5.heap.size V5 u → Below X.heap.size X u) := Lib.hid fun u hu => HX5.out.trans (hu.mono HX5.out.size)
  have HR6 : Hid (∀ u, Below V5.heap.size V5 u → Calls Try.prog 13 #[.agg #[.slice At z.types.length ct, .slice As z.times.length cs, .slice Ai z.index.length ci, .string z.footer]] u fun e w' => e = .returned (.bool false) ∧ Below V5.heap.size V5 w') := Lib.hid fun u hu => (HRZ.out u (HZ5.out u hu)).mono fun e w' ⟨h1, h2⟩ => ⟨h1, hu.trans (h2.mono hu.size)⟩
  have HSK : Hid (∀ u, Below V5.heap.size V5 u → (u.cell? ⟨P, 0, none⟩ = some (.slice At z.types.length ct) ∧ u.cell? ⟨P, 1, none⟩ = some (.slice As z.times.length cs) ∧ u.cell? ⟨P, 2, none⟩ = some (.slice Ai z.index.length ci) ∧ u.cell? ⟨P, 3, none⟩ = some (.string z.footer) ∧ u.cell? ⟨M, 0, none⟩ = some (.slice Mt z.types.length mt) ∧ u.cell? ⟨M, 1, none⟩ = some (.slice As z.times.length cs) ∧ u.cell? ⟨M, 2, none⟩ = some (.slice Ai z.index.length ci) ∧ u.cell? ⟨M, 3, none⟩ = some (.string z.footer)) ∧ Below V5.heap.size V5 u) := Lib.hid fun u hu => by
    have hz := HXZ.out.below (HZ5.out u hu) HXZ.out.lt
    have hm := HXM.out.below (HM5.out u hu) HXM.out.lt
    exact ⟨⟨hz.c0, hz.c1, hz.c2, hz.c3, hm.c0, hm.c1, hm.c2, hm.c3⟩, hu⟩
  go_cut [60] (fun u wx => u = .bool false ∧ Below V5.heap.size V5 wx)
  case first =>
    refine wp_region_guard (fun u => u.cell? ⟨P, 0, none⟩ = some (.slice At z.types.length ct) ∧ u.cell? ⟨P, 1, none⟩ = some (.slice As z.times.length cs) ∧ u.cell? ⟨P, 2, none⟩ = some (.slice Ai z.index.length ci) ∧ u.cell? ⟨P, 3, none⟩ = some (.string z.footer) ∧ u.cell? ⟨M, 0, none⟩ = some (.slice Mt z.types.length mt) ∧ u.cell? ⟨M, 1, none⟩ = some (.slice As z.times.length cs) ∧ u.cell? ⟨M, 2, none⟩ = some (.slice Ai z.index.length ci) ∧ u.cell? ⟨M, 3, none⟩ = some (.string z.footer)) [(0, true), (2, true), (1, false), (3, true), (4, true), (5, true), (6, true), (7, true), (8, true), (9, true), (10, true), (11, true), (12, true), (13, true), (14, true), (15, true), (16, true), (17, true), (18, true), (19, true), (20, true), (21, true), (22, true), (23, true), (24, true), (25, true), (26, true), (27, true), (28, true), (29, true), (30, true)] _ (by kernel_rfl) rfl (by kernel_rfl) (by kernel_rfl) (HSK.out _ (Below.refl _ _).drew).1 ?_
    simp only [permL, List.dropLast, List.getElem?_cons_zero, List.getElem?_cons_succ, List.getLast]
    repeat (first
      | (apply wpMixG_free
         · rfl
         · intro z' hz
           try dsimp only at hz
           go_simp
           all_goals with_reducible rfl
         simp only [Act.put, List.setIfInBounds_toArray, List.set_cons_zero, List.set_cons_succ])
      | (refine wpMixG_skip (by rfl) ?_
         simp only [Act.put, List.setIfInBounds_toArray, List.set_cons_zero, List.set_cons_succ]))
    refine wpMixG_turn (by rfl) (fun K hK => ?_)
    have HKK := Lib.hid hK; clear hK
    go_simp
    refine (HR6.out _ (Below.refl _ _).drew).mono ?_
    rintro e u1 ⟨rfl, hk⟩
    have HU1 := Lib.hid hk; clear hk
    refine HKK.out _ _ (HSK.out _ HU1.out).1 ?_
    clear HKK
    try simp only [Act.put, List.setIfInBounds_toArray, List.set_cons_zero, List.set_cons_succ]
    repeat (first
      | (apply wpMixG_free
         · rfl
         · intro z' hz
           try dsimp only at hz
           go_simp
           all_goals with_reducible rfl
         simp only [Act.put, List.setIfInBounds_toArray, List.set_cons_zero, List.set_cons_succ])
      | (refine wpMixG_skip (by rfl) ?_
         simp only [Act.put, List.setIfInBounds_toArray, List.set_cons_zero, List.set_cons_succ]))
    refine wpMixG_end ?_
    go_simp
    go_wp2_with fail
    go_meet
    exact ⟨rfl, HU1.out⟩
  case rest =>
    obtain ⟨rfl, hG⟩ := hcut
    have HG := Lib.hid hG
    clear hG
    go_upto_region 8 with (fail)
    refine wp_world (R := fun K => Below V5.heap.size V5 K) HG.out ?_
    clear HG
    rintro K hk
    have HK := Lib.hid hk
    clear hk
    have HKW : Hid (∀ u, Below K.heap.size K u → Below W0.heap.size W0 u) := Lib.hid fun u hu => HZ5.out u (HK.out.trans (hu.mono HK.out.size))
    have HKX : Hid (∀ u, Below K.heap.size K u → Below X.heap.size X u) := Lib.hid fun u hu => HM5.out u (HK.out.trans (hu.mono HK.out.size))
    obtain ⟨a, ha⟩ : ∃ a, atZ z sec = a := ⟨_, rfl⟩
    obtain ⟨sm, hsm⟩ : ∃ sm, sameZ z o = sm := ⟨_, rfl⟩
    have HA8 : Hid (∀ u, Below K.heap.size K u → Calls Try.prog 15 #[.agg #[.slice At z.types.length ct, .slice As z.times.length cs, .slice Ai z.index.length ci, .string z.footer], .int .i64 sec] u fun e w' => e = .returned (.int .i64 a) ∧ Below K.heap.size K w') := Lib.hid fun u hu => by
      have := at_any z _ _ _ P sec u (HZ.out u (HKW.out u hu)) KZ.out (Nat.le_trans HP0.out (HKW.out u hu).size)
      rw [ha] at this
      exact this.mono fun e w' ⟨h1, h2⟩ => ⟨h1, hu.trans (h2.mono hu.size)⟩
    have HB8 : Hid (∀ u, Below K.heap.size K u → Calls Try.prog 16 #[.agg #[.slice Mt z.types.length mt, .slice As z.times.length cs, .slice Ai z.index.length ci, .string z.footer], .int .i64 sec] u fun e w' => e = .returned (.int .i64 a) ∧ Below K.heap.size K w') := Lib.hid fun u hu => by
      have := rat_any z _ _ _ X.heap.size sec u (HZX.out.below (HKX.out u hu) (Nat.le_refl _)) KZ.out (HKX.out u hu).size
      rw [ha] at this
      exact this.mono fun e w' ⟨h1, h2⟩ => ⟨h1, hu.trans (h2.mono hu.size)⟩
    have HS8 : Hid (∀ u, Below K.heap.size K u → Calls Try.prog 17 #[.agg #[.slice At z.types.length ct, .slice As z.times.length cs, .slice Ai z.index.length ci, .string z.footer], .agg #[.slice Bt o.types.length dt, .slice Bs o.times.length ds, .slice Bi o.index.length di, .string o.footer]] u fun e w' => e = .returned (.bool sm) ∧ Below u.heap.size u w' ∧ Below K.heap.size K w') := Lib.hid fun u hu => by
      have := same_any z o _ _ _ _ _ _ P u (HZ.out u (HKW.out u hu)) (HO.out u (HKW.out u hu)) KZ.out (Nat.le_trans HP0.out (HKW.out u hu).size)
      rw [hsm] at this
      exact this.mono fun e w' ⟨h1, h2⟩ => ⟨h1, h2, hu.trans (h2.mono hu.size)⟩
    have HS9 : Hid (∀ u, Below K.heap.size K u → Calls Try.prog 17 #[.agg #[.slice At z.types.length ct, .slice As z.times.length cs, .slice Ai z.index.length ci, .string z.footer], .agg #[.slice At z.types.length ct, .slice As z.times.length cs, .slice Ai z.index.length ci, .string z.footer]] u fun e w' => e = .returned (.bool true) ∧ Below K.heap.size K w') := Lib.hid fun u hu => by
      have := same_any z z _ _ _ _ _ _ P u (HZ.out u (HKW.out u hu)) (HZ.out u (HKW.out u hu)) KZ.out (Nat.le_trans HP0.out (HKW.out u hu).size)
      rw [same_refl] at this
      exact this.mono fun e w' ⟨h1, h2⟩ => ⟨h1, hu.trans (h2.mono hu.size)⟩
    have HP8 : Hid (∀ u, Below K.heap.size K u → Calls Try.prog 10 #[.agg #[.slice Bt o.types.length dt, .slice Bs o.times.length ds, .slice Bi o.index.length di, .string o.footer]] u fun e w' => ∃ A c, e = .returned (.agg #[.slice A o.types.length c, .slice Bs o.times.length ds, .slice Bi o.index.length di, .string o.footer]) ∧ ZnAt w' w'.heap.size o (.slice A o.types.length c) (.slice Bs o.times.length ds) (.slice Bi o.index.length di) ∧ Below K.heap.size K w') := Lib.hid fun u hu => (HPO.out u (HKW.out u hu)).mono fun e w' ⟨A, c, h1, h2, h3⟩ => ⟨A, c, h1, h2, hu.trans (h3.mono hu.size)⟩
    have HQ8 : Hid (∀ u A c, Below K.heap.size K u → ZnAt u u.heap.size o (.slice A o.types.length c) (.slice Bs o.times.length ds) (.slice Bi o.index.length di) → Calls Try.prog 18 #[.agg #[.slice Mt z.types.length mt, .slice As z.times.length cs, .slice Ai z.index.length ci, .string z.footer], .agg #[.slice A o.types.length c, .slice Bs o.times.length ds, .slice Bi o.index.length di, .string o.footer]] u fun e w' => e = .returned (.bool sm) ∧ Below K.heap.size K w') := Lib.hid fun u A c hu hz => by
      have := rsame_any z o _ _ _ _ _ _ u.heap.size u ((HZX.out.below (HKX.out u hu) (Nat.le_refl _)).up (HKX.out u hu).size) hz KZ.out (Nat.le_refl _)
      rw [hsm] at this
      exact this.mono fun e w' ⟨h1, h2⟩ => ⟨h1, hu.trans (h2.mono hu.size)⟩
    have HW8 : Hid (∀ u, Below K.heap.size K u → Calls Try.prog 9 #[] u fun e w' => e = .returned (.bool true) ∧ Below K.heap.size K w') := Lib.hid fun u hu => (works_any u).mono fun e w' ⟨h1, h2⟩ => ⟨h1, hu.trans (h2.mono hu.size)⟩
    have HSK : Hid (∀ u, Below K.heap.size K u → u.cell? ⟨P, 0, none⟩ = some (.slice At z.types.length ct) ∧ u.cell? ⟨P, 1, none⟩ = some (.slice As z.times.length cs) ∧ u.cell? ⟨P, 2, none⟩ = some (.slice Ai z.index.length ci) ∧ u.cell? ⟨P, 3, none⟩ = some (.string z.footer) ∧ u.cell? ⟨P + 1, 0, none⟩ = some (.slice Bt o.types.length dt) ∧ u.cell? ⟨P + 1, 1, none⟩ = some (.slice Bs o.times.length ds) ∧ u.cell? ⟨P + 1, 2, none⟩ = some (.slice Bi o.index.length di) ∧ u.cell? ⟨P + 1, 3, none⟩ = some (.string o.footer) ∧ u.cell? ⟨M, 0, none⟩ = some (.slice Mt z.types.length mt) ∧ u.cell? ⟨M, 1, none⟩ = some (.slice As z.times.length cs) ∧ u.cell? ⟨M, 2, none⟩ = some (.slice Ai z.index.length ci) ∧ u.cell? ⟨M, 3, none⟩ = some (.string z.footer) ∧ Below K.heap.size K u) := Lib.hid fun u hu => by
      have hz := HXZ.out.below (HKW.out u hu) HXZ.out.lt
      have ho := HXO.out.below (HKW.out u hu) HXO.out.lt
      have hm := HXM.out.below (HKX.out u hu) HXM.out.lt
      exact ⟨hz.c0, hz.c1, hz.c2, hz.c3, ho.c0, ho.c1, ho.c2, ho.c3, hm.c0, hm.c1, hm.c2, hm.c3, hu⟩
    have HFIN : Hid (∀ u, Below K.heap.size K u → Below P w u) := Lib.hid fun u hu => HB0.out.trans ((HKW.out u hu).mono HP0.out)
    clear ha hsm HZ HO HB HXZ HXO HXM HZX HRM HPO HRZ HR6 HKW HKX HZ5 HM5 HW5 HX4 HX5 H45 HBX HB2 HB1 HB3 
    go_region_held3 (fun u => u.cell? ⟨P, 0, none⟩ = some (.slice At z.types.length ct) ∧ u.cell? ⟨P, 1, none⟩ = some (.slice As z.times.length cs) ∧ u.cell? ⟨P, 2, none⟩ = some (.slice Ai z.index.length ci) ∧ u.cell? ⟨P, 3, none⟩ = some (.string z.footer) ∧ u.cell? ⟨P + 1, 0, none⟩ = some (.slice Bt o.types.length dt) ∧ u.cell? ⟨P + 1, 1, none⟩ = some (.slice Bs o.times.length ds) ∧ u.cell? ⟨P + 1, 2, none⟩ = some (.slice Bi o.index.length di) ∧ u.cell? ⟨P + 1, 3, none⟩ = some (.string o.footer) ∧ u.cell? ⟨M, 0, none⟩ = some (.slice Mt z.types.length mt) ∧ u.cell? ⟨M, 1, none⟩ = some (.slice As z.times.length cs) ∧ u.cell? ⟨M, 2, none⟩ = some (.slice Ai z.index.length ci) ∧ u.cell? ⟨M, 3, none⟩ = some (.string z.footer) ∧ Below K.heap.size K u)
      (first | exact HSK.out _ (by assumption) | exact HSK.out _ (Below.refl _ _).drew | exact HSK.out _ (Below.refl _ _))
      (first
        | (go_at_call 15; (with_reducible refine (HA8.out _ (by first | assumption | exact (Below.refl _ _).drew)).mono ?_); rintro e w' ⟨rfl, hk⟩)
        | (go_at_call 16; (with_reducible refine (HB8.out _ (by first | assumption | exact (Below.refl _ _).drew)).mono ?_); rintro e w' ⟨rfl, hk⟩)
        | (go_at_call 17; (with_reducible refine (HS8.out _ (by assumption)).mono ?_); clear HS8; rintro e w' ⟨rfl, hu, hk⟩; try (have HZP := Lib.hid ((HZP.out.below hu (Nat.le_refl _)).up hu.size)))
        | (go_at_call 17; (with_reducible refine (HS9.out _ (by assumption)).mono ?_); rintro e w' ⟨rfl, hk⟩)
        | (go_at_call 10; (with_reducible refine (HP8.out _ (by assumption)).mono ?_); rintro e w' ⟨Pt, pt, rfl, hzp, hk⟩; have HZP := Lib.hid hzp; clear hzp)
        | (go_at_call 18; (with_reducible refine (HQ8.out _ _ _ (by assumption) HZP.out).mono ?_); rintro e w' ⟨rfl, hk⟩)
        | (go_at_call 9; (with_reducible refine (HW8.out _ (by assumption)).mono ?_); rintro e w' ⟨rfl, hk⟩))
    all_goals (go_wp2_with fail)
    all_goals go_ret
    all_goals exact ⟨by first | rfl | simp, HFIN.out _ (by assumption)⟩
end Go.Proofs.Ytohpdpcjhmopbaa.Tz
