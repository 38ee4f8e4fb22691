/-
  Layer 6 (tzif): the law TzifBack (written by gen_back6.py).
-/
import Derived.Test.YtohpdpcjhmopbaaTzBx
import Derived.Test.YtohpdpcjhmopbaaTzMc
import Derived.Test.YtohpdpcjhmopbaaTzRow
namespace Go.Proofs.Ytohpdpcjhmopbaa.Tz
open Go.RowKit

set_option maxRecDepth 100000 in
set_option maxHeartbeats 2000000 in
theorem back_a (z : Zn) (vt vs vi : Value) (B : Nat) (cut : Int) (w : World) (h : ZnAt w B z vt vs vi) (hB : B ≤ w.heap.size) (hf : fewZ z 500 = false) :
    Calls Try.prog 4 #[.agg #[vt, vs, vi, .string z.footer], .int .u16 cut] w fun e w' => e = .returned (.bool true) ∧ Below w.heap.size w w' := by
  obtain ⟨At, ct, rfl⟩ := h.types.len
  obtain ⟨As, cs, rfl⟩ := h.times.len
  obtain ⟨Ai, ci, rfl⟩ := h.index.len
  have H := Lib.hid h
  obtain ⟨W0, hW0⟩ : ∃ W0, w.alloc (.cells #[.slice At z.types.length ct, .slice As z.times.length cs, .slice Ai z.index.length ci, .string z.footer] 26) = W0 := ⟨_, rfl⟩
  have HB0 : Hid (Below w.heap.size w W0) := Lib.hid (by rw [← hW0]; exact (Below.refl _ _).alloc (Nat.le_refl _) _)
  have HSZ : Hid (W0.heap.size = w.heap.size + 1) := Lib.hid (by rw [← hW0]; simp)
  have HC0 : Hid (∀ i u, (#[.slice At z.types.length ct, .slice As z.times.length cs, .slice Ai z.index.length ci, .string z.footer] : Array Value)[i]? = some u → W0.cell? ⟨w.heap.size, i, none⟩ = some u) := Lib.hid fun i u hu => by rw [← hW0]; exact cell_new w _ _ _ i u rfl hu
  have HB : Hid (Below W0.heap.size W0 W0) := Lib.hid (Below.refl _ _)
  have HC : Hid (∀ V, Below W0.heap.size W0 V → ∀ i u, (#[.slice At z.types.length ct, .slice As z.times.length cs, .slice Ai z.index.length ci, .string z.footer] : Array Value)[i]? = some u → V.cell? ⟨w.heap.size, i, none⟩ = some u) := Lib.hid fun V hb i u hu => cells_at w.heap.size hb (by rw [HSZ.out]; omega) (HC0.out i u hu)
  have HZ : Hid (∀ V, Below W0.heap.size W0 V → ZnAt V B z (.slice At z.types.length ct) (.slice As z.times.length cs) (.slice Ai z.index.length ci)) := Lib.hid fun V hb => (H.out.below HB0.out hB).below hb (by rw [HSZ.out]; omega)
  have HFEW : Hid (∀ V, Below W0.heap.size W0 V → Calls Try.prog 8 #[.agg #[.slice At z.types.length ct, .slice As z.times.length cs, .slice Ai z.index.length ci, .string z.footer], .int .i64 500] V fun e V' => e = .returned (.bool false) ∧ Below V.heap.size V V') := Lib.hid fun V hb => by
    have := few_any z _ _ _ B 500 V (HZ.out V hb)
    rwa [hf] at this
  have q0 := HC.out _ HB.out 0 _ rfl; have q1 := HC.out _ HB.out 1 _ rfl; have q2 := HC.out _ HB.out 2 _ rfl; have q3 := HC.out _ HB.out 3 _ rfl
  clear h hf hB
  go_enter Try.func4, Try.ntmps4
  go_wp2_with (first
    | (go_at_call 8; refine (HFEW.out _ HB.out).mono ?_; clear HFEW q0 q1 q2 q3; rintro e V1 ⟨rfl, hb⟩; have HB1 := Lib.hid (HB.out.trans (hb.mono HB.out.size)); clear hb; have q0 := HC.out _ HB1.out 0 _ rfl; have q1 := HC.out _ HB1.out 1 _ rfl; have q2 := HC.out _ HB1.out 2 _ rfl; have q3 := HC.out _ HB1.out 3 _ rfl)
    | (go_at_call 9; refine (works_any _).mono ?_; rintro e V9 ⟨rfl, hb⟩; have HB9 := Lib.hid (HB1.out.trans (hb.mono HB1.out.size)); clear hb)
    | fail)
  go_ret
  exact ⟨rfl, HB0.out.trans (HB9.out.mono HB0.out.size)⟩
set_option maxRecDepth 100000 in
set_option maxHeartbeats 2000000 in
theorem back_b (z : Zn) (vt vs vi : Value) (B : Nat) (cut : Int) (w : World) (h : ZnAt w B z vt vs vi) (hB : B ≤ w.heap.size) (hf : fewZ z 500 = true) (ho : ZnOk z) (hr : rightZ z = false) :
    Calls Try.prog 4 #[.agg #[vt, vs, vi, .string z.footer], .int .u16 cut] w fun e w' => e = .returned (.bool true) ∧ Below w.heap.size w w' := by
  obtain ⟨At, ct, rfl⟩ := h.types.len
  obtain ⟨As, cs, rfl⟩ := h.times.len
  obtain ⟨Ai, ci, rfl⟩ := h.index.len
  have H := Lib.hid h
  obtain ⟨W0, hW0⟩ : ∃ W0, w.alloc (.cells #[.slice At z.types.length ct, .slice As z.times.length cs, .slice Ai z.index.length ci, .string z.footer] 26) = W0 := ⟨_, rfl⟩
  have HB0 : Hid (Below w.heap.size w W0) := Lib.hid (by rw [← hW0]; exact (Below.refl _ _).alloc (Nat.le_refl _) _)
  have HSZ : Hid (W0.heap.size = w.heap.size + 1) := Lib.hid (by rw [← hW0]; simp)
  have HC0 : Hid (∀ i u, (#[.slice At z.types.length ct, .slice As z.times.length cs, .slice Ai z.index.length ci, .string z.footer] : Array Value)[i]? = some u → W0.cell? ⟨w.heap.size, i, none⟩ = some u) := Lib.hid fun i u hu => by rw [← hW0]; exact cell_new w _ _ _ i u rfl hu
  have HB : Hid (Below W0.heap.size W0 W0) := Lib.hid (Below.refl _ _)
  have HC : Hid (∀ V, Below W0.heap.size W0 V → ∀ i u, (#[.slice At z.types.length ct, .slice As z.times.length cs, .slice Ai z.index.length ci, .string z.footer] : Array Value)[i]? = some u → V.cell? ⟨w.heap.size, i, none⟩ = some u) := Lib.hid fun V hb i u hu => cells_at w.heap.size hb (by rw [HSZ.out]; omega) (HC0.out i u hu)
  have HZ : Hid (∀ V, Below W0.heap.size W0 V → ZnAt V B z (.slice At z.types.length ct) (.slice As z.times.length cs) (.slice Ai z.index.length ci)) := Lib.hid fun V hb => (H.out.below HB0.out hB).below hb (by rw [HSZ.out]; omega)
  have HFEW : Hid (∀ V, Below W0.heap.size W0 V → Calls Try.prog 8 #[.agg #[.slice At z.types.length ct, .slice As z.times.length cs, .slice Ai z.index.length ci, .string z.footer], .int .i64 500] V fun e V' => e = .returned (.bool true) ∧ Below V.heap.size V V') := Lib.hid fun V hb => by
    have := few_any z _ _ _ B 500 V (HZ.out V hb)
    rwa [hf] at this
  have HPT : Hid (∀ V, Below W0.heap.size W0 V → Calls Try.prog 11 #[.agg #[.slice At z.types.length ct, .slice As z.times.length cs, .slice Ai z.index.length ci, .string z.footer]] V fun e V' => e = .returned (.tuple #[.slice none 0 0, .int .i64 2]) ∧ Below V.heap.size V V') := Lib.hid fun V hb => put_no z _ _ _ B V (HZ.out V hb) ho (by have := hb.size; have := HSZ.out; omega) hr
  have q0 := HC.out _ HB.out 0 _ rfl; have q1 := HC.out _ HB.out 1 _ rfl; have q2 := HC.out _ HB.out 2 _ rfl; have q3 := HC.out _ HB.out 3 _ rfl
  clear h hf hB hr ho
  go_enter Try.func4, Try.ntmps4
  go_wp2_with (first
    | (go_at_call 8; refine (HFEW.out _ HB.out).mono ?_; clear HFEW q0 q1 q2 q3; rintro e V1 ⟨rfl, hb⟩; have HB1 := Lib.hid (HB.out.trans (hb.mono HB.out.size)); clear hb; have q0 := HC.out _ HB1.out 0 _ rfl; have q1 := HC.out _ HB1.out 1 _ rfl; have q2 := HC.out _ HB1.out 2 _ rfl; have q3 := HC.out _ HB1.out 3 _ rfl)
    | (go_at_call 11; refine (HPT.out _ HB1.out).mono ?_; clear HPT q0 q1 q2 q3; rintro e V2 ⟨rfl, hb⟩; have HB2 := Lib.hid (HB1.out.trans (hb.mono HB1.out.size)); clear hb)
    | (go_at_call 9; refine (works_any _).mono ?_; rintro e V9 ⟨rfl, hb⟩; have HB9 := Lib.hid (HB2.out.trans (hb.mono HB2.out.size)); clear hb)
    | fail)
  go_ret
  exact ⟨rfl, HB0.out.trans (HB9.out.mono HB0.out.size)⟩
set_option maxRecDepth 100000 in
set_option maxHeartbeats 2000000 in
theorem back_c (z : Zn) (vt vs vi : Value) (B : Nat) (cut m : Int) (w : World) (h : ZnAt w B z vt vs vi) (hB : B ≤ w.heap.size) (hf : fewZ z 500 = true) (ho : ZnOk z) (hr : rightZ z = true) (ht : ∀ t ∈ z.times, -9223372036854775808 ≤ t ∧ t ≤ 9223372036854775807) (hc0 : 0 ≤ cut) (hc1 : cut ≤ 65535) (h1 : 0 < w.heap.size) (h0 : w.cell? ⟨0, 0, none⟩ = some (.int .i64 m)) :
    Calls Try.prog 4 #[.agg #[vt, vs, vi, .string z.footer], .int .u16 cut] w fun e w' => e = .returned (.bool true) ∧ Below w.heap.size w w' := by
  obtain ⟨At, ct, rfl⟩ := h.types.len
  obtain ⟨As, cs, rfl⟩ := h.times.len
  obtain ⟨Ai, ci, rfl⟩ := h.index.len
  have H := Lib.hid h
  obtain ⟨W0, hW0⟩ : ∃ W0, w.alloc (.cells #[.slice At z.types.length ct, .slice As z.times.length cs, .slice Ai z.index.length ci, .string z.footer] 26) = W0 := ⟨_, rfl⟩
  have HB0 : Hid (Below w.heap.size w W0) := Lib.hid (by rw [← hW0]; exact (Below.refl _ _).alloc (Nat.le_refl _) _)
  have HSZ : Hid (W0.heap.size = w.heap.size + 1) := Lib.hid (by rw [← hW0]; simp)
  have HC0 : Hid (∀ i u, (#[.slice At z.types.length ct, .slice As z.times.length cs, .slice Ai z.index.length ci, .string z.footer] : Array Value)[i]? = some u → W0.cell? ⟨w.heap.size, i, none⟩ = some u) := Lib.hid fun i u hu => by rw [← hW0]; exact cell_new w _ _ _ i u rfl hu
  have HB : Hid (Below W0.heap.size W0 W0) := Lib.hid (Below.refl _ _)
  have HC : Hid (∀ V, Below W0.heap.size W0 V → ∀ i u, (#[.slice At z.types.length ct, .slice As z.times.length cs, .slice Ai z.index.length ci, .string z.footer] : Array Value)[i]? = some u → V.cell? ⟨w.heap.size, i, none⟩ = some u) := Lib.hid fun V hb i u hu => cells_at w.heap.size hb (by rw [HSZ.out]; omega) (HC0.out i u hu)
  have HZ : Hid (∀ V, Below W0.heap.size W0 V → ZnAt V B z (.slice At z.types.length ct) (.slice As z.times.length cs) (.slice Ai z.index.length ci)) := Lib.hid fun V hb => (H.out.below HB0.out hB).below hb (by rw [HSZ.out]; omega)
  have HFEW : Hid (∀ V, Below W0.heap.size W0 V → Calls Try.prog 8 #[.agg #[.slice At z.types.length ct, .slice As z.times.length cs, .slice Ai z.index.length ci, .string z.footer], .int .i64 500] V fun e V' => e = .returned (.bool true) ∧ Below V.heap.size V V') := Lib.hid fun V hb => by
    have := few_any z _ _ _ B 500 V (HZ.out V hb)
    rwa [hf] at this
  have HPT : Hid (∀ V, Below W0.heap.size W0 V → Calls Try.prog 11 #[.agg #[.slice At z.types.length ct, .slice As z.times.length cs, .slice Ai z.index.length ci, .string z.footer]] V fun e V' => ∃ v, e = .returned (.tuple #[v, .int .i64 0]) ∧ Own V' V.heap.size v (putB z) ∧ Below V.heap.size V V') := Lib.hid fun V hb => put_yes z _ _ _ B V (HZ.out V hb) ho (by have := hb.size; have := HSZ.out; omega) hr
  have HG : Hid (∀ V, Below W0.heap.size W0 V → 0 < V.heap.size ∧ V.cell? ⟨0, 0, none⟩ = some (.int .i64 m)) := Lib.hid fun V hb => ⟨by have := hb.size; have := HSZ.out; omega, cells_at 0 hb (by rw [HSZ.out]; omega) (cells_at 0 HB0.out h1 h0)⟩
  obtain ⟨L, hL⟩ : ∃ L, (putB z).length = L := ⟨_, rfl⟩
  have hlen := putB_len hr
  rw [hL] at hlen
  obtain ⟨l0, l1⟩ := hlen
  obtain ⟨q, hq⟩ : ∃ q : Nat, cut.toNat % (L - 1) = q := ⟨_, rfl⟩
  have hql : q < L - 1 := by rw [← hq]; exact Nat.mod_lt _ (by omega)
  obtain ⟨k, hk⟩ : ∃ k, L - 1 - q = k := ⟨_, rfl⟩
  obtain ⟨p, hp⟩ : ∃ p, L - 1 = p := ⟨_, rfl⟩
  have HP1 : Hid (∀ V A c, Below W0.heap.size W0 V → SB V V.heap.size A L c (nats (putB z)) → Calls Try.prog 19 #[.slice A L c] V fun e w' => ∃ vt vs vi, e = .returned (.tuple #[.agg #[vt, vs, vi, .string z.footer], .int .i64 0]) ∧ ZnOwn w' (V.heap.size + 1) z vt vs vi ∧ Below V.heap.size V w') := Lib.hid fun V A c hb hs => Parse_put hr ho ht hs (HG.out V hb).1 (HG.out V hb).2
  have HP2 : Hid (∀ V A c, Below W0.heap.size W0 V → SB V V.heap.size A L c (nats (putB z)) → Calls Try.prog 19 #[.slice A k c] V fun e w' => e = .returned (.tuple #[noZone, .int .i64 60]) ∧ Below V.heap.size V w') := Lib.hid fun V A c hb hs => Parse_none (nop_cut hr ht (HG.out V hb).1 k (by rw [nats_len, hL]; omega)) (hs.take (by omega)) (HG.out V hb).1 (HG.out V hb).2
  have HP3 : Hid (∀ V A c, Below W0.heap.size W0 V → SB V V.heap.size A (L + 1) c (nats (putB z ++ [0])) → Calls Try.prog 19 #[.slice A (L + 1) c] V fun e w' => e = .returned (.tuple #[noZone, .int .i64 60]) ∧ Below V.heap.size V w') := Lib.hid fun V A c hb hs => Parse_none (nop_more hr ht (HG.out V hb).1) hs (HG.out V hb).1 (HG.out V hb).2
  have HSM : Hid (∀ V ut us ui, Below W0.heap.size W0 V → ZnAt V V.heap.size z ut us ui → Calls Try.prog 17 #[.agg #[ut, us, ui, .string z.footer], .agg #[.slice At z.types.length ct, .slice As z.times.length cs, .slice Ai z.index.length ci, .string z.footer]] V fun e w' => e = .returned (.bool true) ∧ Below V.heap.size V w') := Lib.hid fun V ut us ui hb hz => by
    have := same_any z z ut us ui _ _ _ V.heap.size V hz ((HZ.out V hb).rise (by have := hb.size; have := HSZ.out; omega)) ho (Nat.le_refl _)
    rwa [same_self] at this
  have HRT : Hid (∀ V ut us ui, ZnAt V V.heap.size z ut us ui → Calls Try.prog 13 #[.agg #[ut, us, ui, .string z.footer]] V fun e w' => e = .returned (.bool true) ∧ Below V.heap.size V w') := Lib.hid fun V ut us ui hz => by
    have := right_any z ut us ui V.heap.size V hz ho (Nat.le_refl _)
    rwa [hr] at this
  unfold noZone at HP2 HP3
  have HBY := Lib.hid (putB_byt z)
  have HK1 : Hid True := Lib.hid trivial
  have HK2 : Hid True := Lib.hid trivial
  obtain ⟨pb, hpb⟩ : ∃ pb, putB z = pb := ⟨_, rfl⟩
  rw [hpb] at HPT HP1 HP2 HP3 HBY hL
  clear hpb
  have c1 : (L : Int) - 1 = p := by omega
  have c2 : cut.tmod (p : Int) = q := by rw [Int.tmod_eq_emod_of_nonneg hc0, ← Int.toNat_of_nonneg hc0, ← hp, ← hq]; first | rfl | exact (Int.natCast_emod _ _).symm
  have c3 : (L : Int) - (1 + (q : Int)) = k := by omega
  have c4 : (0 : Int) < (p : Int) := by omega
  have c5 : (0 : Int) ≤ (k : Int) := by omega
  have c6 : (q : Int) < (p : Int) := by omega
  have c7 : ¬ (L : Int) < 104 := by omega
  have c8 : (p : Int) ≤ 100000 := by omega
  have c9 : (k : Int) ≤ 100000 := by omega
  have d1 : (0 : Int) ≤ (q : Int) := by omega
  have q0 := HC.out _ HB.out 0 _ rfl; have q1 := HC.out _ HB.out 1 _ rfl; have q2 := HC.out _ HB.out 2 _ rfl; have q3 := HC.out _ HB.out 3 _ rfl
  clear h hf hB hr ho ht h0 h1 hq hql hk hp
  go_enter Try.func4, Try.ntmps4
  go_wp2_with (first
    | (go_at_call 8; refine (HFEW.out _ HB.out).mono ?_; clear HFEW q0 q1 q2 q3; rintro e V1 ⟨rfl, hb⟩; have HB1 := Lib.hid (HB.out.trans (hb.mono HB.out.size)); clear hb; have q0 := HC.out _ HB1.out 0 _ rfl; have q1 := HC.out _ HB1.out 1 _ rfl; have q2 := HC.out _ HB1.out 2 _ rfl; have q3 := HC.out _ HB1.out 3 _ rfl)
    | (go_at_call 11; refine (HPT.out _ HB1.out).mono ?_; clear HPT q0 q1 q2 q3; rintro e V2 ⟨vb, rfl, hown, hb⟩; have HB2 := Lib.hid (HB1.out.trans (hb.mono HB1.out.size)); obtain ⟨gb, cb, rfl, m1, m2, hsb⟩ := own_open hown HBY.out (by rw [hL]; omega); rw [hL] at hsb m1 ⊢; have HSB := Lib.hid hsb; have m3 : (k : Int) ≤ (cb : Int) := (by omega); have m4 : (cb : Int) ≤ 9223372036854775807 := (by omega); clear hb hown hsb m1 m2)
    | (go_at_call 19; refine (HP1.out _ _ _ HB2.out HSB.out).mono ?_; clear HP1; rintro e V3 ⟨ut, us, ui, rfl, hz, hb⟩; obtain ⟨Bt, dt, rfl⟩ := hz.types.form; obtain ⟨Bs, ds, rfl⟩ := hz.times.form; obtain ⟨Bi, di, rfl⟩ := hz.index.form; have OZ := Lib.hid hz; have HB3 := Lib.hid (HB2.out.trans (hb.mono HB2.out.size)); have HS3 := Lib.hid hb; clear hb hz; have HB4 : Hid (∀ o, Below W0.heap.size W0 (V3.alloc o)) := Lib.hid (fun o => HB3.out.alloc HB3.out.size o); have q0 : ∀ o, (V3.alloc o).cell? ⟨w.heap.size, 0, none⟩ = some (.slice At z.types.length ct) := (fun o => HC.out _ (HB4.out o) 0 _ rfl); have q1 : ∀ o, (V3.alloc o).cell? ⟨w.heap.size, 1, none⟩ = some (.slice As z.times.length cs) := (fun o => HC.out _ (HB4.out o) 1 _ rfl); have q2 : ∀ o, (V3.alloc o).cell? ⟨w.heap.size, 2, none⟩ = some (.slice Ai z.index.length ci) := (fun o => HC.out _ (HB4.out o) 2 _ rfl); have q3 : ∀ o, (V3.alloc o).cell? ⟨w.heap.size, 3, none⟩ = some (.string z.footer) := (fun o => HC.out _ (HB4.out o) 3 _ rfl))
    | (go_at_call 17; refine (HSM.out _ _ _ _ (HB4.out _) (OZ.out.keep ((Below.refl V3.heap.size V3).alloc (Nat.le_refl _) _)).at_).mono ?_; clear HSM q0 q1 q2 q3; rintro e V4 ⟨rfl, hb⟩; have XB := Lib.hid ((ZnBox.new V3 V3.heap.size rfl (.slice Bt z.types.length dt) (.slice Bs z.times.length ds) (.slice Bi z.index.length di) (.string z.footer) 26).below hb (by simp)); have O4 := Lib.hid ((OZ.out.keep ((Below.refl V3.heap.size V3).alloc (Nat.le_refl _) _)).keep hb); have HB5 := Lib.hid ((HB4.out _).trans (hb.mono (HB4.out _).size)); have HS5 := Lib.hid ((HS3.out.alloc HS3.out.size _).trans (hb.mono (by have := HS3.out.size; simp; omega))); clear hb; have x0 := XB.out.c0; have x1 := XB.out.c1; have x2 := XB.out.c2; have x3 := XB.out.c3)
    | (go_at_call 13; refine (HRT.out _ _ _ _ O4.out.at_).mono ?_; clear HRT x0 x1 x2 x3; rintro e V5 ⟨rfl, hb⟩; have HB6 := Lib.hid (HB5.out.trans (hb.mono HB5.out.size)); have HS6 := Lib.hid (HS5.out.trans (hb.mono HS5.out.size)); have S6 := Lib.hid ((HSB.out.below HS6.out (Nat.le_refl _))); clear hb)
    | (go_at_call 19; refine (HP2.out _ _ _ HB6.out (S6.out.up HS6.out.size)).mono ?_; clear HP2; rintro e V6 ⟨rfl, hb⟩; have HB7 := Lib.hid (HB6.out.trans (hb.mono HB6.out.size)); have S7 := Lib.hid (S6.out.below hb (by have := HS6.out.size; omega)); have HS7 := Lib.hid (HS6.out.trans (hb.mono HS6.out.size)); clear hb)
    | (at_builtin; clear HK1; refine plain_append_bytes (.tmp 67) (.tmp 68) rfl rfl V6.heap.size _ [] (pb) ⟨gb, 0, none⟩ L cb rfl rfl hL (Own.empty2 (V6.alloc _) (V6.heap.size + 1) V6.heap.size (by simp) (Nat.le_succ _)) (sb_cells (S7.out.below (((Below.refl V6.heap.size V6).alloc (Nat.le_refl _) _).alloc (by simp) _) HS7.out.size) HBY.out) (by show 0 + L ≤ _; omega) (by simp; omega) ?_; intro v1 U1 hO hG; rw [List.nil_append] at hO; have O1 := Lib.hid hO; have B1 := Lib.hid ((((Below.refl V6.heap.size V6).alloc (Nat.le_refl _) _).alloc (by simp) _).trans (grew_below (Own.empty2 (V6.alloc _) (V6.heap.size + 1) V6.heap.size (by simp) (Nat.le_succ _)) hG (Nat.le_refl _) (by simp; omega))); clear hO hG)
    | (at_builtin; clear HK2; refine plain_append_bytes (.tmp 69) (.tmp 70) rfl rfl V6.heap.size _ (pb) [0] ⟨U1.heap.size, 0, none⟩ 1 1 rfl rfl rfl (O1.out.alloc _) (one_cell (new_cell _ _ rfl _ _)) (by rw [hL]; omega) (by have := B1.out.size; simp; omega) ?_; intro v2 U2 hO hG; obtain ⟨A2, c2, rfl, hs2⟩ := own_sb hO (HBY.out.app (show Byt [0] by unfold Byt; decide)); rw [List.length_append, hL, List.length_singleton] at hs2; have S2 := Lib.hid hs2; have HB8 := Lib.hid (HB7.out.trans ((B1.out.trans (((Below.refl V6.heap.size U1).alloc B1.out.size _).trans (grew_below (O1.out.alloc _) hG (Nat.le_refl _) (by have := B1.out.size; simp; omega)))).mono HB7.out.size)); clear hO hG hs2)
    | (go_at_call 19; refine (HP3.out _ _ _ HB8.out S2.out).mono ?_; clear HP3; rintro e V8 ⟨rfl, hb⟩; have HB9 := Lib.hid (HB8.out.trans (hb.mono HB8.out.size)); clear hb)
    | (go_at_call 9; refine (works_any _).mono ?_; rintro e V9 ⟨rfl, hb⟩; have HBA := Lib.hid ((HB9.out.alloc HB9.out.size _).trans (hb.mono (by have := HB9.out.size; simp; omega))); clear hb)
    | fail)
  go_ret
  exact ⟨rfl, HB0.out.trans (HBA.out.mono HB0.out.size)⟩
theorem cell_lt {w : World} {g i : Nat} {u : Value} (h : w.cell? ⟨g, i, none⟩ = some u) : g < w.heap.size := by
  rcases Nat.lt_or_ge g w.heap.size with h1 | h1
  · exact h1
  · have : w.heap[g]? = none := Array.getElem?_eq_none h1
    unfold World.cell? at h
    simp [this] at h
theorem tzifBack_any (z : Zn) (vt vs vi : Value) (cut m : Int) (w : World) (h : ZnAt w w.heap.size z vt vs vi) (hi : ZnIn z) (hc : 0 ≤ cut ∧ cut ≤ 65535) (h0 : w.cell? ⟨0, 0, none⟩ = some (.int .i64 m)) :
    Calls Try.prog 4 #[.agg #[vt, vs, vi, .string z.footer], .int .u16 cut] w fun e w' => e = .returned (.bool true) ∧ Below w.heap.size w w' := by
  cases hf : fewZ z 500 with
  | false => exact back_a z vt vs vi w.heap.size cut w h (Nat.le_refl _) hf
  | true =>
    have ho := few_ok (fun t ht => (hi.types t ht).abbr) hi.footer (by decide) hf
    cases hr : rightZ z with
    | false => exact back_b z vt vs vi w.heap.size cut w h (Nat.le_refl _) hf ho hr
    | true => exact back_c z vt vs vi w.heap.size cut m w h (Nat.le_refl _) hf ho hr (fun t ht => ⟨(hi.times t ht).lo, (hi.times t ht).hi⟩) hc.1 hc.2 (cell_lt h0) h0
end Go.Proofs.Ytohpdpcjhmopbaa.Tz
