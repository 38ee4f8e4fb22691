/-
  Layer 6 (tzif): the law TzifOld.
-/
import Derived.Test.YtohpdpcjhmopbaaTzOa
import Derived.Test.YtohpdpcjhmopbaaTzMc
import Derived.Test.YtohpdpcjhmopbaaTzRow
namespace Go.Proofs.Ytohpdpcjhmopbaa.Tz
open Go.RowKit

set_option maxRecDepth 100000 in
set_option maxHeartbeats 2000000 in
theorem old_a (z : Zn) (vt vs vi : Value) (B : Nat) (at_ by_ : Int) (w : World) (h : ZnAt w B z vt vs vi) (hB : B ≤ w.heap.size) (hf : fewZ z 300 = false) :
    Calls Try.prog 5 #[.agg #[vt, vs, vi, .string z.footer], .int .u16 at_, .int .u8 by_] w fun e w' => e = .returned (.bool true) ∧ Below w.heap.size w w' := by
  obtain ⟨At, ct, rfl⟩ := h.types.len
  obtain ⟨As, cs, rfl⟩ := h.times.len
  obtain ⟨Ai, ci, rfl⟩ := h.index.len
  have H := Lib.hid h
  obtain ⟨W0, hW0⟩ : ∃ W0, w.alloc (.cells #[.slice At z.types.length ct, .slice As z.times.length cs, .slice Ai z.index.length ci, .string z.footer] 26) = W0 := ⟨_, rfl⟩
  have HB0 : Hid (Below w.heap.size w W0) := Lib.hid (by rw [← hW0]; exact (Below.refl _ _).alloc (Nat.le_refl _) _)
  have HSZ : Hid (W0.heap.size = w.heap.size + 1) := Lib.hid (by rw [← hW0]; simp)
  have HC0 : Hid (∀ i u, (#[.slice At z.types.length ct, .slice As z.times.length cs, .slice Ai z.index.length ci, .string z.footer] : Array Value)[i]? = some u → W0.cell? ⟨w.heap.size, i, none⟩ = some u) := Lib.hid fun i u hu => by rw [← hW0]; exact cell_new w _ _ _ i u rfl hu
  have HB : Hid (Below W0.heap.size W0 W0) := Lib.hid (Below.refl _ _)
  have HC : Hid (∀ V, Below W0.heap.size W0 V → ∀ i u, (#[.slice At z.types.length ct, .slice As z.times.length cs, .slice Ai z.index.length ci, .string z.footer] : Array Value)[i]? = some u → V.cell? ⟨w.heap.size, i, none⟩ = some u) := Lib.hid fun V hb i u hu => cells_at w.heap.size hb (by rw [HSZ.out]; omega) (HC0.out i u hu)
  have HZ : Hid (∀ V, Below W0.heap.size W0 V → ZnAt V B z (.slice At z.types.length ct) (.slice As z.times.length cs) (.slice Ai z.index.length ci)) := Lib.hid fun V hb => (H.out.below HB0.out hB).below hb (by rw [HSZ.out]; omega)
  have HFEW : Hid (∀ V, Below W0.heap.size W0 V → Calls Try.prog 8 #[.agg #[.slice At z.types.length ct, .slice As z.times.length cs, .slice Ai z.index.length ci, .string z.footer], .int .i64 300] V fun e V' => e = .returned (.bool false) ∧ Below V.heap.size V V') := Lib.hid fun V hb => by
    have := few_any z _ _ _ B 300 V (HZ.out V hb)
    rwa [hf] at this
  have q0 := HC.out _ HB.out 0 _ rfl; have q1 := HC.out _ HB.out 1 _ rfl; have q2 := HC.out _ HB.out 2 _ rfl; have q3 := HC.out _ HB.out 3 _ rfl
  clear h hf hB
  go_enter Try.func5, Try.ntmps5
  go_wp2_with (first
    | (go_at_call 8; refine (HFEW.out _ HB.out).mono ?_; clear HFEW q0 q1 q2 q3; rintro e V1 ⟨rfl, hb⟩; have HB1 := Lib.hid (HB.out.trans (hb.mono HB.out.size)); clear hb; have q0 := HC.out _ HB1.out 0 _ rfl; have q1 := HC.out _ HB1.out 1 _ rfl; have q2 := HC.out _ HB1.out 2 _ rfl; have q3 := HC.out _ HB1.out 3 _ rfl)
    | (go_at_call 9; refine (works_any _).mono ?_; rintro e V9 ⟨rfl, hb⟩; have HB9 := Lib.hid (HB1.out.trans (hb.mono HB1.out.size)); clear hb)
    | fail)
  go_ret
  exact ⟨rfl, HB0.out.trans (HB9.out.mono HB0.out.size)⟩
set_option maxRecDepth 100000 in
set_option maxHeartbeats 2000000 in
theorem old_b (z : Zn) (vt vs vi : Value) (B : Nat) (at_ by_ : Int) (w : World) (h : ZnAt w B z vt vs vi) (hB : B ≤ w.heap.size) (hf : fewZ z 300 = true) (ho : ZnOk z) (hr : rightZ z = false) :
    Calls Try.prog 5 #[.agg #[vt, vs, vi, .string z.footer], .int .u16 at_, .int .u8 by_] w fun e w' => e = .returned (.bool true) ∧ Below w.heap.size w w' := by
  obtain ⟨At, ct, rfl⟩ := h.types.len
  obtain ⟨As, cs, rfl⟩ := h.times.len
  obtain ⟨Ai, ci, rfl⟩ := h.index.len
  have H := Lib.hid h
  obtain ⟨W0, hW0⟩ : ∃ W0, w.alloc (.cells #[.slice At z.types.length ct, .slice As z.times.length cs, .slice Ai z.index.length ci, .string z.footer] 26) = W0 := ⟨_, rfl⟩
  have HB0 : Hid (Below w.heap.size w W0) := Lib.hid (by rw [← hW0]; exact (Below.refl _ _).alloc (Nat.le_refl _) _)
  have HSZ : Hid (W0.heap.size = w.heap.size + 1) := Lib.hid (by rw [← hW0]; simp)
  have HC0 : Hid (∀ i u, (#[.slice At z.types.length ct, .slice As z.times.length cs, .slice Ai z.index.length ci, .string z.footer] : Array Value)[i]? = some u → W0.cell? ⟨w.heap.size, i, none⟩ = some u) := Lib.hid fun i u hu => by rw [← hW0]; exact cell_new w _ _ _ i u rfl hu
  have HB : Hid (Below W0.heap.size W0 W0) := Lib.hid (Below.refl _ _)
  have HC : Hid (∀ V, Below W0.heap.size W0 V → ∀ i u, (#[.slice At z.types.length ct, .slice As z.times.length cs, .slice Ai z.index.length ci, .string z.footer] : Array Value)[i]? = some u → V.cell? ⟨w.heap.size, i, none⟩ = some u) := Lib.hid fun V hb i u hu => cells_at w.heap.size hb (by rw [HSZ.out]; omega) (HC0.out i u hu)
  have HZ : Hid (∀ V, Below W0.heap.size W0 V → ZnAt V B z (.slice At z.types.length ct) (.slice As z.times.length cs) (.slice Ai z.index.length ci)) := Lib.hid fun V hb => (H.out.below HB0.out hB).below hb (by rw [HSZ.out]; omega)
  have HFEW : Hid (∀ V, Below W0.heap.size W0 V → Calls Try.prog 8 #[.agg #[.slice At z.types.length ct, .slice As z.times.length cs, .slice Ai z.index.length ci, .string z.footer], .int .i64 300] V fun e V' => e = .returned (.bool true) ∧ Below V.heap.size V V') := Lib.hid fun V hb => by
    have := few_any z _ _ _ B 300 V (HZ.out V hb)
    rwa [hf] at this
  have HRT : Hid (∀ V, Below W0.heap.size W0 V → Calls Try.prog 13 #[.agg #[.slice At z.types.length ct, .slice As z.times.length cs, .slice Ai z.index.length ci, .string z.footer]] V fun e V' => e = .returned (.bool false) ∧ Below V.heap.size V V') := Lib.hid fun V hb => by
    have := right_any z _ _ _ B V (HZ.out V hb) ho (by have := hb.size; have := HSZ.out; omega)
    rwa [hr] at this
  have q0 := HC.out _ HB.out 0 _ rfl; have q1 := HC.out _ HB.out 1 _ rfl; have q2 := HC.out _ HB.out 2 _ rfl; have q3 := HC.out _ HB.out 3 _ rfl
  clear h hf hB hr ho
  go_enter Try.func5, Try.ntmps5
  go_wp2_with (first
    | (go_at_call 8; refine (HFEW.out _ HB.out).mono ?_; clear HFEW q0 q1 q2 q3; rintro e V1 ⟨rfl, hb⟩; have HB1 := Lib.hid (HB.out.trans (hb.mono HB.out.size)); clear hb; have q0 := HC.out _ HB1.out 0 _ rfl; have q1 := HC.out _ HB1.out 1 _ rfl; have q2 := HC.out _ HB1.out 2 _ rfl; have q3 := HC.out _ HB1.out 3 _ rfl)
    | (go_at_call 13; refine (HRT.out _ HB1.out).mono ?_; clear HRT q0 q1 q2 q3; rintro e V2 ⟨rfl, hb⟩; have HB2 := Lib.hid (HB1.out.trans (hb.mono HB1.out.size)); clear hb)
    | (go_at_call 9; refine (works_any _).mono ?_; rintro e V9 ⟨rfl, hb⟩; have HB9 := Lib.hid (HB2.out.trans (hb.mono HB2.out.size)); clear hb)
    | fail)
  go_ret
  exact ⟨rfl, HB0.out.trans (HB9.out.mono HB0.out.size)⟩
set_option maxRecDepth 100000 in
set_option maxHeartbeats 4000000 in
theorem old_c (z : Zn) (vt vs vi : Value) (B : Nat) (at_ by_ m : Int) (w : World) (h : ZnAt w B z vt vs vi) (hB : B ≤ w.heap.size) (hf : fewZ z 300 = true) (ho : ZnOk z) (hr : rightZ z = true) (ht : ∀ t ∈ z.times, -9223372036854775808 ≤ t ∧ t ≤ 9223372036854775807) (ha0 : 0 ≤ at_) (ha1 : at_ ≤ 65535) (hy0 : 0 ≤ by_) (hy1 : by_ ≤ 255) (h1 : 0 < w.heap.size) (h0 : w.cell? ⟨0, 0, none⟩ = some (.int .i64 m)) :
    Calls Try.prog 5 #[.agg #[vt, vs, vi, .string z.footer], .int .u16 at_, .int .u8 by_] w fun e w' => e = .returned (.bool true) ∧ Below w.heap.size w w' := by
  obtain ⟨At, ct, rfl⟩ := h.types.len
  obtain ⟨As, cs, rfl⟩ := h.times.len
  obtain ⟨Ai, ci, rfl⟩ := h.index.len
  have H := Lib.hid h
  obtain ⟨W0, hW0⟩ : ∃ W0, w.alloc (.cells #[.slice At z.types.length ct, .slice As z.times.length cs, .slice Ai z.index.length ci, .string z.footer] 26) = W0 := ⟨_, rfl⟩
  have HB0 : Hid (Below w.heap.size w W0) := Lib.hid (by rw [← hW0]; exact (Below.refl _ _).alloc (Nat.le_refl _) _)
  have HSZ : Hid (W0.heap.size = w.heap.size + 1) := Lib.hid (by rw [← hW0]; simp)
  have HC0 : Hid (∀ i u, (#[.slice At z.types.length ct, .slice As z.times.length cs, .slice Ai z.index.length ci, .string z.footer] : Array Value)[i]? = some u → W0.cell? ⟨w.heap.size, i, none⟩ = some u) := Lib.hid fun i u hu => by rw [← hW0]; exact cell_new w _ _ _ i u rfl hu
  have HB : Hid (Below W0.heap.size W0 W0) := Lib.hid (Below.refl _ _)
  have HC : Hid (∀ V, Below W0.heap.size W0 V → ∀ i u, (#[.slice At z.types.length ct, .slice As z.times.length cs, .slice Ai z.index.length ci, .string z.footer] : Array Value)[i]? = some u → V.cell? ⟨w.heap.size, i, none⟩ = some u) := Lib.hid fun V hb i u hu => cells_at w.heap.size hb (by rw [HSZ.out]; omega) (HC0.out i u hu)
  have HZ : Hid (∀ V, Below W0.heap.size W0 V → ZnAt V B z (.slice At z.types.length ct) (.slice As z.times.length cs) (.slice Ai z.index.length ci)) := Lib.hid fun V hb => (H.out.below HB0.out hB).below hb (by rw [HSZ.out]; omega)
  have HFEW : Hid (∀ V, Below W0.heap.size W0 V → Calls Try.prog 8 #[.agg #[.slice At z.types.length ct, .slice As z.times.length cs, .slice Ai z.index.length ci, .string z.footer], .int .i64 300] V fun e V' => e = .returned (.bool true) ∧ Below V.heap.size V V') := Lib.hid fun V hb => by
    have := few_any z _ _ _ B 300 V (HZ.out V hb)
    rwa [hf] at this
  have HRT : Hid (∀ V, Below W0.heap.size W0 V → Calls Try.prog 13 #[.agg #[.slice At z.types.length ct, .slice As z.times.length cs, .slice Ai z.index.length ci, .string z.footer]] V fun e V' => e = .returned (.bool true) ∧ Below V.heap.size V V') := Lib.hid fun V hb => by
    have := right_any z _ _ _ B V (HZ.out V hb) ho (by have := hb.size; have := HSZ.out; omega)
    rwa [hr] at this
  have HPT : Hid (∀ V, Below W0.heap.size W0 V → Calls Try.prog 11 #[.agg #[.slice At z.types.length ct, .slice As z.times.length cs, .slice Ai z.index.length ci, .string z.footer]] V fun e V' => ∃ v, e = .returned (.tuple #[v, .int .i64 0]) ∧ Own V' V.heap.size v (putB z) ∧ Below V.heap.size V V') := Lib.hid fun V hb => put_yes z _ _ _ B V (HZ.out V hb) ho (by have := hb.size; have := HSZ.out; omega) hr
  have HG : Hid (∀ V, Below W0.heap.size W0 V → 0 < V.heap.size ∧ V.cell? ⟨0, 0, none⟩ = some (.int .i64 m)) := Lib.hid fun V hb => ⟨by have := hb.size; have := HSZ.out; omega, cells_at 0 hb (by rw [HSZ.out]; omega) (cells_at 0 HB0.out h1 h0)⟩
  have hob : ZnOk (bare z) := ⟨ho.types, ho.times, ho.index, ho.abbr, show (0 : Nat) ≤ _ by decide⟩
  obtain ⟨rr, hrr⟩ : ∃ r : Nat, at_.toNat % 7 = r := ⟨_, rfl⟩
  have hrl : rr < 7 := by omega
  obtain ⟨s, hs⟩ : ∃ s, 44 + rr = s := ⟨_, rfl⟩
  have hbare : ({ z with footer := ⟨#[]⟩ } : Zn) = bare z := rfl
  obtain ⟨L, hL⟩ : ∃ L, (putB z).length = L := ⟨_, rfl⟩
  have hlen := putB_len hr
  have hln2 := put_lens z
  rw [hL] at hlen hln2
  obtain ⟨l0, l1⟩ := hlen
  have hrs := put_rest z
  obtain ⟨rb, hrb⟩ : ∃ rb, restL z = rb := ⟨_, rfl⟩
  have HRB : Hid (Byt rb) := Lib.hid (by rw [← hrb]; exact restL_byt z)
  obtain ⟨rn, hrn⟩ : ∃ rn, rb.length = rn := ⟨_, rfl⟩
  rw [hrb, hrn] at hrs hln2
  have hhd := put_head z
  obtain ⟨hb2, hhb⟩ : ∃ hb2, headB (hd2 z) = hb2 := ⟨_, rfl⟩
  have HHL : Hid (hb2.length = 44) := Lib.hid (by rw [← hhb]; exact headB_len _)
  have HHB : Hid (Byt hb2) := Lib.hid (by rw [← hhb]; exact headB_byt (show (50 : Nat) < 256 by decide))
  have HHS : Hid (hb2.set 4 0 = headB (hd0 z)) := Lib.hid (by rw [← hhb]; exact head_set z)
  rw [hhb] at hhd
  have HP1 : Hid (∀ V A c, Below W0.heap.size W0 V → SB V V.heap.size A L c (nats ((putB z).set s by_)) → Calls Try.prog 19 #[.slice A L c] V fun e w' => ∃ vt vs vi, e = .returned (.tuple #[.agg #[vt, vs, vi, .string z.footer], .int .i64 0]) ∧ ZnOwn w' (V.heap.size + 1) z vt vs vi ∧ Below V.heap.size V w') := Lib.hid fun V A c hb hs' => Parse_first hr ho ht hrl ⟨hy0, hy1⟩ (by rw [hs]; exact hs') (HG.out V hb).1 (HG.out V hb).2
  have HP2 : Hid ((∀ t ∈ z.times, -2147483648 ≤ t ∧ t ≤ 2147483647) → ∀ V A n c, Below W0.heap.size W0 V → SB V V.heap.size A n c (nats (headB (hd0 z) ++ times4 z.times ++ rb)) → Calls Try.prog 19 #[.slice A n c] V fun e w' => ∃ vt vs vi, e = .returned (.tuple #[.agg #[vt, vs, vi, .string ⟨#[]⟩], .int .i64 0]) ∧ ZnOwn w' (V.heap.size + 1) (bare z) vt vs vi ∧ Below V.heap.size V w') := Lib.hid fun hz V A n c hb hs' => Parse_old hr hob hz (by unfold oldB; rw [hrb]; exact hs') (HG.out V hb).1 (HG.out V hb).2
  have HSM : Hid (∀ V ut us ui, Below W0.heap.size W0 V → ZnAt V V.heap.size z ut us ui → Calls Try.prog 17 #[.agg #[ut, us, ui, .string z.footer], .agg #[.slice At z.types.length ct, .slice As z.times.length cs, .slice Ai z.index.length ci, .string z.footer]] V fun e w' => e = .returned (.bool true) ∧ Below V.heap.size V w') := Lib.hid fun V ut us ui hb hz => by
    have := same_any z z ut us ui _ _ _ V.heap.size V hz ((HZ.out V hb).rise (by have := hb.size; have := HSZ.out; omega)) ho (Nat.le_refl _)
    rwa [same_self] at this
  have HSM2 : Hid (∀ V ut us ui, ZnAt V V.heap.size (bare z) ut us ui → ZnAt V V.heap.size z (.slice At z.types.length ct) (.slice As z.times.length cs) (.slice Ai z.index.length ci) → Calls Try.prog 17 #[.agg #[ut, us, ui, .string ⟨#[]⟩], .agg #[.slice At z.types.length ct, .slice As z.times.length cs, .slice Ai z.index.length ci, .string ⟨#[]⟩]] V fun e w' => e = .returned (.bool true) ∧ Below V.heap.size V w') := Lib.hid fun V ut us ui h1 h2 => by
    have := same_any (bare z) (bare z) ut us ui _ _ _ V.heap.size V h1 (⟨h2.types, h2.times, h2.index⟩) hob (Nat.le_refl _)
    rwa [same_self] at this
  have HBY := Lib.hid (putB_byt z)
  obtain ⟨pb, hpb⟩ : ∃ pb, putB z = pb := ⟨_, rfl⟩
  rw [hpb] at HPT HP1 HBY hL hrs hhd
  have HHD := Lib.hid hhd
  have HRS := Lib.hid hrs
  have HTI : Hid (∀ t ∈ z.times, -9223372036854775808 ≤ t ∧ t ≤ 9223372036854775807) := Lib.hid ht
  have hsl : s < L := by omega
  have HPC : Hid (Byt (pb.set s by_)) := Lib.hid fun x hx => by
    rcases List.mem_or_eq_of_mem_set hx with hx | hx
    · exact HBY.out x hx
    · omega
  have hpcl : (pb.set s by_).length = L := by rw [List.length_set]; exact hL
  obtain ⟨pc, hpc⟩ : ∃ pc, pb.set s by_ = pc := ⟨_, rfl⟩
  rw [hpc] at HP1 HPC hpcl
  obtain ⟨px, hpx⟩ : ∃ px, pb[s]? = some px := ⟨_, List.getElem?_eq_getElem (by omega)⟩
  have HPX := Lib.hid hpx; have HPCE := Lib.hid hpc
  have HLN := Lib.hid hln2
  have HBB := Lib.hid hB
  have HFZ : Hid (∀ i, W0.frozen? ⟨w.heap.size, i, none⟩ = false) := Lib.hid fun i => by rw [← hW0]; exact frozen_of_row _ _ i _ _ (heap_alloc_new _ _)
  have HN4 : Hid (z.times.length ≤ 4000) := Lib.hid (right_all hr).2.2.1
  have HRN := Lib.hid hrn
  clear hln2 hrn
  have HK1 : Hid True := Lib.hid trivial
  have HK2 : Hid True := Lib.hid trivial
  have a1 : at_.tmod 7 = (rr : Int) := by rw [Int.tmod_eq_emod_of_nonneg ha0]; omega
  have a2 : (44 : Int) + (rr : Int) = (s : Int) := by omega
  have a3 : (0 : Int) ≤ (s : Int) := by omega
  have a4 : (s : Int) < (L : Int) := by omega
  have a5 : (s : Int) ≤ 50 := by omega
  have a6 : ¬ (L : Int) < 104 := by omega
  have a7 : (0 : Int) ≤ (rr : Int) := by omega
  have a8 : (rr : Int) < 7 := by omega
  have q0 := HC.out _ HB.out 0 _ rfl; have q1 := HC.out _ HB.out 1 _ rfl; have q2 := HC.out _ HB.out 2 _ rfl; have q3 := HC.out _ HB.out 3 _ rfl
  clear h hf hB hr ho ht h0 h1 hpb hhd hrs hrb hhb hpc hob hrr hrl hs hbare hpx
  go_enter Try.func5, Try.ntmps5
  go_wp2_with (first
    | (go_at_call 8; refine (HFEW.out _ HB.out).mono ?_; clear HFEW q0 q1 q2 q3; rintro e V1 ⟨rfl, hb⟩; have HB1 := Lib.hid (HB.out.trans (hb.mono HB.out.size)); clear hb; have q0 := HC.out _ HB1.out 0 _ rfl; have q1 := HC.out _ HB1.out 1 _ rfl; have q2 := HC.out _ HB1.out 2 _ rfl; have q3 := HC.out _ HB1.out 3 _ rfl)
    | (go_at_call 13; refine (HRT.out _ HB1.out).mono ?_; clear HRT q0 q1 q2 q3; rintro e V2 ⟨rfl, hb⟩; have HB2 := Lib.hid (HB1.out.trans (hb.mono HB1.out.size)); clear hb; have q0 := HC.out _ HB2.out 0 _ rfl; have q1 := HC.out _ HB2.out 1 _ rfl; have q2 := HC.out _ HB2.out 2 _ rfl; have q3 := HC.out _ HB2.out 3 _ rfl)
    | (go_at_call 11; refine (HPT.out _ HB2.out).mono ?_; clear HPT q0 q1 q2 q3; rintro e V3 ⟨vb, rfl, hown, hb⟩; have HB3 := Lib.hid (HB2.out.trans (hb.mono HB2.out.size)); obtain ⟨gb, cb, rfl, m1, m2, hsb⟩ := own_open hown HBY.out (by rw [hL]; omega); rw [hL] at hsb m1 ⊢; have S3 := Lib.hid hsb; have n1 : (95 : Int) ≤ (cb : Int) := (by omega); have n2 : (L : Int) ≤ (cb : Int) := (by omega); have n3 : (cb : Int) ≤ 9223372036854775807 := (by omega); clear hb hown hsb m1 m2)
    | (at_builtin; clear HK1; refine plain_append_bytes (.tmp 39) (.tmp 40) rfl rfl V3.heap.size _ [] pb ⟨gb, 0, none⟩ L cb rfl rfl hL (Own.empty2 V3 V3.heap.size V3.heap.size rfl (Nat.le_refl _)) (sb_cells (S3.out.below ((Below.refl V3.heap.size V3).alloc (Nat.le_refl _) _) (Nat.le_refl _)) HBY.out) (by show 0 + L ≤ _; omega) (by simp) ?_; intro v1 U1 hO hG; rw [List.nil_append] at hO; have B1 := Lib.hid (((Below.refl V3.heap.size V3).alloc (Nat.le_refl _) _).trans (grew_below (Own.empty2 V3 V3.heap.size V3.heap.size rfl (Nat.le_refl _)) hG (Nat.le_refl _) (by simp))); obtain ⟨g9, c9, rfl, m1, m2, hs9⟩ := own_open hO HBY.out (by rw [hL]; omega); rw [hL] at hs9 m1 hO ⊢; have O1 := Lib.hid hO; have s1 : U1.cell? ⟨g9, s, none⟩ = some (by8 px) := (by have := sb_cells hs9 HBY.out s px HPX.out; rwa [Own_add] at this); have s2 : U1.frozen? ⟨g9, s, none⟩ = false := Own.loose hO hL s; have n4 : (s : Int) < (c9 : Int) := (by omega); have G9 : Hid (V3.heap.size ≤ g9) := Lib.hid (hO.lt g9 rfl).1; unfold by8 at s1; clear hG hs9 m1 m2 hO)
    | (go_at_call 19; have hoc := O1.out.stored hL s by_; rw [HPCE.out] at hoc; have BS := Lib.hid (B1.out.setCell (p := ⟨g9, s, none⟩) G9.out (by8 by_)); have HBU := Lib.hid (HB3.out.trans (BS.out.mono HB3.out.size)); refine (HP1.out _ _ _ HBU.out (own_sb_at hoc HPC.out)).mono ?_; clear HP1 s1 s2 hoc; rintro e V4 ⟨ut, us, ui, rfl, hz, hb⟩; obtain ⟨Bt, dt, rfl⟩ := hz.types.form; obtain ⟨Bs, ds, rfl⟩ := hz.times.form; obtain ⟨Bi, di, rfl⟩ := hz.index.form; have OZ := Lib.hid hz; have HB4 := Lib.hid (HBU.out.trans (hb.mono HBU.out.size)); have HS4 := Lib.hid (BS.out.trans (hb.mono BS.out.size)); clear hb hz; have HB5 : Hid (∀ o, Below W0.heap.size W0 (V4.alloc o)) := Lib.hid (fun o => HB4.out.alloc HB4.out.size o); have q0 : ∀ o, (V4.alloc o).cell? ⟨w.heap.size, 0, none⟩ = some (.slice At z.types.length ct) := (fun o => HC.out _ (HB5.out o) 0 _ rfl); have q1 : ∀ o, (V4.alloc o).cell? ⟨w.heap.size, 1, none⟩ = some (.slice As z.times.length cs) := (fun o => HC.out _ (HB5.out o) 1 _ rfl); have q2 : ∀ o, (V4.alloc o).cell? ⟨w.heap.size, 2, none⟩ = some (.slice Ai z.index.length ci) := (fun o => HC.out _ (HB5.out o) 2 _ rfl); have q3 : ∀ o, (V4.alloc o).cell? ⟨w.heap.size, 3, none⟩ = some (.string z.footer) := (fun o => HC.out _ (HB5.out o) 3 _ rfl))
    | (go_at_call 17; refine (HSM.out _ _ _ _ (HB5.out _) (OZ.out.keep ((Below.refl V4.heap.size V4).alloc (Nat.le_refl _) _)).at_).mono ?_; clear HSM q0 q1 q2 q3; rintro e V5 ⟨rfl, hb⟩; have HB6 := Lib.hid ((HB5.out _).trans (hb.mono (HB5.out _).size)); have HS5 := Lib.hid ((HS4.out.alloc HS4.out.size _).trans (hb.mono (by have := HS4.out.size; simp; omega))); clear hb; have n6 : ¬ cb - 51 = 0 := (by omega))
    | (at_builtin; clear HK2; refine plain_append_bytes (.tmp 61) (.tmp 63) rfl rfl V5.heap.size _ [] hb2 ⟨gb, 51, none⟩ 44 (cb - 51) rfl rfl HHL.out (Own.empty2 V5 V5.heap.size V5.heap.size rfl (Nat.le_refl _)) (sb_mid (S3.out.below (HS5.out.alloc HS5.out.size _) (Nat.le_refl _)) HBY.out HHD.out) (by show 0 + 44 ≤ _; omega) (by simp) ?_; intro v2 U2 hO hG; rw [List.nil_append] at hO; have B2 := Lib.hid (((Below.refl V5.heap.size V5).alloc (Nat.le_refl _) _).trans (grew_below (Own.empty2 V5 V5.heap.size V5.heap.size rfl (Nat.le_refl _)) hG (Nat.le_refl _) (by simp))); obtain ⟨g12, c12, rfl, m1, m2, hs12⟩ := own_open hO HHB.out (by rw [HHL.out]; omega); rw [HHL.out] at hs12 m1 hO ⊢; have O2 := Lib.hid hO; obtain ⟨py, hpy⟩ : ∃ py, hb2[4]? = some py := ⟨_, List.getElem?_eq_getElem (by rw [HHL.out]; omega)⟩; have s3 : U2.cell? ⟨g12, 4, none⟩ = some (by8 py) := (by have := sb_cells hs12 HHB.out 4 py hpy; rwa [Own_add] at this); have s4 : U2.frozen? ⟨g12, 4, none⟩ = false := Own.loose hO HHL.out 4; have n7 : (4 : Int) < (c12 : Int) := (by omega); have G12 : Hid (V5.heap.size ≤ g12) := Lib.hid (hO.lt g12 rfl).1; unfold by8 at s3; clear hG hs12 m1 m2 hO hpy)
    | fail)
  have hoc := O2.out.stored HHL.out 4 0
  rw [HHS.out] at hoc
  have B3 := Lib.hid (B2.out.setCell (p := ⟨g12, 4, none⟩) G12.out (by8 0))
  have O3 := Lib.hid hoc
  clear hoc s3 s4
  go_loopw [12, 13] (fun u i wr => ∃ (k : Nat) (A : Option Addr) (n c : Nat), k ≤ z.times.length ∧ i = .int .i64 k ∧ u = .slice A n c ∧ Own wr V5.heap.size (.slice A n c) (headB (hd0 z) ++ times4 (z.times.take k)) ∧ (∀ t ∈ z.times.take k, -2147483648 ≤ t ∧ t ≤ 2147483647) ∧ Below V5.heap.size V5 wr) (fun _ i _ => z.times.length - (intOf i).toNat)
  case atStart => exact ⟨0, some ⟨g12, 0, none⟩, 44, c12, Nat.zero_le _, rfl, rfl, (by have := O3.out; unfold by8 at this; simpa [times4] using this), (fun t ht => by simp at ht), B3.out⟩
  case round =>
    obtain ⟨k, A, n, c, hk, rfl, rfl, hown, hall, hbw⟩ := hrel
    have OW := Lib.hid hown; have HALL := Lib.hid hall; have BW := Lib.hid hbw
    have HBW := Lib.hid (HB6.out.trans (hbw.mono HB6.out.size))
    have q1 := HC.out _ HBW.out 1 _ rfl
    clear hown hall hbw
    by_cases hlt : k < z.times.length
    · have hk0 : (0 : Int) ≤ (k : Int) := by omega
      have hk1 : (k : Int) < (z.times.length : Int) := by omega
      have hk4 : (k : Int) ≤ 4000 := by have := HN4.out; omega
      obtain ⟨x, hx⟩ : ∃ x, z.times[k]? = some x := ⟨_, List.getElem?_eq_getElem hlt⟩
      obtain ⟨g, off, c', hv, hg, hc⟩ := (HZ.out _ HBW.out).times.one hx
      injection hv with ea eb ec
      subst ea; subst ec
      have HX := Lib.hid hx
      have hxr := HTI.out x (List.mem_of_getElem? hx)
      clear eb hx
      by_cases hx1 : x < -2147483648
      · go_wp2_with (first
          | (go_at_call 9; refine (works_any _).mono ?_; rintro e V9 ⟨rfl, hb⟩; have HB9 := Lib.hid (HBW.out.trans (hb.mono HBW.out.size)); clear hb)
          | fail)
        go_ret
        exact ⟨rfl, HB0.out.trans (HB9.out.mono HB0.out.size)⟩
      · by_cases hx2 : 2147483648 ≤ x
        · go_wp2_with (first
            | (go_at_call 9; refine (works_any _).mono ?_; rintro e V9 ⟨rfl, hb⟩; have HB9 := Lib.hid (HBW.out.trans (hb.mono HBW.out.size)); clear hb)
            | fail)
          go_ret
          exact ⟨rfl, HB0.out.trans (HB9.out.mono HB0.out.size)⟩
        · go_wp2_with (first
            | (at_builtin; refine plain_append_bytes (.tmp 86) (.tmp 98) rfl rfl V5.heap.size _ _ [x / 16777216 % 256, x / 65536 % 256, x / 256 % 256, x % 256] ⟨wr.heap.size, 0, none⟩ 4 4 rfl rfl rfl (OW.out.alloc _) (four_cells wr _ _ _ _ _ _ rfl) (by rw [List.length_append, headB_len, times4_len, List.length_take]; have := HN4.out; omega) (by have := BW.out.size; simp; omega) ?_; intro v7 U7 hO hG; obtain ⟨A7, c7, e7⟩ := hO.form; generalize hn7 : (List.length _) = n7 at e7; subst e7; clear hn7; have O7 := Lib.hid hO; have B7 := Lib.hid (BW.out.trans (((Below.refl V5.heap.size wr).alloc BW.out.size _).trans (grew_below (OW.out.alloc _) hG (Nat.le_refl _) (by have := BW.out.size; simp; omega)))); clear hO hG)
            | fail)
          refine ⟨⟨k + 1, A7, n7, c7, hlt, by go_num, rfl, by have := O7.out; rw [take_one HX.out, times4_snoc, digs4_int, ← List.append_assoc]; exact this, fun t ht => ?_, B7.out⟩, by simp [intOf]; omega⟩
          rw [take_one HX.out] at ht
          rcases List.mem_append.1 ht with ht | ht
          · exact HALL.out t ht
          · rw [List.mem_singleton.1 ht]; omega
    · have hk1 : ¬ (k : Int) < (z.times.length : Int) := by omega
      obtain rfl : k = z.times.length := by omega
      obtain ⟨fr, hfr⟩ : ∃ fr, 95 + 8 * z.times.length = fr := ⟨_, rfl⟩
      have q3 := HC.out _ HBW.out 3 _ rfl
      have b0 := HLN.out
      have b1 : (95 : Int) + 8 * (z.times.length : Int) = (fr : Int) := by omega
      have b2 : (L : Int) - (z.footer.size : Int) - 2 = ((fr + rn : Nat) : Int) := by omega
      obtain ⟨tt, htt⟩ : ∃ tt, fr + rn = tt := ⟨_, rfl⟩
      rw [htt] at b2
      have b3 : (z.times.length : Int) ≤ 4000 := by have := HN4.out; omega
      have b4 : (fr : Int) ≤ (tt : Int) := by omega
      have b5 : (tt : Int) ≤ (cb : Int) := by omega
      have b6 : ¬ cb - fr = 0 := by omega
      have b7 : tt - fr = rn := by omega
      have b8 : (0 : Int) ≤ (fr : Int) := by omega
      have b9 : (z.footer.size : Int) ≤ 100000 := by omega
      have HRF : Hid ((pb.drop fr).take rn = rb) := Lib.hid (by rw [← hfr]; exact HRS.out)
      have e0 : z.times.take z.times.length = z.times := List.take_of_length_le (Nat.le_refl _)
      rw [e0] at OW HALL
      clear b0 hfr htt e0
      go_wp2_with (first
        | (at_builtin; refine plain_append_bytes (.tmp 105) (.tmp 115) rfl rfl V5.heap.size _ _ rb ⟨gb, fr, none⟩ rn (cb - fr) rfl rfl HRN.out OW.out (sb_mid (S3.out.below (HS5.out.trans (BW.out.mono HS5.out.size)) (Nat.le_refl _)) HBY.out HRF.out) (by rw [List.length_append, headB_len, times4_len]; have := HN4.out; have := HLN.out; omega) BW.out.size ?_; intro v8 U8 hO hG; obtain ⟨A8, c8, e8, hs8⟩ := own_sb hO (((headB_byt (show (hd0 z).version < 256 by show (0 : Nat) < 256; decide)).app (times4_byt _)).app HRB.out); generalize hn8 : (List.length _) = n8 at e8 hs8; subst e8; have S8 := Lib.hid hs8; have HB8 := Lib.hid (HBW.out.trans ((grew_below OW.out hG (Nat.le_refl _) BW.out.size).mono HB6.out.size)); clear hO hG hs8 hn8)
        | (go_at_call 19; refine (HP2.out HALL.out _ _ _ _ HB8.out S8.out).mono ?_; clear HP2; rintro e V9 ⟨ut, us, ui, rfl, hz, hb⟩; obtain ⟨Dt, et, rfl⟩ := hz.types.form; obtain ⟨Ds, es, rfl⟩ := hz.times.form; obtain ⟨Di, ei, rfl⟩ := hz.index.form; have HB9 := Lib.hid (HB8.out.trans (hb.mono HB8.out.size)); have HPV : Hid (w.heap.size < U8.heap.size) := Lib.hid (by have := HB8.out.size; have := HSZ.out; omega); have OZ9 := Lib.hid (hz.set (g := w.heap.size) (by have := HPV.out; omega) 3 (.string ⟨#[]⟩)); clear hb hz q1 q3; have q0 := HC.out _ HB9.out 0 _ rfl; have q1 := HC.out _ HB9.out 1 _ rfl; have q2 := HC.out _ HB9.out 2 _ rfl; have q3 := HC.out _ HB9.out 3 _ rfl; have FZ : Hid (∀ i, V9.frozen? ⟨w.heap.size, i, none⟩ = false) := Lib.hid (fun i => (HB9.out.frozen (p := ⟨w.heap.size, i, none⟩) (by show w.heap.size < W0.heap.size; rw [HSZ.out]; omega)).trans (HFZ.out i)); have fz := FZ.out 3; have HSZ9 : w.heap.size < V9.heap.size := (by have := HB9.out.size; have := HSZ.out; omega); have XF : Hid (∀ o, ZnBox ((V9.setCell ⟨w.heap.size, 3, none⟩ (.string ⟨#[]⟩)).alloc o) w.heap.size (.slice At z.types.length ct) (.slice As z.times.length cs) (.slice Ai z.index.length ci) (.string ⟨#[]⟩)) := Lib.hid (fun o => (ZnBox.set3 ⟨q0, q1, q2, q3, FZ.out, HSZ9⟩ (.string ⟨#[]⟩)).below ((Below.refl V9.heap.size _).alloc (by simp) o) HSZ9); have y0 : ∀ o, ((V9.setCell ⟨w.heap.size, 3, none⟩ (.string ⟨#[]⟩)).alloc o).cell? ⟨w.heap.size, 0, none⟩ = some (.slice At z.types.length ct) := (fun o => (XF.out o).c0); have y1 : ∀ o, ((V9.setCell ⟨w.heap.size, 3, none⟩ (.string ⟨#[]⟩)).alloc o).cell? ⟨w.heap.size, 1, none⟩ = some (.slice As z.times.length cs) := (fun o => (XF.out o).c1); have y2 : ∀ o, ((V9.setCell ⟨w.heap.size, 3, none⟩ (.string ⟨#[]⟩)).alloc o).cell? ⟨w.heap.size, 2, none⟩ = some (.slice Ai z.index.length ci) := (fun o => (XF.out o).c2); have y3 : ∀ o, ((V9.setCell ⟨w.heap.size, 3, none⟩ (.string ⟨#[]⟩)).alloc o).cell? ⟨w.heap.size, 3, none⟩ = some (.string ⟨#[]⟩) := (fun o => (XF.out o).c3); have BF := Lib.hid ((HB0.out.trans (HB9.out.mono (by rw [HSZ.out]; omega))).setCell (p := ⟨w.heap.size, 3, none⟩) (Nat.le_refl _) (.string ⟨#[]⟩)))
        | (go_at_call 17; refine (HSM2.out _ _ _ _ (OZ9.out.keep ((Below.refl _ _).alloc (Nat.le_refl _) _)).at_ ((H.out.below (BF.out.alloc BF.out.size _) HBB.out).rise (by have := BF.out.size; have := HBB.out; simp at *; omega))).mono ?_; clear HSM2 y0 y1 y2 y3; rintro e V10 ⟨rfl, hb⟩; have B10 := Lib.hid ((BF.out.alloc BF.out.size _).trans (hb.mono (by have := BF.out.size; simp at *; omega))); clear hb)
        | (go_at_call 9; refine (works_any _).mono ?_; rintro e V11 ⟨rfl, hb⟩; have B11 := Lib.hid (B10.out.trans (hb.mono B10.out.size)); clear hb)
        | fail)
      go_ret
      exact ⟨rfl, B11.out⟩
theorem cell_lt0 {w : World} {g i : Nat} {u : Value} (h : w.cell? ⟨g, i, none⟩ = some u) : g < w.heap.size := by
  rcases Nat.lt_or_ge g w.heap.size with h1 | h1
  · exact h1
  · have : w.heap[g]? = none := Array.getElem?_eq_none h1
    unfold World.cell? at h
    simp [this] at h
theorem tzifOld_any (z : Zn) (vt vs vi : Value) (at_ by_ m : Int) (w : World) (h : ZnAt w w.heap.size z vt vs vi) (hi : ZnIn z) (ha : 0 ≤ at_ ∧ at_ ≤ 65535) (hy : 0 ≤ by_ ∧ by_ ≤ 255) (h0 : w.cell? ⟨0, 0, none⟩ = some (.int .i64 m)) :
    Calls Try.prog 5 #[.agg #[vt, vs, vi, .string z.footer], .int .u16 at_, .int .u8 by_] w fun e w' => e = .returned (.bool true) ∧ Below w.heap.size w w' := by
  cases hf : fewZ z 300 with
  | false => exact old_a z vt vs vi w.heap.size at_ by_ w h (Nat.le_refl _) hf
  | true =>
    have ho := few_ok (fun t ht => (hi.types t ht).abbr) hi.footer (by decide) hf
    cases hr : rightZ z with
    | false => exact old_b z vt vs vi w.heap.size at_ by_ w h (Nat.le_refl _) hf ho hr
    | true => exact old_c z vt vs vi w.heap.size at_ by_ m w h (Nat.le_refl _) hf ho hr (fun t ht => ⟨(hi.times t ht).lo, (hi.times t ht).hi⟩) ha.1 ha.2 hy.1 hy.2 (cell_lt0 h0) h0
end Go.Proofs.Ytohpdpcjhmopbaa.Tz
