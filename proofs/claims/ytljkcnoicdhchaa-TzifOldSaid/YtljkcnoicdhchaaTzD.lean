/-
  Layer 6 (tzif): the program's Right of a zone (written by gen_right6.py).
-/
import Derived.Test.YtljkcnoicdhchaaTzC
namespace Go.Proofs.Ytljkcnoicdhchaa.Tz
open Go.RowKit

/-- A zone by value, its slices in blocks below B. -/
structure ZnAt (w : World) (B : Nat) (z : Zn) (vt vs vi : Value) : Prop where
  types : Sl w B 3 vt (z.types.map tyCells)
  times : Sl w B 1 vs (z.times.map intCells)
  index : Sl w B 1 vi (z.index.map intCells)
theorem ZnAt.below {w w' : World} {B C : Nat} {z : Zn} {vt vs vi : Value} (h : ZnAt w B z vt vs vi) (hb : Below C w w') (hB : B ≤ C) : ZnAt w' B z vt vs vi := ⟨h.types.below hb hB, h.times.below hb hB, h.index.below hb hB⟩
structure ZnOk (z : Zn) : Prop where
  types : z.types.length ≤ 1000000
  times : z.times.length ≤ 1000000
  index : z.index.length ≤ 1000000
  abbr : ∀ t ∈ z.types, t.abbr.size ≤ 9223372036854775807
  footer : z.footer.size ≤ 9223372036854775807
theorem drewN_below {B : Nat} {w V : World} (h : Below B w V) : ∀ n : Nat, Below B w (V.drewN n)
  | _ => ⟨h.os, h.tape, h.output, h.size, h.block⟩
set_option maxRecDepth 100000 in
set_option maxHeartbeats 4000000 in
theorem right_any (z : Zn) (vt vs vi : Value) (B : Nat) (w : World) (h : ZnAt w B z vt vs vi) (ho : ZnOk z) (hB : B ≤ w.heap.size) : Calls Try.prog 13 #[.agg #[vt, vs, vi, .string z.footer]] w fun e w' => e = .returned (.bool (rightZ z)) ∧ Below w.heap.size w w' := by
  obtain ⟨b1, h1⟩ : ∃ b, rightTys z.types = b := ⟨_, rfl⟩
  obtain ⟨b2, h2⟩ : ∃ b, rightTms z.times = b := ⟨_, rfl⟩
  obtain ⟨b4, h4⟩ : ∃ b, rightIdx z.index z.types.length = b := ⟨_, rfl⟩
  obtain ⟨b6, h6⟩ : ∃ b, onlyB z.footer 32 = b := ⟨_, rfl⟩
  have hR : rightZ z = (b1 && b2 && decide (z.index.length = z.times.length) && b4 && decide (z.footer.size ≤ 100) && b6) := by unfold rightZ; rw [h1, h2, h4, h6]
  have HR1 : Hid (∀ V, Below w.heap.size w V → Calls Try.prog 26 #[vt] V fun e V' => e = .returned (.bool b1) ∧ Below V.heap.size V V') := Lib.hid fun V hb => by
    have := rightTys_any vt z.types B V (h.types.below hb hB) (Nat.le_trans hB hb.size) ho.types ho.abbr
    rwa [h1] at this
  have HR2 : Hid (∀ V, Below w.heap.size w V → Calls Try.prog 27 #[vs] V fun e V' => e = .returned (.bool b2) ∧ ∃ m, V' = V.drewN m) := Lib.hid fun V hb => by
    have := rightTms_any vs z.times B V (h.times.below hb hB) ho.times
    rwa [h2] at this
  have HR4 : Hid (∀ V, Below w.heap.size w V → Calls Try.prog 28 #[vi, .int .i64 z.types.length] V fun e V' => e = .returned (.bool b4) ∧ V = V') := Lib.hid fun V hb => by
    have := rightIdx_any vi z.index z.types.length B V (h.index.below hb hB) ho.index ⟨by omega, by have := ho.types; omega⟩
    rwa [h4] at this
  have HR6 : Hid (∀ V, Calls Try.prog 29 #[.string z.footer, .int .u8 32] V fun e V' => e = .returned (.bool b6) ∧ V = V') := Lib.hid fun V => by
    have := hasOnly_any z.footer 32 V ho.footer
    rwa [h6] at this
  obtain ⟨At, ct, rfl⟩ := h.types.len
  obtain ⟨As, cs, rfl⟩ := h.times.len
  obtain ⟨Ai, ci, rfl⟩ := h.index.len
  rw [hR]
  clear hR h1 h2 h4 h6 h ho hB
  have z0 := World.cell?_alloc_mark w #[.slice At z.types.length ct, .slice As z.times.length cs, .slice Ai z.index.length ci, .string z.footer] 26 (0, 0) 0
  have z1 := World.cell?_alloc_mark w #[.slice At z.types.length ct, .slice As z.times.length cs, .slice Ai z.index.length ci, .string z.footer] 26 (0, 0) 1
  have z2 := World.cell?_alloc_mark w #[.slice At z.types.length ct, .slice As z.times.length cs, .slice Ai z.index.length ci, .string z.footer] 26 (0, 0) 2
  have z3 := World.cell?_alloc_mark w #[.slice At z.types.length ct, .slice As z.times.length cs, .slice Ai z.index.length ci, .string z.footer] 26 (0, 0) 3
  have HB0 : Hid (Below w.heap.size w (w.alloc (.cells #[.slice At z.types.length ct, .slice As z.times.length cs, .slice Ai z.index.length ci, .string z.footer] 26))) := Lib.hid ((Below.refl _ _).alloc (Nat.le_refl _) _)
  have HLT : Hid (w.heap.size < (w.alloc (.cells #[.slice At z.types.length ct, .slice As z.times.length cs, .slice Ai z.index.length ci, .string z.footer] 26)).heap.size) := Lib.hid (by simp)
  simp only [List.getElem?_toArray, List.getElem?_cons_zero, List.getElem?_cons_succ] at z0 z1 z2 z3
  cases b1 with
  | false =>
    rw [show (false && b2 && decide (z.index.length = z.times.length) && b4 && decide (z.footer.size ≤ 100) && b6) = false from by simp]
    go_enter Try.func13, Try.ntmps13
    go_wp2_with (first
      | (go_at_call 26; refine (HR1.out _ HB0.out).mono ?_; clear HR1; rintro e V1 ⟨rfl, hb1⟩; have HB1 := Lib.hid (HB0.out.trans (hb1.mono HB0.out.size)); have k0 := (hb1.cell (p := ⟨w.heap.size, 0, none⟩) HLT.out).trans z0; have k1 := (hb1.cell (p := ⟨w.heap.size, 1, none⟩) HLT.out).trans z1; have k2 := (hb1.cell (p := ⟨w.heap.size, 2, none⟩) HLT.out).trans z2; have k3 := (hb1.cell (p := ⟨w.heap.size, 3, none⟩) HLT.out).trans z3; clear hb1)
      | fail)
    go_ret
    exact ⟨rfl, HB1.out⟩
  | true =>
    cases b2 with
    | false =>
      rw [show (true && false && decide (z.index.length = z.times.length) && b4 && decide (z.footer.size ≤ 100) && b6) = false from by simp]
      go_enter Try.func13, Try.ntmps13
      go_wp2_with (first
        | (go_at_call 26; refine (HR1.out _ HB0.out).mono ?_; clear HR1; rintro e V1 ⟨rfl, hb1⟩; have HB1 := Lib.hid (HB0.out.trans (hb1.mono HB0.out.size)); have k0 := (hb1.cell (p := ⟨w.heap.size, 0, none⟩) HLT.out).trans z0; have k1 := (hb1.cell (p := ⟨w.heap.size, 1, none⟩) HLT.out).trans z1; have k2 := (hb1.cell (p := ⟨w.heap.size, 2, none⟩) HLT.out).trans z2; have k3 := (hb1.cell (p := ⟨w.heap.size, 3, none⟩) HLT.out).trans z3; clear hb1)
        | (go_at_call 27; refine (HR2.out _ HB1.out).mono ?_; clear HR2; rintro e V2 ⟨rfl, m, rfl⟩; have HB2 := Lib.hid (drewN_below HB1.out m))
        | fail)
      go_ret
      exact ⟨rfl, HB2.out⟩
    | true =>
      by_cases he : z.index.length = z.times.length
      · have hei : (z.index.length : Int) = (z.times.length : Int) := by rw [he]
        have hej : decide ((z.index.length : Int) = (z.times.length : Int)) = true := by simp [he]
        cases b4 with
        | false =>
          rw [show (true && true && decide (z.index.length = z.times.length) && false && decide (z.footer.size ≤ 100) && b6) = false from by simp]
          clear he
          go_enter Try.func13, Try.ntmps13
          go_wp2_with (first
            | (go_at_call 26; refine (HR1.out _ HB0.out).mono ?_; clear HR1; rintro e V1 ⟨rfl, hb1⟩; have HB1 := Lib.hid (HB0.out.trans (hb1.mono HB0.out.size)); have k0 := (hb1.cell (p := ⟨w.heap.size, 0, none⟩) HLT.out).trans z0; have k1 := (hb1.cell (p := ⟨w.heap.size, 1, none⟩) HLT.out).trans z1; have k2 := (hb1.cell (p := ⟨w.heap.size, 2, none⟩) HLT.out).trans z2; have k3 := (hb1.cell (p := ⟨w.heap.size, 3, none⟩) HLT.out).trans z3; clear hb1)
            | (go_at_call 27; refine (HR2.out _ HB1.out).mono ?_; clear HR2; rintro e V2 ⟨rfl, m, rfl⟩; have HB2 := Lib.hid (drewN_below HB1.out m))
            | (go_at_call 28; refine (HR4.out _ HB2.out).mono ?_; clear HR4; rintro e V4 ⟨rfl, rfl⟩)
            | fail)
          go_ret
          exact ⟨rfl, HB2.out⟩
        | true =>
          by_cases h100 : z.footer.size ≤ 100
          · have hfi : (z.footer.size : Int) ≤ 100 := by omega
            rw [show (true && true && decide (z.index.length = z.times.length) && true && decide (z.footer.size ≤ 100) && b6) = b6 from by simp [he, h100]]
            clear he
            cases b6 with
            | false =>
              go_enter Try.func13, Try.ntmps13
              go_wp2_with (first
                | (go_at_call 26; refine (HR1.out _ HB0.out).mono ?_; clear HR1; rintro e V1 ⟨rfl, hb1⟩; have HB1 := Lib.hid (HB0.out.trans (hb1.mono HB0.out.size)); have k0 := (hb1.cell (p := ⟨w.heap.size, 0, none⟩) HLT.out).trans z0; have k1 := (hb1.cell (p := ⟨w.heap.size, 1, none⟩) HLT.out).trans z1; have k2 := (hb1.cell (p := ⟨w.heap.size, 2, none⟩) HLT.out).trans z2; have k3 := (hb1.cell (p := ⟨w.heap.size, 3, none⟩) HLT.out).trans z3; clear hb1)
                | (go_at_call 27; refine (HR2.out _ HB1.out).mono ?_; clear HR2; rintro e V2 ⟨rfl, m, rfl⟩; have HB2 := Lib.hid (drewN_below HB1.out m))
                | (go_at_call 28; refine (HR4.out _ HB2.out).mono ?_; clear HR4; rintro e V4 ⟨rfl, rfl⟩)
                | (go_at_call 29; refine (HR6.out _).mono ?_; clear HR6; rintro e V6 ⟨rfl, rfl⟩)
                | fail)
              go_ret
              exact ⟨rfl, HB2.out⟩
            | true =>
              go_enter Try.func13, Try.ntmps13
              go_wp2_with (first
                | (go_at_call 26; refine (HR1.out _ HB0.out).mono ?_; clear HR1; rintro e V1 ⟨rfl, hb1⟩; have HB1 := Lib.hid (HB0.out.trans (hb1.mono HB0.out.size)); have k0 := (hb1.cell (p := ⟨w.heap.size, 0, none⟩) HLT.out).trans z0; have k1 := (hb1.cell (p := ⟨w.heap.size, 1, none⟩) HLT.out).trans z1; have k2 := (hb1.cell (p := ⟨w.heap.size, 2, none⟩) HLT.out).trans z2; have k3 := (hb1.cell (p := ⟨w.heap.size, 3, none⟩) HLT.out).trans z3; clear hb1)
                | (go_at_call 27; refine (HR2.out _ HB1.out).mono ?_; clear HR2; rintro e V2 ⟨rfl, m, rfl⟩; have HB2 := Lib.hid (drewN_below HB1.out m))
                | (go_at_call 28; refine (HR4.out _ HB2.out).mono ?_; clear HR4; rintro e V4 ⟨rfl, rfl⟩)
                | (go_at_call 29; refine (HR6.out _).mono ?_; clear HR6; rintro e V6 ⟨rfl, rfl⟩)
                | fail)
              go_ret
              exact ⟨rfl, HB2.out⟩
          · have hfi : ¬ (z.footer.size : Int) ≤ 100 := by omega
            rw [show (true && true && decide (z.index.length = z.times.length) && true && decide (z.footer.size ≤ 100) && b6) = false from by simp [h100]]
            clear he
            go_enter Try.func13, Try.ntmps13
            go_wp2_with (first
              | (go_at_call 26; refine (HR1.out _ HB0.out).mono ?_; clear HR1; rintro e V1 ⟨rfl, hb1⟩; have HB1 := Lib.hid (HB0.out.trans (hb1.mono HB0.out.size)); have k0 := (hb1.cell (p := ⟨w.heap.size, 0, none⟩) HLT.out).trans z0; have k1 := (hb1.cell (p := ⟨w.heap.size, 1, none⟩) HLT.out).trans z1; have k2 := (hb1.cell (p := ⟨w.heap.size, 2, none⟩) HLT.out).trans z2; have k3 := (hb1.cell (p := ⟨w.heap.size, 3, none⟩) HLT.out).trans z3; clear hb1)
              | (go_at_call 27; refine (HR2.out _ HB1.out).mono ?_; clear HR2; rintro e V2 ⟨rfl, m, rfl⟩; have HB2 := Lib.hid (drewN_below HB1.out m))
              | (go_at_call 28; refine (HR4.out _ HB2.out).mono ?_; clear HR4; rintro e V4 ⟨rfl, rfl⟩)
              | fail)
            go_ret
            exact ⟨rfl, HB2.out⟩
      · have hei : ¬ (z.index.length : Int) = (z.times.length : Int) := by omega
        have hej : decide ((z.index.length : Int) = (z.times.length : Int)) = false := decide_eq_false hei
        rw [show (true && true && decide (z.index.length = z.times.length) && b4 && decide (z.footer.size ≤ 100) && b6) = false from by simp [he]]
        go_enter Try.func13, Try.ntmps13
        go_wp2_with (first
          | (go_at_call 26; refine (HR1.out _ HB0.out).mono ?_; clear HR1; rintro e V1 ⟨rfl, hb1⟩; have HB1 := Lib.hid (HB0.out.trans (hb1.mono HB0.out.size)); have k0 := (hb1.cell (p := ⟨w.heap.size, 0, none⟩) HLT.out).trans z0; have k1 := (hb1.cell (p := ⟨w.heap.size, 1, none⟩) HLT.out).trans z1; have k2 := (hb1.cell (p := ⟨w.heap.size, 2, none⟩) HLT.out).trans z2; have k3 := (hb1.cell (p := ⟨w.heap.size, 3, none⟩) HLT.out).trans z3; clear hb1)
          | (go_at_call 27; refine (HR2.out _ HB1.out).mono ?_; clear HR2; rintro e V2 ⟨rfl, m, rfl⟩; have HB2 := Lib.hid (drewN_below HB1.out m))
          | fail)
        go_ret
        exact ⟨rfl, HB2.out⟩
end Go.Proofs.Ytljkcnoicdhchaa.Tz
