/-
  Layer 6 (tzif): the program's At, whole.
-/
import Derived.Test.YtljkcnoicdhchaaTzF
namespace Go.Proofs.Ytljkcnoicdhchaa.Tz
open Go.RowKit

theorem right_parts {z : Zn} (h : rightZ z = true) : rises z.times = true ∧ z.index.length = z.times.length := by
  unfold rightZ rightTms at h
  simp only [Bool.and_eq_true, decide_eq_true_eq] at h
  exact ⟨h.1.1.1.1.2.2, h.1.1.1.2⟩
set_option maxRecDepth 100000 in
set_option maxHeartbeats 4000000 in
theorem at_any (z : Zn) (vt vs vi : Value) (B : Nat) (sec : Int) (w : World) (h : ZnAt w B z vt vs vi) (ho : ZnOk z) (hB : B ≤ w.heap.size) : Calls Try.prog 15 #[.agg #[vt, vs, vi, .string z.footer], .int .i64 sec] w fun e w' => e = .returned (.int .i64 (atZ z sec)) ∧ Below w.heap.size w w' := by
  have H := Lib.hid h
  obtain ⟨At, ct, rfl⟩ := h.types.len
  obtain ⟨As, cs, rfl⟩ := h.times.len
  obtain ⟨Ai, ci, rfl⟩ := h.index.len
  clear h
  obtain ⟨w2, hw2⟩ : ∃ w2, (w.alloc (.cells #[.slice At z.types.length ct, .slice As z.times.length cs, .slice Ai z.index.length ci, .string z.footer] 26)).alloc (.cells #[.int .i64 sec] 2) = w2 := ⟨_, rfl⟩
  have hb2 : Below w.heap.size w w2 := by rw [← hw2]; exact ((Below.refl _ _).alloc (Nat.le_refl _) _).alloc (by simp) _
  have hsz : w2.heap.size = w.heap.size + 1 + 1 := by rw [← hw2]; simp
  have hz : ∀ i, w2.cell? ⟨w.heap.size, i, none⟩ = (#[.slice At z.types.length ct, .slice As z.times.length cs, .slice Ai z.index.length ci, .string z.footer] : Array Value)[i]? := fun i => by
    rw [← hw2]
    have h1 : Below (w.alloc (.cells #[.slice At z.types.length ct, .slice As z.times.length cs, .slice Ai z.index.length ci, .string z.footer] 26)).heap.size (w.alloc (.cells #[.slice At z.types.length ct, .slice As z.times.length cs, .slice Ai z.index.length ci, .string z.footer] 26)) ((w.alloc (.cells #[.slice At z.types.length ct, .slice As z.times.length cs, .slice Ai z.index.length ci, .string z.footer] 26)).alloc (.cells #[.int .i64 sec] 2)) := (Below.refl _ _).alloc (Nat.le_refl _) _
    exact (h1.cell (p := ⟨w.heap.size, i, none⟩) (by simp)).trans (World.cell?_alloc_mark w _ _ (0, 0) i)
  have hs : w2.cell? ⟨w.heap.size + 1, 0, none⟩ = some (.int .i64 sec) := by
    rw [← hw2]
    simp
  have z0 := hz 0; have z1 := hz 1; have z2 := hz 2; have z3 := hz 3
  simp only [List.getElem?_toArray, List.getElem?_cons_zero, List.getElem?_cons_succ] at z0 z1 z2 z3
  have HB2 := Lib.hid hb2
  have hG : w.heap.size < w2.heap.size := by omega
  have hS : w.heap.size + 1 < w2.heap.size := by omega
  have HG := Lib.hid hG; have HS := Lib.hid hS
  obtain ⟨r, hr⟩ : ∃ r, rightZ z = r := ⟨_, rfl⟩
  have HRT : Hid (Calls Try.prog 13 #[.agg #[.slice At z.types.length ct, .slice As z.times.length cs, .slice Ai z.index.length ci, .string z.footer]] w2 fun e V => e = .returned (.bool r) ∧ Below w2.heap.size w2 V) := by
    have := right_any z _ _ _ B w2 (H.out.below hb2 hB) ho (Nat.le_trans hB hb2.size)
    rw [hr] at this
    exact Lib.hid this
  have hsz1 : (w.alloc (.cells #[.slice At z.types.length ct, .slice As z.times.length cs, .slice Ai z.index.length ci, .string z.footer] 26)).heap.size = w.heap.size + 1 := by simp
  obtain ⟨G, hGe⟩ : ∃ G, w.heap.size = G := ⟨_, rfl⟩
  rw [hGe] at z0 z1 z2 z3 hs hsz1 HG HS
  cases r with
  | false =>
    have e : atZ z sec = 0 := by unfold atZ; rw [hr, if_neg (by simp)]
    rw [e]
    clear e hr hz hb2 hG hS hsz hsz1
    go_enter Try.func15, Try.ntmps15
    go_wp2_with (first
      | (go_at_call 13; refine HRT.out.mono ?_; clear HRT; rintro e V ⟨rfl, hb⟩; have HV := Lib.hid (HB2.out.trans (hb.mono HB2.out.size)); clear hb)
      | fail)
    go_ret
    exact ⟨rfl, HV.out⟩
  | true =>
    obtain ⟨hri, hle⟩ := right_parts hr
    obtain ⟨k, hk⟩ : ∃ k, begun z.times sec = k := ⟨_, rfl⟩
    have HK := Lib.hid hk
    have HSE : Hid (∀ V, Below w2.heap.size w2 V → V.cell? ⟨G, 1, none⟩ = some (.slice As z.times.length cs) → V.cell? ⟨G + 1, 0, none⟩ = some (.int .i64 sec) → Calls Try.prog 32 #[.int .i64 z.times.length, .func (.func 33) #[] #[.pointer (some ⟨G, 0, none⟩), .pointer (some ⟨G + 1, 0, none⟩)]] V fun e V' => (e = .returned (.int .i64 k) ∧ k ≤ z.times.length) ∧ ∃ m, V' = V.drewN m) := Lib.hid fun V hb y1 y0 => by
      refine (search_any z.times As cs G (G + 1) B sec V ((H.out.below HB2.out hB).times.below hb (Nat.le_trans hB HB2.out.size)) ho.times hri y1 y0).mono ?_
      rintro e V' ⟨⟨k', he, hkl, h1, h2⟩, hm⟩
      have e1 : k' = k := by rw [← HK.out]; exact (begun_is hkl h1 h2).symm
      subst e1
      exact ⟨⟨he, hkl⟩, hm⟩
    have HIF : Hid (∀ V, Below w2.heap.size w2 V → Calls Try.prog 34 #[.slice At z.types.length ct, .func (.func 35) #[] #[]] V fun e V' => e = .returned (.int .i64 (firstStd z.types)) ∧ Below V.heap.size V V') := Lib.hid fun V hb => index_any _ z.types B V ((H.out.below HB2.out hB).types.below hb (Nat.le_trans hB HB2.out.size)) (Nat.le_trans (Nat.le_trans hB HB2.out.size) hb.size) ho.types
    by_cases h0 : 0 < k
    · obtain ⟨j, rfl⟩ : ∃ j, k = j + 1 := ⟨k - 1, by omega⟩
      have hkl : j + 1 ≤ z.times.length := by
        rw [← hk]
        unfold begun
        exact (List.takeWhile_sublist _).length_le
      obtain ⟨x, hx⟩ : ∃ x, z.index[j]? = some x := ⟨_, List.getElem?_eq_getElem (by omega)⟩
      have e : atZ z sec = x := by
        unfold atZ
        rw [hr, if_pos rfl, hk, if_pos (by omega), Nat.add_sub_cancel, hx]; rfl
      rw [e]
      obtain ⟨g, off, c', hv, hg, c0⟩ := (H.out.below HB2.out hB).index.one hx
      injection hv with e1 _ e3
      subst e1; subst e3
      have hlen := ho.index
      have hj0 : (0 : Int) ≤ (j : Int) := by omega
      have hj1 : (j : Int) < (z.index.length : Int) := by omega
      have hj2 : ((j + 1 : Nat) : Int) - 1 = (j : Int) := by omega
      have hj3 : (0 : Int) < ((j + 1 : Nat) : Int) := by omega
      have hg2 : g < w2.heap.size := Nat.lt_of_lt_of_le hg (Nat.le_trans hB HB2.out.size)
      have HG2 := Lib.hid hg2
      clear e hr hz hb2 hG hS hsz hsz1 hk hri hle h0 hx hkl hg hg2
      go_enter Try.func15, Try.ntmps15
      go_wp2_with (first
        | (go_at_call 13; refine HRT.out.mono ?_; clear HRT; rintro e V ⟨rfl, hb⟩; have HV := Lib.hid hb; have y0 := (hb.cell (p := ⟨G, 0, none⟩) HG.out).trans z0; have y1 := (hb.cell (p := ⟨G, 1, none⟩) HG.out).trans z1; have y2 := (hb.cell (p := ⟨G, 2, none⟩) HG.out).trans z2; have ys := (hb.cell (p := ⟨G + 1, 0, none⟩) HS.out).trans hs; have yx := (hb.cell (p := ⟨g, off + j, none⟩) HG2.out).trans c0; clear hb)
        | (go_at_call 32; refine (HSE.out _ HV.out y1 ys).mono ?_; clear HSE; rintro e V2 ⟨⟨rfl, _⟩, m, rfl⟩)
        | fail)
      go_ret
      have HV3 := HB2.out.trans ((drewN_below HV.out m).mono HB2.out.size)
      exact ⟨rfl, by first | exact HV3 | (rw [← hGe]; exact HV3)⟩
    · obtain rfl : k = 0 := by omega
      obtain ⟨F, hF⟩ : ∃ F, firstStd z.types = F := ⟨_, rfl⟩
      have e : atZ z sec = max F 0 := by unfold atZ; rw [hr, if_pos rfl, hk, if_neg (by omega), hF]
      rw [e]
      rw [hF] at HIF
      clear e hr hz hb2 hG hS hsz hsz1 hk hri hle hF h0
      rcases Int.lt_trichotomy F 0 with hf | rfl | hf
      · have e0 : max F 0 = 0 := by omega
        rw [e0]
        clear e0
        have f1 : ¬ 0 < F := by omega
        have f2 : ¬ 0 ≤ F := by omega
        have f3 : F ≤ 0 := by omega
        go_enter Try.func15, Try.ntmps15
        go_wp2_with (first
          | (go_at_call 13; refine HRT.out.mono ?_; clear HRT; rintro e V ⟨rfl, hb⟩; have HV := Lib.hid hb; have y0 := (hb.cell (p := ⟨G, 0, none⟩) HG.out).trans z0; have y1 := (hb.cell (p := ⟨G, 1, none⟩) HG.out).trans z1; have y2 := (hb.cell (p := ⟨G, 2, none⟩) HG.out).trans z2; have ys := (hb.cell (p := ⟨G + 1, 0, none⟩) HS.out).trans hs; clear hb)
          | (go_at_call 32; refine (HSE.out _ HV.out y1 ys).mono ?_; clear HSE; rintro e V2 ⟨⟨rfl, _⟩, m, rfl⟩)
          | (go_at_call 34; refine (HIF.out _ (drewN_below HV.out m)).mono ?_; clear HIF; rintro e V3 ⟨rfl, hb3⟩; have HV3 := Lib.hid ((HB2.out.trans ((drewN_below HV.out m).mono HB2.out.size)).trans (hb3.mono (Nat.le_trans HB2.out.size HV.out.size))); clear hb3)
          | fail)
        go_ret
        exact ⟨rfl, by first | exact HV3.out | (rw [← hGe]; exact HV3.out)⟩
      · rw [show max (0 : Int) 0 = 0 from rfl]
        go_enter Try.func15, Try.ntmps15
        go_wp2_with (first
          | (go_at_call 13; refine HRT.out.mono ?_; clear HRT; rintro e V ⟨rfl, hb⟩; have HV := Lib.hid hb; have y0 := (hb.cell (p := ⟨G, 0, none⟩) HG.out).trans z0; have y1 := (hb.cell (p := ⟨G, 1, none⟩) HG.out).trans z1; have y2 := (hb.cell (p := ⟨G, 2, none⟩) HG.out).trans z2; have ys := (hb.cell (p := ⟨G + 1, 0, none⟩) HS.out).trans hs; clear hb)
          | (go_at_call 32; refine (HSE.out _ HV.out y1 ys).mono ?_; clear HSE; rintro e V2 ⟨⟨rfl, _⟩, m, rfl⟩)
          | (go_at_call 34; refine (HIF.out _ (drewN_below HV.out m)).mono ?_; clear HIF; rintro e V3 ⟨rfl, hb3⟩; have HV3 := Lib.hid ((HB2.out.trans ((drewN_below HV.out m).mono HB2.out.size)).trans (hb3.mono (Nat.le_trans HB2.out.size HV.out.size))); clear hb3)
          | fail)
        go_ret
        exact ⟨rfl, by first | exact HV3.out | (rw [← hGe]; exact HV3.out)⟩
      · have e0 : max F 0 = F := by omega
        rw [e0]
        clear e0
        have f1 : ¬ F < 0 := by omega
        have f2 : ¬ F ≤ 0 := by omega
        have f3 : 0 ≤ F := by omega
        go_enter Try.func15, Try.ntmps15
        go_wp2_with (first
          | (go_at_call 13; refine HRT.out.mono ?_; clear HRT; rintro e V ⟨rfl, hb⟩; have HV := Lib.hid hb; have y0 := (hb.cell (p := ⟨G, 0, none⟩) HG.out).trans z0; have y1 := (hb.cell (p := ⟨G, 1, none⟩) HG.out).trans z1; have y2 := (hb.cell (p := ⟨G, 2, none⟩) HG.out).trans z2; have ys := (hb.cell (p := ⟨G + 1, 0, none⟩) HS.out).trans hs; clear hb)
          | (go_at_call 32; refine (HSE.out _ HV.out y1 ys).mono ?_; clear HSE; rintro e V2 ⟨⟨rfl, _⟩, m, rfl⟩)
          | (go_at_call 34; refine (HIF.out _ (drewN_below HV.out m)).mono ?_; clear HIF; rintro e V3 ⟨rfl, hb3⟩; have HV3 := Lib.hid ((HB2.out.trans ((drewN_below HV.out m).mono HB2.out.size)).trans (hb3.mono (Nat.le_trans HB2.out.size HV.out.size))); clear hb3)
          | fail)
        go_ret
        exact ⟨rfl, by first | exact HV3.out | (rw [← hGe]; exact HV3.out)⟩
end Go.Proofs.Ytljkcnoicdhchaa.Tz
