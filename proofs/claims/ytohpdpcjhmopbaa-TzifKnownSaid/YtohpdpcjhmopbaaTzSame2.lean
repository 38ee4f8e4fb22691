/-
  Layer 6 (tzif): Same of two zones (written by gen_same6.py).
-/
import Derived.Test.YtohpdpcjhmopbaaTzSame
namespace Go.Proofs.Ytohpdpcjhmopbaa.Tz
open Go.RowKit

def sameZ (a b : Zn) : Bool := eqL eqT a.types b.types && eqL eqI a.times b.times && eqL eqI a.index b.index && decide (a.footer = b.footer)
set_option maxRecDepth 100000 in
set_option maxHeartbeats 4000000 in
theorem same_any (a b : Zn) (ua us ui va vs vi : Value) (B : Nat) (w : World) (ha : ZnAt w B a ua us ui) (hb : ZnAt w B b va vs vi) (la : ZnOk a) (hB : B ≤ w.heap.size) : Calls Try.prog 17 #[.agg #[ua, us, ui, .string a.footer], .agg #[va, vs, vi, .string b.footer]] w fun e w' => e = .returned (.bool (sameZ a b)) ∧ Below w.heap.size w w' := by
  obtain ⟨A1, c1, rfl⟩ := ha.types.len
  obtain ⟨A2, c2, rfl⟩ := ha.times.len
  obtain ⟨A3, c3, rfl⟩ := ha.index.len
  obtain ⟨B1, e1, rfl⟩ := hb.types.len
  obtain ⟨B2, e2, rfl⟩ := hb.times.len
  obtain ⟨B3, e3, rfl⟩ := hb.index.len
  obtain ⟨G, hG⟩ : ∃ G, w.heap.size = G := ⟨_, rfl⟩
  obtain ⟨W0, hW0⟩ : ∃ W0, (w.alloc (.cells #[.slice A1 a.types.length c1, .slice A2 a.times.length c2, .slice A3 a.index.length c3, .string a.footer] 26)).alloc (.cells #[.slice B1 b.types.length e1, .slice B2 b.times.length e2, .slice B3 b.index.length e3, .string b.footer] 26) = W0 := ⟨_, rfl⟩
  have HB0 : Hid (Below G w W0) := Lib.hid (by rw [← hW0, ← hG]; exact ((Below.refl _ _).alloc (Nat.le_refl _) _).alloc (by simp) _)
  have HG0 : Hid (G ≤ W0.heap.size) := Lib.hid (by rw [← hG]; exact HB0.out.size)
  have HXA : Hid (ZnBox W0 G (.slice A1 a.types.length c1) (.slice A2 a.times.length c2) (.slice A3 a.index.length c3) (.string a.footer)) := Lib.hid (by
    rw [← hW0]
    exact (ZnBox.new w G hG _ _ _ _ _).below ((Below.refl (G + 1) _).alloc (by simp [hG]) _) (Nat.lt_succ_self _))
  have HXB : Hid (ZnBox W0 (G + 1) (.slice B1 b.types.length e1) (.slice B2 b.times.length e2) (.slice B3 b.index.length e3) (.string b.footer)) := Lib.hid (by
    rw [← hW0]
    exact ZnBox.new _ (G + 1) (by simp [hG]) _ _ _ _ _)
  have HA : Hid (ZnAt W0 B a (.slice A1 a.types.length c1) (.slice A2 a.times.length c2) (.slice A3 a.index.length c3)) := Lib.hid (ha.below HB0.out (by omega))
  have HB : Hid (ZnAt W0 B b (.slice B1 b.types.length e1) (.slice B2 b.times.length e2) (.slice B3 b.index.length e3)) := Lib.hid (hb.below HB0.out (by omega))
  obtain ⟨r, hr⟩ : ∃ r, sameZ a b = r := ⟨_, rfl⟩
  rw [hr]
  have HR := Lib.hid hr
  have p0 := HXA.out.c0; have p1 := HXA.out.c1; have p2 := HXA.out.c2; have p3 := HXA.out.c3
  have q0 := HXB.out.c0; have q1 := HXB.out.c1; have q2 := HXB.out.c2; have q3 := HXB.out.c3
  clear hr ha hb
  rw [hG]
  obtain ⟨r1, h1⟩ : ∃ r1, eqL eqT a.types b.types = r1 := ⟨_, rfl⟩
  obtain ⟨r2, h2⟩ : ∃ r2, eqL eqI a.times b.times = r2 := ⟨_, rfl⟩
  obtain ⟨r3, h3⟩ : ∃ r3, eqL eqI a.index b.index = r3 := ⟨_, rfl⟩
  have HQ1 : Hid (Calls Try.prog 36 #[.slice A1 a.types.length c1, .slice B1 b.types.length e1] W0 fun e w' => e = .returned (.bool r1) ∧ ∃ m, w' = W0.drewN m) := Lib.hid (by
    have := equalT_any _ _ a.types b.types B W0 HA.out.types HB.out.types la.types
    rwa [h1] at this)
  have HQ2 : Hid (∀ m, Calls Try.prog 37 #[.slice A2 a.times.length c2, .slice B2 b.times.length e2] (W0.drewN m) fun e w' => e = .returned (.bool r2) ∧ ∃ k, w' = (W0.drewN m).drewN k) := Lib.hid fun m => by
    have hb := drewN_below (Below.refl W0.heap.size W0) m
    have hs : B ≤ W0.heap.size := by have := HB0.out.size; omega
    have := equalI_any _ _ a.times b.times B (W0.drewN m) (HA.out.below hb hs).times (HB.out.below hb hs).times la.times
    rwa [h2] at this
  have HQ3 : Hid (∀ m, Calls Try.prog 38 #[.slice A3 a.index.length c3, .slice B3 b.index.length e3] (W0.drewN m) fun e w' => e = .returned (.bool r3) ∧ ∃ k, w' = (W0.drewN m).drewN k) := Lib.hid fun m => by
    have hb := drewN_below (Below.refl W0.heap.size W0) m
    have hs : B ≤ W0.heap.size := by have := HB0.out.size; omega
    have := equalN_any _ _ a.index b.index B (W0.drewN m) (HA.out.below hb hs).index (HB.out.below hb hs).index la.index
    rwa [h3] at this
  have H1 := Lib.hid h1; have H2 := Lib.hid h2; have H3 := Lib.hid h3
  clear h1 h2 h3
  cases r1 with
  | false =>
    go_enter Try.func17, Try.ntmps17
    go_wp2_with (first
      | (go_at_call 36; refine HQ1.out.mono ?_; clear HQ1; rintro e V1 ⟨rfl, m1, rfl⟩)
      | fail)
    go_ret
    exact ⟨by rw [← HR.out, show sameZ a b = false from by unfold sameZ; rw [H1.out]; simp]; rfl, HB0.out.trans ((drewN_below (Below.refl W0.heap.size W0) m1).mono HG0.out)⟩
  | true =>
    cases r2 with
    | false =>
      go_enter Try.func17, Try.ntmps17
      go_wp2_with (first
        | (go_at_call 36; refine HQ1.out.mono ?_; clear HQ1; rintro e V1 ⟨rfl, m1, rfl⟩)
        | (go_at_call 37; refine (HQ2.out _).mono ?_; clear HQ2; rintro e V2 ⟨rfl, m2, rfl⟩)
        | fail)
      go_ret
      exact ⟨by rw [← HR.out, show sameZ a b = false from by unfold sameZ; rw [H1.out, H2.out]; simp]; rfl, HB0.out.trans ((drewN_below (Below.refl W0.heap.size W0) _).mono HG0.out)⟩
    | true =>
      cases r3 with
      | false =>
        go_enter Try.func17, Try.ntmps17
        go_wp2_with (first
          | (go_at_call 36; refine HQ1.out.mono ?_; clear HQ1; rintro e V1 ⟨rfl, m1, rfl⟩)
          | (go_at_call 37; refine (HQ2.out _).mono ?_; clear HQ2; rintro e V2 ⟨rfl, m2, rfl⟩)
          | (go_at_call 38; refine (HQ3.out _).mono ?_; clear HQ3; rintro e V3 ⟨rfl, m3, rfl⟩)
          | fail)
        go_ret
        exact ⟨by rw [← HR.out, show sameZ a b = false from by unfold sameZ; rw [H1.out, H2.out, H3.out]; simp]; rfl, HB0.out.trans ((drewN_below (Below.refl W0.heap.size W0) _).mono HG0.out)⟩
      | true =>
        by_cases hf : a.footer = b.footer
        · have HFF := Lib.hid hf
          rw [← hf] at q3
          clear hf
          go_enter Try.func17, Try.ntmps17
          go_wp2_with (first
            | (go_at_call 36; refine HQ1.out.mono ?_; clear HQ1; rintro e V1 ⟨rfl, m1, rfl⟩)
            | (go_at_call 37; refine (HQ2.out _).mono ?_; clear HQ2; rintro e V2 ⟨rfl, m2, rfl⟩)
            | (go_at_call 38; refine (HQ3.out _).mono ?_; clear HQ3; rintro e V3 ⟨rfl, m3, rfl⟩)
            | fail)
          go_ret
          exact ⟨by rw [← HR.out, show sameZ a b = true from by unfold sameZ; rw [H1.out, H2.out, H3.out]; simp [HFF.out]]; rfl, HB0.out.trans ((drewN_below (Below.refl W0.heap.size W0) _).mono HG0.out)⟩
        · have HFF := Lib.hid hf
          have b1 := toList_ne hf
          have b3 : (a.footer.toList == b.footer.toList) = false := by simpa using b1
          clear hf
          go_enter Try.func17, Try.ntmps17
          go_wp2_with (first
            | (go_at_call 36; refine HQ1.out.mono ?_; clear HQ1; rintro e V1 ⟨rfl, m1, rfl⟩)
            | (go_at_call 37; refine (HQ2.out _).mono ?_; clear HQ2; rintro e V2 ⟨rfl, m2, rfl⟩)
            | (go_at_call 38; refine (HQ3.out _).mono ?_; clear HQ3; rintro e V3 ⟨rfl, m3, rfl⟩)
            | fail)
          go_ret
          exact ⟨by rw [← HR.out, show sameZ a b = false from by unfold sameZ; rw [H1.out, H2.out, H3.out]; simp [HFF.out]]; rfl, HB0.out.trans ((drewN_below (Below.refl W0.heap.size W0) _).mono HG0.out)⟩
set_option maxRecDepth 100000 in
set_option maxHeartbeats 8000000 in
theorem rsame_any (a b : Zn) (ua us ui va vs vi : Value) (B : Nat) (w : World) (ha : ZnAt w B a ua us ui) (hb : ZnAt w B b va vs vi) (la : ZnOk a) (hB : B ≤ w.heap.size) : Calls Try.prog 18 #[.agg #[ua, us, ui, .string a.footer], .agg #[va, vs, vi, .string b.footer]] w fun e w' => e = .returned (.bool (sameZ a b)) ∧ Below w.heap.size w w' := by
  obtain ⟨A1, c1, rfl⟩ := ha.types.len
  obtain ⟨A2, c2, rfl⟩ := ha.times.len
  obtain ⟨A3, c3, rfl⟩ := ha.index.len
  obtain ⟨B1, e1, rfl⟩ := hb.types.len
  obtain ⟨B2, e2, rfl⟩ := hb.times.len
  obtain ⟨B3, e3, rfl⟩ := hb.index.len
  obtain ⟨G, hG⟩ : ∃ G, w.heap.size = G := ⟨_, rfl⟩
  obtain ⟨W0, hW0⟩ : ∃ W0, (w.alloc (.cells #[.slice A1 a.types.length c1, .slice A2 a.times.length c2, .slice A3 a.index.length c3, .string a.footer] 31)).alloc (.cells #[.slice B1 b.types.length e1, .slice B2 b.times.length e2, .slice B3 b.index.length e3, .string b.footer] 31) = W0 := ⟨_, rfl⟩
  have HB0 : Hid (Below G w W0) := Lib.hid (by rw [← hW0, ← hG]; exact ((Below.refl _ _).alloc (Nat.le_refl _) _).alloc (by simp) _)
  have HG0 : Hid (G ≤ W0.heap.size) := Lib.hid (by rw [← hG]; exact HB0.out.size)
  have HXA : Hid (ZnBox W0 G (.slice A1 a.types.length c1) (.slice A2 a.times.length c2) (.slice A3 a.index.length c3) (.string a.footer)) := Lib.hid (by
    rw [← hW0]
    exact (ZnBox.new w G hG _ _ _ _ _).below ((Below.refl (G + 1) _).alloc (by simp [hG]) _) (Nat.lt_succ_self _))
  have HXB : Hid (ZnBox W0 (G + 1) (.slice B1 b.types.length e1) (.slice B2 b.times.length e2) (.slice B3 b.index.length e3) (.string b.footer)) := Lib.hid (by
    rw [← hW0]
    exact ZnBox.new _ (G + 1) (by simp [hG]) _ _ _ _ _)
  have HA : Hid (ZnAt W0 B a (.slice A1 a.types.length c1) (.slice A2 a.times.length c2) (.slice A3 a.index.length c3)) := Lib.hid (ha.below HB0.out (by omega))
  have HB : Hid (ZnAt W0 B b (.slice B1 b.types.length e1) (.slice B2 b.times.length e2) (.slice B3 b.index.length e3)) := Lib.hid (hb.below HB0.out (by omega))
  obtain ⟨r, hr⟩ : ∃ r, sameZ a b = r := ⟨_, rfl⟩
  rw [hr]
  have HR := Lib.hid hr
  have p0 := HXA.out.c0; have p1 := HXA.out.c1; have p2 := HXA.out.c2; have p3 := HXA.out.c3
  have q0 := HXB.out.c0; have q1 := HXB.out.c1; have q2 := HXB.out.c2; have q3 := HXB.out.c3
  clear hr ha hb
  rw [hG]
  have hBW : B ≤ W0.heap.size := by have := HG0.out; omega
  have HBW := Lib.hid hBW
  clear hBW
  obtain ⟨l1, l2, l3, _, l5⟩ := la
  by_cases hl1 : a.types.length = b.types.length
  · have L1 := Lib.hid hl1
    have d11 : decide ((a.types.length : Int) = (b.types.length : Int)) = true := by have := L1.out; simp; omega
    have d21 : ((a.types.length : Int) == (b.types.length : Int)) = true := by have := L1.out; simp; omega
    have d31 : ((a.types.length : Int) != (b.types.length : Int)) = false := by have := L1.out; simp; omega
    clear hl1
    by_cases hl2 : a.times.length = b.times.length
    · have L2 := Lib.hid hl2
      have d12 : decide ((a.times.length : Int) = (b.times.length : Int)) = true := by have := L2.out; simp; omega
      have d22 : ((a.times.length : Int) == (b.times.length : Int)) = true := by have := L2.out; simp; omega
      have d32 : ((a.times.length : Int) != (b.times.length : Int)) = false := by have := L2.out; simp; omega
      clear hl2
      by_cases hl3 : a.index.length = b.index.length
      · have L3 := Lib.hid hl3
        have d13 : decide ((a.index.length : Int) = (b.index.length : Int)) = true := by have := L3.out; simp; omega
        have d23 : ((a.index.length : Int) == (b.index.length : Int)) = true := by have := L3.out; simp; omega
        have d33 : ((a.index.length : Int) != (b.index.length : Int)) = false := by have := L3.out; simp; omega
        clear hl3
        by_cases hf : a.footer = b.footer
        · have HFF := Lib.hid hf
          rw [← hf] at q3
          clear hf
          go_enter Try.func18, Try.ntmps18
          go_wp2_with fail
          clear d11 d21 d31 d12 d22 d32 d13 d23 d33
          go_loopw [5] (fun i wr => ∃ k m : Nat, k ≤ a.types.length ∧ i = .int .i64 k ∧ (∀ (j : Nat) (x y : Ty), j < k → a.types[j]? = some x → b.types[j]? = some y → eqT x y = true) ∧ wr = W0.drewN m) (fun i _ => a.types.length - (intOf i).toNat)
          case atStart => exact ⟨0, 0, Nat.zero_le _, rfl, fun j x y hj => absurd hj (by omega), rfl⟩
          case round =>
            obtain ⟨k, m, hk, rfl, hall, rfl⟩ := hrel
            have HALL := Lib.hid hall
            clear hall
            by_cases hlt : k < a.types.length
            · have hk0 : (0 : Int) ≤ (k : Int) := by omega
              have hk1 : (k : Int) < (a.types.length : Int) := by omega
              have hk2 : (k : Int) < (b.types.length : Int) := by have := L1.out; omega
              obtain ⟨x, hx⟩ : ∃ x, a.types[k]? = some x := ⟨_, List.getElem?_eq_getElem hlt⟩
              obtain ⟨y, hy⟩ : ∃ y, b.types[k]? = some y := ⟨_, List.getElem?_eq_getElem (by have := L1.out; omega)⟩
              obtain ⟨g, off, c', hv, hg, k0, k01, k02⟩ := HA.out.types.ty hx
              obtain ⟨g2, off2, c2', hv2, hg2, k2, k21, k22⟩ := HB.out.types.ty hy
              injection hv with ea _ ec
              subst ea; subst ec
              injection hv2 with ea _ ec
              subst ea; subst ec
              have HX := Lib.hid hx; have HY := Lib.hid hy
              clear hx hy hg hg2
              by_cases ho : x.off = y.off
              · by_cases hd : x.dst = y.dst
                · by_cases hs : x.abbr = y.abbr
                  · have hxy : x = y := ty_ext ho hd hs
                    subst hxy
                    have hne := neq_rty_same x
                    clear ho hd hs
                    go_wp2_with fail
                    go_quiet (fail)
                    go_wp2_with fail
                    exact ⟨⟨k + 1, m + nq, hlt, by go_num, fun j u v hj hu hv => by
                      by_cases e : j = k
                      · subst e
                        rw [HX.out] at hu; rw [HY.out] at hv
                        injection hu with hu; injection hv with hv
                        subst hu; subst hv; unfold eqT; simp
                      · exact HALL.out j u v (by omega) hu hv, by simp [World.drewN]⟩, by simp [intOf]; omega⟩
                  · have HE : Hid (eqT x y = false) := Lib.hid (by unfold eqT; simp [hs])
                    have b1 := toList_ne hs
                    have b2 : decide (x.abbr.toList = y.abbr.toList) = false := decide_eq_false b1
                    rw [← hd] at k21
                    rw [← ho] at k2
                    clear ho hd hs
                    go_wp2_with fail
                    go_quiet (fail)
                    go_wp2_with fail
                    go_ret
                    exact ⟨by rw [← HR.out, show sameZ a b = false from by unfold sameZ; rw [eqL_no HX.out HY.out HE.out]; simp]; rfl, drewN_below (drewN_below HB0.out m) nq⟩
                · have HE : Hid (eqT x y = false) := Lib.hid (by unfold eqT; simp [hd])
                  have b1 : decide (x.dst = y.dst) = false := by simp [hd]
                  have b2 : (x.dst == y.dst) = false := by simp [hd]
                  rw [← ho] at k2
                  clear ho hd
                  go_wp2_with fail
                  go_quiet (fail)
                  go_wp2_with fail
                  go_ret
                  exact ⟨by rw [← HR.out, show sameZ a b = false from by unfold sameZ; rw [eqL_no HX.out HY.out HE.out]; simp]; rfl, drewN_below (drewN_below HB0.out m) nq⟩
              · have HE : Hid (eqT x y = false) := Lib.hid (by unfold eqT; simp [ho])
                have b1 : decide (x.off = y.off) = false := by simp [ho]
                have b2 : (x.off == y.off) = false := by simp [ho]
                clear ho
                go_wp2_with fail
                go_quiet (fail)
                go_wp2_with fail
                go_ret
                exact ⟨by rw [← HR.out, show sameZ a b = false from by unfold sameZ; rw [eqL_no HX.out HY.out HE.out]; simp]; rfl, drewN_below (drewN_below HB0.out m) nq⟩
            · have hk1 : ¬ (k : Int) < (a.types.length : Int) := by omega
              have E1 : Hid (eqL eqT a.types b.types = true) := Lib.hid (eqL_yes L1.out fun j x y hx hy => HALL.out j x y (by have := (List.getElem?_eq_some_iff.1 hx).1; omega) hx hy)
              clear HALL
              go_wp2_with fail
              obtain ⟨m1, hm1⟩ : ∃ m1, m = m1 := ⟨_, rfl⟩
              rw [hm1]
              clear hm1
              go_loopw [6] (fun i wr => ∃ k m : Nat, k ≤ a.times.length ∧ i = .int .i64 k ∧ (∀ (j : Nat) (x y : Int), j < k → a.times[j]? = some x → b.times[j]? = some y → eqI x y = true) ∧ wr = W0.drewN m) (fun i _ => a.times.length - (intOf i).toNat)
              case atStart => exact ⟨0, m1, Nat.zero_le _, rfl, fun j x y hj => absurd hj (by omega), rfl⟩
              case round =>
                obtain ⟨k, m, hk, rfl, hall, rfl⟩ := hrel
                have HALL := Lib.hid hall
                clear hall
                by_cases hlt : k < a.times.length
                · have hk0 : (0 : Int) ≤ (k : Int) := by omega
                  have hk1 : (k : Int) < (a.times.length : Int) := by omega
                  have hk2 : (k : Int) < (b.times.length : Int) := by have := L2.out; omega
                  obtain ⟨x, hx⟩ : ∃ x, a.times[k]? = some x := ⟨_, List.getElem?_eq_getElem hlt⟩
                  obtain ⟨y, hy⟩ : ∃ y, b.times[k]? = some y := ⟨_, List.getElem?_eq_getElem (by have := L2.out; omega)⟩
                  obtain ⟨g, off, c', hv, hg, k0⟩ := HA.out.times.one hx
                  obtain ⟨g2, off2, c2', hv2, hg2, k2⟩ := HB.out.times.one hy
                  injection hv with ea _ ec
                  subst ea; subst ec
                  injection hv2 with ea _ ec
                  subst ea; subst ec
                  have HX := Lib.hid hx; have HY := Lib.hid hy
                  clear hx hy hg hg2
                  by_cases hxy : x = y
                  · subst hxy
                    go_wp2_with fail
                    go_quiet (fail)
                    go_wp2_with fail
                    exact ⟨⟨k + 1, m + nq, hlt, by go_num, fun j u v hj hu hv => by
                      by_cases e : j = k
                      · subst e
                        rw [HX.out] at hu; rw [HY.out] at hv
                        injection hu with hu; injection hv with hv
                        subst hu; subst hv; unfold eqI; simp
                      · exact HALL.out j u v (by omega) hu hv, by simp [World.drewN]⟩, by simp [intOf]; omega⟩
                  · have HE : Hid (eqI x y = false) := Lib.hid (by unfold eqI; simp [hxy])
                    have b1 : decide (x = y) = false := by simp [hxy]
                    have b2 : (x == y) = false := by simp [hxy]
                    have b3 : (x != y) = true := by simp [hxy]
                    clear hxy
                    go_wp2_with fail
                    go_quiet (fail)
                    go_wp2_with fail
                    go_ret
                    exact ⟨by rw [← HR.out, show sameZ a b = false from by unfold sameZ; rw [eqL_no HX.out HY.out HE.out]; simp]; rfl, drewN_below (drewN_below HB0.out m) nq⟩
                · have hk1 : ¬ (k : Int) < (a.times.length : Int) := by omega
                  have E2 : Hid (eqL eqI a.times b.times = true) := Lib.hid (eqL_yes L2.out fun j x y hx hy => HALL.out j x y (by have := (List.getElem?_eq_some_iff.1 hx).1; omega) hx hy)
                  clear HALL
                  go_wp2_with fail
                  obtain ⟨m2, hm2⟩ : ∃ m2, m = m2 := ⟨_, rfl⟩
                  rw [hm2]
                  clear hm2
                  go_loopw [7] (fun i wr => ∃ k m : Nat, k ≤ a.index.length ∧ i = .int .i64 k ∧ (∀ (j : Nat) (x y : Int), j < k → a.index[j]? = some x → b.index[j]? = some y → eqI x y = true) ∧ wr = W0.drewN m) (fun i _ => a.index.length - (intOf i).toNat)
                  case atStart => exact ⟨0, m2, Nat.zero_le _, rfl, fun j x y hj => absurd hj (by omega), rfl⟩
                  case round =>
                    obtain ⟨k, m, hk, rfl, hall, rfl⟩ := hrel
                    have HALL := Lib.hid hall
                    clear hall
                    by_cases hlt : k < a.index.length
                    · have hk0 : (0 : Int) ≤ (k : Int) := by omega
                      have hk1 : (k : Int) < (a.index.length : Int) := by omega
                      have hk2 : (k : Int) < (b.index.length : Int) := by have := L3.out; omega
                      obtain ⟨x, hx⟩ : ∃ x, a.index[k]? = some x := ⟨_, List.getElem?_eq_getElem hlt⟩
                      obtain ⟨y, hy⟩ : ∃ y, b.index[k]? = some y := ⟨_, List.getElem?_eq_getElem (by have := L3.out; omega)⟩
                      obtain ⟨g, off, c', hv, hg, k0⟩ := HA.out.index.one hx
                      obtain ⟨g2, off2, c2', hv2, hg2, k2⟩ := HB.out.index.one hy
                      injection hv with ea _ ec
                      subst ea; subst ec
                      injection hv2 with ea _ ec
                      subst ea; subst ec
                      have HX := Lib.hid hx; have HY := Lib.hid hy
                      clear hx hy hg hg2
                      by_cases hxy : x = y
                      · subst hxy
                        go_wp2_with fail
                        go_quiet (fail)
                        go_wp2_with fail
                        exact ⟨⟨k + 1, m + nq, hlt, by go_num, fun j u v hj hu hv => by
                          by_cases e : j = k
                          · subst e
                            rw [HX.out] at hu; rw [HY.out] at hv
                            injection hu with hu; injection hv with hv
                            subst hu; subst hv; unfold eqI; simp
                          · exact HALL.out j u v (by omega) hu hv, by simp [World.drewN]⟩, by simp [intOf]; omega⟩
                      · have HE : Hid (eqI x y = false) := Lib.hid (by unfold eqI; simp [hxy])
                        have b1 : decide (x = y) = false := by simp [hxy]
                        have b2 : (x == y) = false := by simp [hxy]
                        have b3 : (x != y) = true := by simp [hxy]
                        clear hxy
                        go_wp2_with fail
                        go_quiet (fail)
                        go_wp2_with fail
                        go_ret
                        exact ⟨by rw [← HR.out, show sameZ a b = false from by unfold sameZ; rw [eqL_no HX.out HY.out HE.out]; simp]; rfl, drewN_below (drewN_below HB0.out m) nq⟩
                    · have hk1 : ¬ (k : Int) < (a.index.length : Int) := by omega
                      have E3 : Hid (eqL eqI a.index b.index = true) := Lib.hid (eqL_yes L3.out fun j x y hx hy => HALL.out j x y (by have := (List.getElem?_eq_some_iff.1 hx).1; omega) hx hy)
                      clear HALL
                      go_wp2_with fail
                      go_ret
                      exact ⟨by rw [← HR.out, show sameZ a b = true from by unfold sameZ; rw [E1.out, E2.out, E3.out]; simp [HFF.out]]; rfl, drewN_below HB0.out m⟩
        · have HFF := Lib.hid hf
          have b1 := toList_ne hf
          have b2 : decide (a.footer.toList = b.footer.toList) = false := decide_eq_false b1
          have b3 : (a.footer.toList == b.footer.toList) = false := by simpa using b1
          clear hf
          go_enter Try.func18, Try.ntmps18
          go_wp2_with fail
          go_ret
          exact ⟨by rw [← HR.out, show sameZ a b = false from by unfold sameZ; simp [HFF.out]]; rfl, HB0.out⟩
      · have HE : Hid (eqL eqI a.index b.index = false) := Lib.hid (eqL_len hl3)
        have d13 : decide ((a.index.length : Int) = (b.index.length : Int)) = false := by simp; omega
        have d23 : ((a.index.length : Int) == (b.index.length : Int)) = false := by simp; omega
        have d33 : ((a.index.length : Int) != (b.index.length : Int)) = true := by simp; omega
        clear hl3
        go_enter Try.func18, Try.ntmps18
        go_wp2_with fail
        go_ret
        exact ⟨by rw [← HR.out, show sameZ a b = false from by unfold sameZ; rw [HE.out]; simp]; rfl, HB0.out⟩
    · have HE : Hid (eqL eqI a.times b.times = false) := Lib.hid (eqL_len hl2)
      have d12 : decide ((a.times.length : Int) = (b.times.length : Int)) = false := by simp; omega
      have d22 : ((a.times.length : Int) == (b.times.length : Int)) = false := by simp; omega
      have d32 : ((a.times.length : Int) != (b.times.length : Int)) = true := by simp; omega
      clear hl2
      go_enter Try.func18, Try.ntmps18
      go_wp2_with fail
      go_ret
      exact ⟨by rw [← HR.out, show sameZ a b = false from by unfold sameZ; rw [HE.out]; simp]; rfl, HB0.out⟩
  · have HE : Hid (eqL eqT a.types b.types = false) := Lib.hid (eqL_len hl1)
    have d11 : decide ((a.types.length : Int) = (b.types.length : Int)) = false := by simp; omega
    have d21 : ((a.types.length : Int) == (b.types.length : Int)) = false := by simp; omega
    have d31 : ((a.types.length : Int) != (b.types.length : Int)) = true := by simp; omega
    clear hl1
    go_enter Try.func18, Try.ntmps18
    go_wp2_with fail
    go_ret
    exact ⟨by rw [← HR.out, show sameZ a b = false from by unfold sameZ; rw [HE.out]; simp]; rfl, HB0.out⟩
end Go.Proofs.Ytohpdpcjhmopbaa.Tz
