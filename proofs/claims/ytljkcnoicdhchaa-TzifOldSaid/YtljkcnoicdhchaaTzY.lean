/-
  Layer 6 (tzif): the document's Put.
-/
import Derived.Test.YtljkcnoicdhchaaTzX
namespace Go.Proofs.Ytljkcnoicdhchaa.Tz
open Go.RowKit

theorem sl_new_ints (W : World) (ns : List Nat) (t : TypeId) : Sl (W.alloc (.cells ((castI ns).map (Value.int .i64)).toArray t)) (W.heap.size + 1) 1 (.slice (some ⟨W.heap.size, 0, none⟩) ns.length ns.length) ((castI ns).map intCells) := by
  have hl : ((castI ns).map intCells).length = ns.length := by unfold castI; simp
  have := Sl.new (w := W.alloc (.cells ((castI ns).map (Value.int .i64)).toArray t)) (B := W.heap.size + 1) (sz := 1) (g := W.heap.size) (c := ns.length) (rows := (castI ns).map intCells) (Nat.lt_succ_self _) (fun j row hj k u hu => by
    rw [List.getElem?_map] at hj
    cases hx : (castI ns)[j]? with
    | none => rw [hx] at hj; cases hj
    | some x =>
      rw [hx] at hj; injection hj with hj; subst hj
      match k, hu with
      | 0, hu =>
        have hu : u = .int .i64 x := by simpa [intCells] using hu.symm
        subst hu
        rw [Nat.mul_one]
        refine cell_new W _ t _ j _ rfl ?_
        rw [List.getElem?_toArray, List.getElem?_map, hx]; rfl)
  rwa [hl] at this
theorem offN_is (t : Ty) : IntKind.u64.wrap t.off = (offN t : Int) := off_nat t
set_option maxRecDepth 100000 in
set_option maxHeartbeats 8000000 in
theorem rput_any (z : Zn) (vt vs vi : Value) (B : Nat) (w : World) (h : ZnAt w B z vt vs vi) (hB : B ≤ w.heap.size) (hr : rightZ z = true) :
    Calls Try.prog 14 #[.agg #[vt, vs, vi, .string z.footer]] w fun e w' => ∃ v, e = .returned v ∧ Own w' w.heap.size v (putB z) ∧ Below w.heap.size w w' := by
  obtain ⟨b1, b2, b3, b4, b5, b6, b7, b8⟩ := right_all hr
  obtain ⟨At, ct, rfl⟩ := h.types.len
  obtain ⟨As, cs, rfl⟩ := h.times.len
  obtain ⟨Ai, ci, rfl⟩ := h.index.len
  obtain ⟨W0, hW0⟩ : ∃ W0, w.alloc (.cells #[.slice At z.types.length ct, .slice As z.times.length cs, .slice Ai z.index.length ci, .string z.footer] 31) = W0 := ⟨_, rfl⟩
  have HB0 : Hid (Below w.heap.size w W0) := Lib.hid (by rw [← hW0]; exact (Below.refl _ _).alloc (Nat.le_refl _) _)
  have HSZ : Hid (W0.heap.size = w.heap.size + 1) := Lib.hid (by rw [← hW0]; simp)
  have HC : Hid (∀ V, Below W0.heap.size W0 V → ∀ i u, (#[.slice At z.types.length ct, .slice As z.times.length cs, .slice Ai z.index.length ci, .string z.footer] : Array Value)[i]? = some u → V.cell? ⟨w.heap.size, i, none⟩ = some u) := Lib.hid fun V hb i u hu => cells_at w.heap.size hb (by rw [HSZ.out]; omega) (by rw [← hW0]; exact cell_new w _ _ _ i u rfl hu)
  have HZ : Hid (∀ V, Below W0.heap.size W0 V → ZnAt V B z (.slice At z.types.length ct) (.slice As z.times.length cs) (.slice Ai z.index.length ci)) := Lib.hid fun V hb => (h.below HB0.out hB).below hb (by rw [HSZ.out]; omega)
  have HB : Hid (Below W0.heap.size W0 W0) := Lib.hid (Below.refl _ _)
  have HEQ := Lib.hid b4; have HTY := Lib.hid b7; have HIX := Lib.hid b8; have HLB := Lib.hid b5
  have hlk : ∀ k, letters (z.types.take k) ≤ 16 * k ∧ letters (z.types.take k) ≤ 4080 := fun k => by
    have h1 : letters (z.types.take k) ≤ 16 * (z.types.take k).length := by
      have : ∀ l : List Ty, (∀ t ∈ l, t.abbr.size ≤ 15) → letters l ≤ 16 * l.length := by
        intro l
        induction l with
        | nil => intro _; simp [letters]
        | cons a l ih =>
          intro hl
          have h2 := ih (fun t ht => hl t (by simp [ht]))
          have h3 := hl a (by simp)
          have h4 : letters (a :: l) = a.abbr.size + 1 + letters l := by unfold letters; rw [List.map_cons, List.sum_cons]
          rw [h4, List.length_cons]; omega
      exact this _ fun t ht => (b7 t (List.mem_of_mem_take ht)).1
    have h2 : (z.types.take k).length ≤ k := List.length_take_le _ _
    have h3 : (z.types.take k).length ≤ 255 := Nat.le_trans (List.length_take_le' _ _) b1
    omega
  have HLK := Lib.hid hlk
  have HH1 : Hid (∀ V, Calls Try.prog 30 #[.slice (some ⟨V.heap.size, 0, none⟩) 6 6] (V.alloc (.cells #[.int .i64 0, .int .i64 0, .int .i64 0, .int .i64 0, .int .i64 1, .int .i64 1] 3)) fun e w' => ∃ v, e = .returned v ∧ Own w' V.heap.size v (headB hd1) ∧ Below V.heap.size V w') := Lib.hid fun V => by
    refine (rhead_any _ [0, 0, 0, 0, 1, 1] (V.heap.size + 1) (V.alloc (.cells #[.int .i64 0, .int .i64 0, .int .i64 0, .int .i64 0, .int .i64 1, .int .i64 1] 3)) (sl_new_ints V [0, 0, 0, 0, 1, 1] 3) (by decide) (by decide) (by simp)).mono ?_
    rintro e w' ⟨v, he, h1, h2⟩
    exact ⟨v, he, h1.lower (by simp), ((Below.refl V.heap.size V).alloc (Nat.le_refl _) _).trans (h2.mono (by simp))⟩
  obtain ⟨nl, hnl⟩ : ∃ nl, letters z.types = nl := ⟨_, rfl⟩
  have HNL := Lib.hid hnl
  have HH2 : Hid (∀ V, Calls Try.prog 30 #[.slice (some ⟨V.heap.size, 0, none⟩) 6 6] (V.alloc (.cells #[.int .i64 0, .int .i64 0, .int .i64 0, .int .i64 z.times.length, .int .i64 z.types.length, .int .i64 nl] 3)) fun e w' => ∃ g2 c2, e = .returned (.slice (some ⟨g2, 0, none⟩) 44 c2) ∧ (∀ j u, (headB (hd2 z))[j]? = some u → w'.cell? ((⟨g2, 0, none⟩ : Addr).add j) = some (by8 u)) ∧ Below V.heap.size V w') := Lib.hid fun V => by
    refine (rhead_any _ [0, 0, 0, z.times.length, z.types.length, nl] (V.heap.size + 1) (V.alloc (.cells #[.int .i64 0, .int .i64 0, .int .i64 0, .int .i64 z.times.length, .int .i64 z.types.length, .int .i64 nl] 3)) (sl_new_ints V [0, 0, 0, z.times.length, z.types.length, nl] 3) (by simp) (by intro n hn; simp at hn; omega) (by simp)).mono ?_
    rintro e w' ⟨v, he, h1, h2⟩
    have e2 : magicB ++ ([50] ++ (zerosB 15 ++ [0, 0, 0, z.times.length, z.types.length, nl].flatMap (fun n => digs n 4))) = headB (hd2 z) := by rw [← hnl]; rfl
    rw [e2] at h1
    obtain ⟨g2, c2, e4, _, _, m4⟩ := h1.open_ (by rw [headB_len]; omega)
    rw [headB_len] at e4
    subst e4
    exact ⟨g2, c2, he, m4, ((Below.refl V.heap.size V).alloc (Nat.le_refl _) _).trans (h2.mono (by simp))⟩
  have q0 := HC.out _ HB.out 0 _ rfl; have q1 := HC.out _ HB.out 1 _ rfl; have q2 := HC.out _ HB.out 2 _ rfl; have q3 := HC.out _ HB.out 3 _ rfl
  clear h hr b4 b5 b7 b8 hlk hnl
  go_enter Try.func14, Try.ntmps14
  go_wp2_with fail
  go_loopw [3, 4] (fun s i wr => ∃ k : Nat, k ≤ z.types.length ∧ i = .int .i64 k ∧ s = .int .i64 (letters (z.types.take k) : Nat) ∧ wr = W0) (fun _ i _ => z.types.length - (intOf i).toNat)
  case atStart => exact ⟨0, Nat.zero_le _, rfl, rfl, rfl⟩
  case round =>
    obtain ⟨k, hk, rfl, rfl, rfl⟩ := hrel
    by_cases hlt : k < z.types.length
    · have hk0 : (0 : Int) ≤ (k : Int) := by omega
      have hk1 : (k : Int) < (z.types.length : Int) := by omega
      obtain ⟨x, hx⟩ : ∃ x, z.types[k]? = some x := ⟨_, List.getElem?_eq_getElem hlt⟩
      obtain ⟨g, off, c', hv, hg, c0, c1, c2⟩ := (HZ.out _ HB.out).types.ty hx
      injection hv with ea _ ec
      subst ea; subst ec
      have hs := (HTY.out x (List.mem_of_getElem? hx)).1
      have hlk := HLK.out k
      obtain ⟨m, hm⟩ : ∃ m, letters (z.types.take k) = m := ⟨_, rfl⟩
      rw [hm] at hlk ⊢
      have hn0 : (0 : Int) ≤ (m : Int) := by omega
      have hn1 : (m : Int) ≤ 4080 := by omega
      have hs0 : (0 : Int) ≤ (x.abbr.size : Int) := by omega
      have hs1 : (x.abbr.size : Int) ≤ 15 := by omega
      have HM := Lib.hid hm; have HX := Lib.hid hx
      clear hm hx hs hlk
      go_wp2_with fail
      refine ⟨⟨k + 1, hlt, by go_num, ?_, by first | rfl | trivial⟩, by simp [intOf]; omega⟩
      rw [take_one HX.out, letters_snoc, HM.out]; congr 1
    · have hk1 : ¬ (k : Int) < (z.types.length : Int) := by omega
      have htk : z.types.take k = z.types := List.take_of_length_le (by omega)
      rw [htk, HNL.out]
      have hnl1 : nl ≤ 256 := by rw [← HNL.out]; exact HLB.out
      clear htk
      go_wp2_with (first
        | (go_at_call 30; refine (HH1.out _).mono ?_; clear HH1; rintro e V1 ⟨v1, rfl, hO, hb⟩; have HO1 := Lib.hid hO; have HB1 := Lib.hid hb; clear hO hb q0 q1 q2 q3)
        | (at_builtin; refine plain_append_zeros (.tmp 31) (.const (.int .i64 7)) 3 Try.underlying3 rfl rfl wr.heap.size _ (headB hd1) 7 (by omega) rfl rfl HO1.out (by rw [headB_len]; omega) HB1.out.size ?_; intro v2 V2 hO hG; have HO2 := Lib.hid hO; have HB2 := Lib.hid (HB1.out.trans (grew_below HO1.out hG (Nat.le_refl _) HB1.out.size)); clear hO hG HO1 HB1; have q0 := HC.out _ HB2.out 0 _ rfl; have q1 := HC.out _ HB2.out 1 _ rfl)
        | (go_at_call 30; refine (HH2.out _).mono ?_; clear HH2; rintro e V3 ⟨g3, c3, rfl, hc, hb⟩; have HC3 := Lib.hid hc; have HO3 := Lib.hid (HO2.out.keep hb); have HB3 := Lib.hid (HB2.out.trans (hb.mono HB2.out.size)); clear hc hb HO2 HB2 q0 q1)
        | (at_builtin; refine plain_append_bytes (.tmp 33) (.tmp 42) rfl rfl wr.heap.size _ (headB hd1 ++ zerosB 7) (headB (hd2 z)) ⟨g3, 0, none⟩ 44 c3 rfl rfl (headB_len _) HO3.out HC3.out (by rw [List.length_append, headB_len]; show 44 + 7 + 44 ≤ _; omega) HB3.out.size ?_; intro v4 V4 hO hG; have HO4 := Lib.hid hO; have HB4 := Lib.hid (HB3.out.trans (grew_below HO3.out hG (Nat.le_refl _) HB3.out.size)); clear hO hG HO3 HB3 HC3)
        | fail)
      have HTL : Hid ((topB z).length = 95) := Lib.hid (by unfold topB; rw [List.length_append, List.length_append, headB_len, headB_len]; unfold zerosB; simp)
      obtain ⟨wA, hwA⟩ : ∃ wA : World, wr = wA := ⟨_, rfl⟩
      rw [hwA] at HB0 HSZ HC HZ HB HO4 HB4 ⊢
      clear hwA
      go_loopw [5, 6] (fun u i wr => ∃ (k : Nat) (acc : List Int), k ≤ z.times.length ∧ i = .int .i64 k ∧ acc = topB z ++ timesB (z.times.take k) ∧ acc.length ≤ 95 + 8 * k ∧ Own wr wA.heap.size u acc ∧ Below wA.heap.size wA wr) (fun _ i _ => z.times.length - (intOf i).toNat)
      case atStart => exact ⟨0, topB z, by omega, rfl, by simp [timesB], by rw [HTL.out]; omega, HO4.out, HB4.out⟩
      case round =>
        obtain ⟨k2, acc, hk2, rfl, hacc, hal, ho, hg⟩ := hrel
        have HAC := Lib.hid hacc; have HAL := Lib.hid hal; have HO5 := Lib.hid ho; have HB5 := Lib.hid hg
        clear hacc hal ho hg HO4 HB4
        have q0 := HC.out _ HB5.out 0 _ rfl; have q1 := HC.out _ HB5.out 1 _ rfl; have q2 := HC.out _ HB5.out 2 _ rfl; have q3 := HC.out _ HB5.out 3 _ rfl
        by_cases hlt2 : k2 < z.times.length
        · have hk0 : (0 : Int) ≤ (k2 : Int) := by omega
          have hk3 : (k2 : Int) < (z.times.length : Int) := by omega
          obtain ⟨x, hx⟩ : ∃ x, z.times[k2]? = some x := ⟨_, List.getElem?_eq_getElem hlt2⟩
          obtain ⟨g, off, c', hv, hg, c0⟩ := (HZ.out _ HB5.out).times.one hx
          injection hv with e1 _ e3
          subst e1; subst e3
          obtain ⟨n, hn⟩ := u64_nat x
          have HNX : Hid ((IntKind.u64.wrap x).toNat = n) := Lib.hid (by rw [hn]; simp)
          have HNU : Hid (∀ V, Calls Try.prog 31 #[.int .i64 x, .int .i64 8] V fun e w' => ∃ g2 c2, e = .returned (.slice (some ⟨g2, 0, none⟩) 8 c2) ∧ (∀ j u, (digs n 8)[j]? = some u → w'.cell? ((⟨g2, 0, none⟩ : Addr).add j) = some (by8 u)) ∧ Below V.heap.size V w') := Lib.hid fun V => by
            refine (rnumber_any x n 8 hn (by omega) V).mono ?_
            rintro e V' ⟨v, he, h1, h2⟩
            obtain ⟨g2, c2, e4, _, _, m4⟩ := h1.open_ (by rw [digs_len]; omega)
            rw [digs_len] at e4
            subst e4
            exact ⟨g2, c2, he, m4, h2⟩
          have HXX := Lib.hid hx
          clear hx hn hg
          go_wp2_with (first
            | (go_at_call 31; refine (HNU.out _).mono ?_; clear HNU q0 q1 q2 q3 c0; rintro e V ⟨g2, c2, rfl, hc, hb⟩; have HCN := Lib.hid hc; have HO6 := Lib.hid (HO5.out.keep hb); have HB6 := Lib.hid (HB5.out.trans (hb.mono HB5.out.size)); clear hc hb)
            | (at_builtin; refine plain_append_bytes (.tmp 51) (.tmp 57) rfl rfl wA.heap.size _ acc (digs n 8) ⟨g2, 0, none⟩ 8 c2 rfl rfl (digs_len n 8) HO6.out HCN.out (by have := HAL.out; omega) HB6.out.size ?_; intro v7 w7 hO hG; have HO7 := Lib.hid hO; have HB7 := Lib.hid (HB6.out.trans (grew_below HO6.out hG (Nat.le_refl _) HB6.out.size)); clear hO hG)
            | fail)
          exact ⟨⟨k2 + 1, _, by omega, by go_num, by rw [HAC.out, take_one HXX.out, timesB, timesB, List.flatMap_append, List.append_assoc]; simp [HNX.out], by have := HAL.out; rw [List.length_append, digs_len]; omega, HO7.out, HB7.out⟩, by simp [intOf]; omega⟩
        · have hk3 : ¬ (k2 : Int) < (z.times.length : Int) := by omega
          have hacc : acc = topB z ++ timesB z.times := by rw [HAC.out, List.take_of_length_le (by omega)]
          have HAC2 := Lib.hid hacc
          have HAL2 : Hid (acc.length ≤ 32095) := Lib.hid (by have := HAL.out; omega)
          clear hacc HAC HAL
          go_wp2_with fail
          clear q0 q1 q2 q3
          go_loopw [5, 7] (fun u i wr => ∃ (k : Nat) (ac2 : List Int), k ≤ z.index.length ∧ i = .int .i64 k ∧ ac2 = acc ++ indexB (z.index.take k) ∧ ac2.length ≤ 32095 + k ∧ Own wr wA.heap.size u ac2 ∧ Below wA.heap.size wA wr) (fun _ i _ => z.index.length - (intOf i).toNat)
          case atStart => exact ⟨0, acc, by omega, rfl, by simp [indexB], by have := HAL2.out; omega, HO5.out, HB5.out⟩
          case round =>
            obtain ⟨k3, ac2, hk3, rfl, hacc, hal, ho, hg⟩ := hrel
            have HAC := Lib.hid hacc; have HAL := Lib.hid hal; have HO6 := Lib.hid ho; have HB6 := Lib.hid hg
            clear hacc hal ho hg HO5 HB5
            have hki : k3 ≤ 4000 := by have := HEQ.out; omega
            have q0 := HC.out _ HB6.out 0 _ rfl; have q1 := HC.out _ HB6.out 1 _ rfl; have q2 := HC.out _ HB6.out 2 _ rfl; have q3 := HC.out _ HB6.out 3 _ rfl
            by_cases hlt3 : k3 < z.index.length
            · have hk0 : (0 : Int) ≤ (k3 : Int) := by omega
              have hk4 : (k3 : Int) < (z.index.length : Int) := by omega
              obtain ⟨x, hx⟩ : ∃ x, z.index[k3]? = some x := ⟨_, List.getElem?_eq_getElem hlt3⟩
              obtain ⟨g, off, c', hv, hg, c0⟩ := (HZ.out _ HB6.out).index.one hx
              injection hv with e1 _ e3
              subst e1; subst e3
              have HXX := Lib.hid hx
              clear hx hg
              go_wp2_with (first
                | (at_builtin; refine plain_append_bytes (.tmp 66) (.tmp 73) rfl rfl wA.heap.size _ ac2 [x % 256] ⟨wr.heap.size, 0, none⟩ 1 1 rfl rfl rfl (HO6.out.alloc _) (one_cell (new_cell _ _ rfl _ _)) (by have := HAL.out; omega) (by have := HB6.out.size; simp; omega) ?_; intro v' w' hown hgr; have HO7 := Lib.hid hown; have HB7 := Lib.hid (HB6.out.trans (grew_below HO6.out hgr.ahead (Nat.le_refl _) HB6.out.size)); clear hown hgr)
                | fail)
              exact ⟨⟨k3 + 1, _, by omega, by go_num, by rw [HAC.out, take_one HXX.out, indexB, indexB, List.map_append, List.append_assoc]; rfl, by have := HAL.out; rw [List.length_append]; show _ + 1 ≤ _; omega, HO7.out, HB7.out⟩, by simp [intOf]; omega⟩
            · have hk4 : ¬ (k3 : Int) < (z.index.length : Int) := by omega
              have hacc : ac2 = topB z ++ timesB z.times ++ indexB z.index := by rw [HAC.out, List.take_of_length_le (by omega), HAC2.out]
              have HAC3 := Lib.hid hacc
              have HAL3 : Hid (ac2.length ≤ 36095) := Lib.hid (by have := HAL.out; omega)
              clear hacc HAC HAC2 HAL HAL2
              go_wp2_with fail
              clear q0 q1 q2 q3
              go_loopw [5, 8, 9] (fun u a i wr => ∃ (k : Nat) (ac3 : List Int), k ≤ z.types.length ∧ i = .int .i64 k ∧ a = .int .i64 (letters (z.types.take k) : Nat) ∧ ac3 ++ typesB (z.types.drop k) (letters (z.types.take k)) = ac2 ++ typesB z.types 0 ∧ ac3.length ≤ 36095 + 6 * k ∧ Own wr wA.heap.size u ac3 ∧ Below wA.heap.size wA wr) (fun _ _ i _ => z.types.length - (intOf i).toNat)
              case atStart => exact ⟨0, ac2, by omega, rfl, rfl, rfl, by have := HAL3.out; omega, HO6.out, HB6.out⟩
              case round =>
                obtain ⟨k4, ac3, hk4, rfl, rfl, hacc, hal, ho, hg⟩ := hrel
                have HAC := Lib.hid hacc; have HAL := Lib.hid hal; have HO7 := Lib.hid ho; have HB7 := Lib.hid hg
                clear hacc hal ho hg HO6 HB6
                have q0 := HC.out _ HB7.out 0 _ rfl; have q1 := HC.out _ HB7.out 1 _ rfl; have q2 := HC.out _ HB7.out 2 _ rfl; have q3 := HC.out _ HB7.out 3 _ rfl
                by_cases hlt4 : k4 < z.types.length
                · have hk0 : (0 : Int) ≤ (k4 : Int) := by omega
                  have hk5 : (k4 : Int) < (z.types.length : Int) := by omega
                  obtain ⟨x, hx⟩ : ∃ x, z.types[k4]? = some x := ⟨_, List.getElem?_eq_getElem hlt4⟩
                  obtain ⟨g, off, c', hv, hg, d0, d1, d2⟩ := (HZ.out _ HB.out).types.ty hx
                  injection hv with ea _ ec
                  subst ea; subst ec
                  have HGX : Hid (g < wA.heap.size) := Lib.hid (by have := HSZ.out; omega)
                  have c0 := cells_at g HB7.out HGX.out d0
                  have c1 := cells_at g HB7.out HGX.out d1
                  have c2 := cells_at g HB7.out HGX.out d2
                  have D2 := Lib.hid d2
                  clear d0 d1 d2
                  have hs := (HTY.out x (List.mem_of_getElem? hx)).1
                  have hlk := HLK.out k4
                  obtain ⟨m, hm⟩ : ∃ m, letters (z.types.take k4) = m := ⟨_, rfl⟩
                  rw [hm] at hlk ⊢
                  have hn0 : (0 : Int) ≤ (m : Int) := by omega
                  have hn1 : (m : Int) ≤ 4080 := by omega
                  have hs0 : (0 : Int) ≤ (x.abbr.size : Int) := by omega
                  have hs1 : (x.abbr.size : Int) ≤ 15 := by omega
                  have HM := Lib.hid hm; have HX := Lib.hid hx
                  have HNU : Hid (∀ V, Calls Try.prog 31 #[.int .i64 x.off, .int .i64 4] V fun e w' => ∃ g2 c2, e = .returned (.slice (some ⟨g2, 0, none⟩) 4 c2) ∧ (∀ j u, (digs (offN x) 4)[j]? = some u → w'.cell? ((⟨g2, 0, none⟩ : Addr).add j) = some (by8 u)) ∧ Below V.heap.size V w') := Lib.hid fun V => by
                    refine (rnumber_any x.off (offN x) 4 (off_nat x) (by omega) V).mono ?_
                    rintro e V' ⟨v, he, h1, h2⟩
                    obtain ⟨g2, c2, e4, _, _, m4⟩ := h1.open_ (by rw [digs_len]; omega)
                    rw [digs_len] at e4
                    subst e4
                    exact ⟨g2, c2, he, m4, h2⟩
                  obtain ⟨d, hd⟩ : ∃ d, x.dst = d := ⟨_, rfl⟩
                  have HDB : Hid (dstB x = if d then 1 else 0) := Lib.hid (by unfold dstB; rw [hd])
                  rw [hd] at c1
                  clear hm hx hs hlk hg hd
                  cases d with
                  | true =>
                    have HDV : Hid (dstB x = 1) := Lib.hid (by rw [HDB.out]; rfl)
                    go_wp2_with (first
                      | (go_at_call 31; refine (HNU.out _).mono ?_; clear HNU q0 q1 q2 q3 c0 c1 c2; rintro e V ⟨g2, c2', rfl, hc, hb⟩; have HCN := Lib.hid hc; have HO8 := Lib.hid (HO7.out.keep hb); have HB8 := Lib.hid (HB7.out.trans (hb.mono HB7.out.size)); clear hc hb)
                      | (at_builtin; refine plain_append_bytes (.tmp 88) (.tmp 95) rfl rfl wA.heap.size _ ac3 (digs (offN x) 4) ⟨g2, 0, none⟩ 4 c2' rfl rfl (digs_len _ 4) HO8.out HCN.out (by have := HAL.out; omega) HB8.out.size ?_; intro v9 w9 hO hG; have HO9 := Lib.hid hO; have HB9 := Lib.hid (HB8.out.trans (grew_below HO8.out hG (Nat.le_refl _) HB8.out.size)); clear hO hG)
                      | (at_builtin; refine plain_append_bytes (.tmp 97) (.tmp 101) rfl rfl wA.heap.size _ (ac3 ++ digs (offN x) 4) [1, (m : Int) % 256] ⟨w9.heap.size, 0, none⟩ 2 2 rfl rfl rfl (HO9.out.alloc _) (two_cells w9 _ _ _) (by have := HAL.out; rw [List.length_append, digs_len]; omega) (by have := HB9.out.size; simp; omega) ?_; intro v10 w10 hO hG; have HO10 := Lib.hid hO; have HB10 := Lib.hid (HB9.out.trans (grew_below HO9.out hG.ahead (Nat.le_refl _) HB9.out.size)); clear hO hG; have q0 := HC.out _ HB10.out 0 _ rfl; have k2 := cells_at g HB10.out HGX.out D2.out)
                      | fail)
                    refine ⟨⟨k4 + 1, _, hlt4, by go_num, ?_, ?_, ?_, HO10.out, HB10.out⟩, by simp [intOf]; omega⟩
                    · rw [take_one HX.out, letters_snoc, HM.out]; congr 1
                    · rw [← HAC.out, drop_one HX.out, take_one HX.out, letters_snoc, HM.out]
                      simp [typesB, HDV.out]
                    · have := HAL.out
                      simp [digs_len]; omega
                  | false =>
                    have HDV : Hid (dstB x = 0) := Lib.hid (by rw [HDB.out]; rfl)
                    go_wp2_with (first
                      | (go_at_call 31; refine (HNU.out _).mono ?_; clear HNU q0 q1 q2 q3 c0 c1 c2; rintro e V ⟨g2, c2', rfl, hc, hb⟩; have HCN := Lib.hid hc; have HO8 := Lib.hid (HO7.out.keep hb); have HB8 := Lib.hid (HB7.out.trans (hb.mono HB7.out.size)); clear hc hb)
                      | (at_builtin; refine plain_append_bytes (.tmp 88) (.tmp 95) rfl rfl wA.heap.size _ ac3 (digs (offN x) 4) ⟨g2, 0, none⟩ 4 c2' rfl rfl (digs_len _ 4) HO8.out HCN.out (by have := HAL.out; omega) HB8.out.size ?_; intro v9 w9 hO hG; have HO9 := Lib.hid hO; have HB9 := Lib.hid (HB8.out.trans (grew_below HO8.out hG (Nat.le_refl _) HB8.out.size)); clear hO hG)
                      | (at_builtin; refine plain_append_bytes (.tmp 97) (.tmp 101) rfl rfl wA.heap.size _ (ac3 ++ digs (offN x) 4) [0, (m : Int) % 256] ⟨w9.heap.size, 0, none⟩ 2 2 rfl rfl rfl (HO9.out.alloc _) (two_cells w9 _ _ _) (by have := HAL.out; rw [List.length_append, digs_len]; omega) (by have := HB9.out.size; simp; omega) ?_; intro v10 w10 hO hG; have HO10 := Lib.hid hO; have HB10 := Lib.hid (HB9.out.trans (grew_below HO9.out hG.ahead (Nat.le_refl _) HB9.out.size)); clear hO hG; have q0 := HC.out _ HB10.out 0 _ rfl; have k2 := cells_at g HB10.out HGX.out D2.out)
                      | fail)
                    refine ⟨⟨k4 + 1, _, hlt4, by go_num, ?_, ?_, ?_, HO10.out, HB10.out⟩, by simp [intOf]; omega⟩
                    · rw [take_one HX.out, letters_snoc, HM.out]; congr 1
                    · rw [← HAC.out, drop_one HX.out, take_one HX.out, letters_snoc, HM.out]
                      simp [typesB, HDV.out]
                    · have := HAL.out
                      simp [digs_len]; omega
                · have hk5 : ¬ (k4 : Int) < (z.types.length : Int) := by omega
                  have hacc : ac3 = topB z ++ timesB z.times ++ indexB z.index ++ typesB z.types 0 := by
                    have := HAC.out
                    rw [List.drop_eq_nil_of_le (by omega)] at this
                    rw [← HAC3.out, ← this]; simp [typesB]
                  have HAC4 := Lib.hid hacc
                  have HAL4 : Hid (ac3.length ≤ 40000) := Lib.hid (by have := HAL.out; omega)
                  clear hacc HAC HAC3 HAL HAL3
                  go_wp2_with fail
                  clear q0 q1 q2 q3
                  go_loopw [5, 11] (fun u i wr => ∃ (k : Nat) (ac4 : List Int), k ≤ z.types.length ∧ i = .int .i64 k ∧ ac4 ++ lettersB (z.types.drop k) = ac3 ++ lettersB z.types ∧ ac4.length ≤ 40000 + 16 * k ∧ Own wr wA.heap.size u ac4 ∧ Below wA.heap.size wA wr) (fun _ i _ => z.types.length - (intOf i).toNat)
                  case atStart => exact ⟨0, ac3, by omega, rfl, rfl, by have := HAL4.out; omega, HO7.out, HB7.out⟩
                  case round =>
                    obtain ⟨k5, ac4, hk5, rfl, hacc, hal, ho, hg⟩ := hrel
                    have HAC := Lib.hid hacc; have HAL := Lib.hid hal; have HO8 := Lib.hid ho; have HB8 := Lib.hid hg
                    clear hacc hal ho hg HO7 HB7
                    have q0 := HC.out _ HB8.out 0 _ rfl; have q1 := HC.out _ HB8.out 1 _ rfl; have q2 := HC.out _ HB8.out 2 _ rfl; have q3 := HC.out _ HB8.out 3 _ rfl
                    by_cases hlt5 : k5 < z.types.length
                    · have hk0 : (0 : Int) ≤ (k5 : Int) := by omega
                      have hk6 : (k5 : Int) < (z.types.length : Int) := by omega
                      obtain ⟨x, hx⟩ : ∃ x, z.types[k5]? = some x := ⟨_, List.getElem?_eq_getElem hlt5⟩
                      obtain ⟨g, off, c', hv, hg, c0, c1, c2⟩ := (HZ.out _ HB8.out).types.ty hx
                      injection hv with ea _ ec
                      subst ea; subst ec
                      have HS := Lib.hid (HTY.out x (List.mem_of_getElem? hx)).1
                      have HX := Lib.hid hx
                      clear hx hg
                      go_wp2_with (first
                        | (at_builtin; refine plain_append_text (.tmp 120) (.tmp 126) rfl rfl wA.heap.size _ ac4 x.abbr rfl rfl HO8.out (by have := HAL.out; have := HS.out; omega) HB8.out.size ?_; intro b5 w5 hO5 hG5; have HO9 := Lib.hid hO5; have HB9 := Lib.hid (HB8.out.trans (grew_below HO8.out hG5 (Nat.le_refl _) HB8.out.size)); clear hO5 hG5 q0 q1 q2 q3 c0 c1 c2)
                        | (at_builtin; refine plain_append_bytes (.tmp 128) (.tmp 129) rfl rfl wA.heap.size _ (ac4 ++ bytesOf x.abbr) [0] ⟨w5.heap.size, 0, none⟩ 1 1 rfl rfl rfl (HO9.out.alloc _) (one_cell (new_cell _ _ rfl _ _)) (by have := HAL.out; have := HS.out; rw [List.length_append, bytesOf_len]; omega) (by have := HB9.out.size; simp; omega) ?_; intro b6 w6 hO6 hG6; have HO10 := Lib.hid hO6; have HB10 := Lib.hid (HB9.out.trans (grew_below HO9.out hG6.ahead (Nat.le_refl _) HB9.out.size)); clear hO6 hG6)
                        | fail)
                      exact ⟨⟨k5 + 1, _, by omega, by go_num, by rw [← HAC.out, drop_one HX.out]; simp [lettersB], by have := HAL.out; have := HS.out; rw [List.length_append, List.length_append, bytesOf_len]; show _ + _ + 1 ≤ _; omega, HO10.out, HB10.out⟩, by simp [intOf]; omega⟩
                    · have hk6 : ¬ (k5 : Int) < (z.types.length : Int) := by omega
                      have hacc : ac4 = ac3 ++ lettersB z.types := by
                        have := HAC.out
                        rw [List.drop_eq_nil_of_le (by omega)] at this
                        rw [← this]; simp [lettersB]
                      have HFI : Hid (putB z = ac4 ++ [10] ++ bytesOf z.footer ++ [10]) := Lib.hid (by rw [hacc, HAC4.out]; rfl)
                      have HAL5 : Hid (ac4.length ≤ 50000) := Lib.hid (by have := HAL.out; omega)
                      clear hacc HAC
                      go_wp2_with (first
                        | (at_builtin; refine plain_append_bytes (.tmp 131) (.tmp 132) rfl rfl wA.heap.size _ ac4 [10] ⟨_, 0, none⟩ 1 1 rfl rfl rfl (HO8.out.alloc _) (one_cell (new_cell _ _ rfl _ _)) (by have := HAL5.out; show _ + 1 ≤ _; omega) (by have := HB8.out.size; simp; omega) ?_; intro b6 w6 hO6 hG6; have HO9 := Lib.hid hO6; have HB9 := Lib.hid (HB8.out.trans (grew_below HO8.out hG6.ahead (Nat.le_refl _) HB8.out.size)); clear hO6 hG6 q0 q1 q2 q3; have q3 := HC.out _ HB9.out 3 _ rfl)
                        | (at_builtin; refine plain_append_text (.tmp 134) (.tmp 136) rfl rfl wA.heap.size _ (ac4 ++ [10]) z.footer rfl rfl HO9.out (by have := HAL5.out; rw [List.length_append]; show _ + 1 + _ ≤ _; omega) HB9.out.size ?_; intro b7 w7 hO7 hG7; have HO10 := Lib.hid hO7; have HB10 := Lib.hid (HB9.out.trans (grew_below HO9.out hG7 (Nat.le_refl _) HB9.out.size)); clear hO7 hG7)
                        | (at_builtin; refine plain_append_bytes (.tmp 138) (.tmp 139) rfl rfl wA.heap.size _ ((ac4 ++ [10]) ++ bytesOf z.footer) [10] ⟨_, 0, none⟩ 1 1 rfl rfl rfl (HO10.out.alloc _) (one_cell (new_cell _ _ rfl _ _)) (by have := HAL5.out; rw [List.length_append, List.length_append, bytesOf_len]; show _ + 1 + _ + 1 ≤ _; omega) (by have := HB10.out.size; simp; omega) ?_; intro b8 w8 hO8 hG8; have HO11 := Lib.hid hO8; have HB11 := Lib.hid (HB10.out.trans (grew_below HO10.out hG8.ahead (Nat.le_refl _) HB10.out.size)); clear hO8 hG8)
                        | fail)
                      go_ret
                      exact ⟨_, rfl, by rw [HFI.out]; exact HO11.out.lower HB0.out.size, HB0.out.trans (HB11.out.mono HB0.out.size)⟩
end Go.Proofs.Ytljkcnoicdhchaa.Tz
