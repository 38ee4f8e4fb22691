/-
  The closed law SipKnown.
-/
import Derived.Test.YtgdpgpmkokjdjaaDoorSipKeysWalk
import Derived.Test.YtgdpgpmkokjdjaaDoorSipPiecesWalk
import Derived.Test.YtgdpgpmkokjdjaaDoorSipDigitsWalk
namespace Go.Proofs.YtgdpgpmkokjdjaaDoor.Sp
open Go.RowKit

/-- What the first loop keeps. -/
def KS (w0 : World) (v : Value) (n : Nat) (kk xs : List Int) (W : World) : Prop :=
  Hold W w0.heap.size 23 (kk.map by8) ∧ Own W (w0.heap.size + 1) v xs ∧ Below w0.heap.size w0 W ∧ xs.length = n ∧ kk.length = 16 ∧ Bytes kk ∧ Bytes xs
theorem KS.go {w0 W W' : World} {v : Value} {n : Nat} {kk xs : List Int} (h : KS w0 v n kk xs W) (hb : Below W.heap.size W W') : KS w0 v n kk xs W' :=
  ⟨h.1.below hb h.1.lt, h.2.1.keep hb, h.2.2.1.trans (hb.mono h.2.2.1.size), h.2.2.2⟩
theorem Bytes.set {k : List Int} (h : Bytes k) (j : Nat) {z : Int} (hz : 0 ≤ z ∧ z ≤ 255) : Bytes (k.set j z) := fun u hu => by
  rcases List.mem_or_eq_of_mem_set hu with a | rfl
  · exact h u a
  · exact hz
theorem KS.key {w0 W : World} {v : Value} {n : Nat} {kk xs : List Int} (h : KS w0 v n kk xs W) (j : Nat) {y : Int} (hy : 0 ≤ y ∧ y ≤ 255) : KS w0 v n (kk.set j y) xs (W.setCell ⟨w0.heap.size, j, none⟩ (by8 y)) := by
  obtain ⟨a, b, c, d, e, f, g⟩ := h
  refine ⟨?_, b.far (p := ⟨w0.heap.size, j, none⟩) (by show w0.heap.size < _; omega) _, c.setCell (Nat.le_refl _) _, d, by rw [List.length_set]; exact e, f.set _ hy, g⟩
  have h1 := a.set j (by8 y)
  rw [← List.map_set] at h1; exact h1
theorem KS.app {w0 W w' : World} {v v' : Value} {n : Nat} {kk xs : List Int} {z : Int} {o : Obj} (h : KS w0 v n kk xs W) (hz : 0 ≤ z ∧ z ≤ 255) (hown : Own w' (w0.heap.size + 1) v' (xs ++ [z])) (hgr : (W.alloc o).grownBy w' v.ownBlock) : KS w0 v' (n + 1) kk (xs ++ [z]) w' := by
  obtain ⟨a, b, c, d, e, f, g⟩ := h
  have hz0 : w0.heap.size + 1 ≤ W.heap.size := a.lt
  have b2 := b.alloc o
  exact ⟨(a.alloc o).keep (hgr.block _ (by simp; omega) (fun e => by have := (b2.lt _ e.symm).1; omega)), hown, (c.alloc c.size o).trans (own_below b2 hgr (Nat.le_succ _) (by simp; omega)), by rw [List.length_append, d]; rfl, e, f, g.app (fun u hu => by rw [List.mem_singleton.1 hu]; exact hz)⟩
theorem zeros_bytes : Bytes zeros := fun z hz => by rw [(List.mem_replicate.1 hz).2]; omega
def strL : List ByteArray := [⟨#[]⟩, ⟨#[32]⟩, ⟨#[48]⟩, ⟨#[103, 48, 48, 49, 48, 50, 48, 51, 48, 52, 48, 53, 48, 54, 48, 55, 48, 56, 48, 57, 48, 65, 48, 98, 48, 99, 48, 100, 48, 101, 48, 102]⟩,
  ⟨#[48, 48, 48, 49, 48, 50, 48, 51, 48, 52, 48, 53, 48, 54, 48, 55, 48, 56, 48, 57, 48, 65, 48, 98, 48, 99, 48, 100, 48, 101, 48, 102, 48]⟩, ⟨#[32, 48, 48, 49, 48, 50, 48, 51, 48, 52, 48, 53, 48, 54, 48, 55, 48, 56, 48, 57, 48, 65, 48, 98, 48, 99, 48, 100, 48, 101, 48, 102]⟩,
  ⟨#[48, 48, 48, 49, 48, 50, 48, 51, 48, 52, 48, 53, 48, 54, 48, 55, 48, 56, 48, 57, 48, 65, 48, 98, 48, 99, 48, 100, 48, 101, 32, 10]⟩]
theorem strL_size : ∀ s ∈ strL, s.size ≤ 1000 := by
  intro s hs
  simp only [strL, List.mem_cons, List.not_mem_nil, or_false] at hs
  rcases hs with rfl | rfl | rfl | rfl | rfl | rfl | rfl <;> decide
theorem strL_at (k : Nat) (hk : k < 7) : ∃ s : ByteArray, (strL.map Value.string)[k]? = some (.string s) ∧ s.size ≤ 1000 := by
  have hl : k < strL.length := hk
  exact ⟨strL[k], by rw [List.getElem?_map, List.getElem?_eq_getElem hl]; rfl, strL_size _ (List.getElem_mem hl)⟩

set_option maxHeartbeats 8000000 in
set_option maxRecDepth 100000 in
theorem sipKnown_any (w : World) : Calls Tryd.prog 7 #[] w fun e w' => e = .returned (.bool true) ∧ Below w.heap.size w w' := by
  go_enter Tryd.func7, Tryd.ntmps7
  go_wp2_with fail
  go_loopw [2, 3] (fun v i wr => ∃ (n : Nat) (kk xs : List Int), n ≤ 300 ∧ i = .int .i64 n ∧ KS w v n kk xs wr) (fun _ i _ => 300 - (intOf i).toNat)
  case atStart => exact ⟨0, zeros, [], by omega, rfl, Hold.new w _ (zeros.map by8), Own.nil _ _, (Below.refl _ _).alloc (Nat.le_refl _) _, rfl, rfl, zeros_bytes, fun z hz => by cases hz⟩
  case round =>
    obtain ⟨n, kk, xs, hn, rfl, hks⟩ := hrel
    by_cases hlt : n < 300
    · obtain ⟨y, hy⟩ : ∃ y, IntKind.u8.wrap ((n : Int) * 7) = y := ⟨_, rfl⟩
      have hyr : 0 ≤ y ∧ y ≤ 255 := by rw [← hy, IntKind.wrap_u8]; omega
      obtain ⟨m, hm⟩ : ∃ m : Int, (n : Int) * (n : Int) = m := ⟨_, rfl⟩
      have hmr : 0 ≤ m ∧ m ≤ 90000 := by
        rw [← hm]
        have h1 : n * n ≤ 300 * 300 := Nat.mul_le_mul (by omega) (by omega)
        have h2 : ((n * n : Nat) : Int) = (n : Int) * n := by simp
        omega
      obtain ⟨hm0, hm1⟩ := hmr
      obtain ⟨u, hu⟩ : ∃ u, IntKind.u8.wrap m = u := ⟨_, rfl⟩
      have hur : 0 ≤ u ∧ u ≤ 255 := by rw [← hu, IntKind.wrap_u8]; omega
      have hcell : ∃ x, wr.cell? ⟨w.heap.size, n % 16, none⟩ = some x := by
        rw [hks.1.cell]; exact ⟨_, List.getElem?_eq_getElem (by rw [List.length_map, hks.2.2.2.2.1]; omega)⟩
      obtain ⟨x, hcell⟩ := hcell
      have hfr := hks.1.frozen (n % 16)
      have hwz : w.heap.size + 1 ≤ wr.heap.size := hks.1.lt
      have hk2 := hks.key (n % 16) hyr
      obtain ⟨kk2, hkk⟩ : ∃ kk2, kk.set (n % 16) y = kk2 := ⟨_, rfl⟩
      rw [hkk] at hk2
      have HK := Lib.hid hk2; have HUR := Lib.hid hur
      clear hks hk2 hkk hyr hur
      by_cases h40 : n < 40
      · go_wp2_with (first
          | (at_builtin; refine plain_append_byte (.tmp 17) (.tmp 22) rfl rfl (w.heap.size + 1) _ xs u ⟨wr.heap.size, 0, none⟩ 1 rfl rfl (HK.out.2.1.alloc _) (new_cell _ _ (set_size _ _ _) _ _) (by have := HK.out.2.2.2.1; omega) (by simp [World.setCell]; omega) ?_; intro v' w' hown hgr; have HK3 := Lib.hid (HK.out.app HUR.out hown hgr); clear hown hgr HK hcell hfr)
          | (refine want_load_arr 23 23 5 16 (.tmp 1) w.heap.size (kk2.map by8) rfl rfl rfl Tryd.underlying23 (key_info HK3.out.2.2.2.2.1) HK3.out.1 ?_)
          | fail)
        obtain ⟨ys, hys⟩ : ∃ ys, xs ++ [u] = ys := ⟨_, rfl⟩
        rw [hys] at HK3
        clear hys
        obtain ⟨A, c, hv, hc, hrow⟩ := HK3.out.2.1.read (by have := HK3.out.2.2.2.1; omega)
        subst hv
        have hxl := HK3.out.2.2.2.1
        refine (sipSums_any w'.heap.size _ c A kk2 ys w' HK3.out.2.2.2.2.1 HK3.out.2.2.2.2.2.1 hrow HK3.out.2.2.2.2.2.2 (Nat.le_refl _) hc (by omega)).mono ?_
        rintro e w3 ⟨rfl, hb3⟩
        have HK4 := Lib.hid (HK3.out.go hb3)
        clear hb3 hrow
        have HXL := Lib.hid hxl; clear hxl
        go_wp2_with (first
          | (refine want_load_arr 23 23 5 16 (.tmp 1) w.heap.size (kk2.map by8) rfl rfl rfl Tryd.underlying23 (key_info HK4.out.2.2.2.2.1) HK4.out.1 ?_)
          | fail)
        have hcut : Row (w3.alloc (.cells ([(n : Int), 1, 7, 8, 9].map by8).toArray 5)) (w3.alloc (.cells ([(n : Int), 1, 7, 8, 9].map by8).toArray 5)).heap.size (some ⟨w3.heap.size, 0, none⟩) 5 [(n : Int), 1, 7, 8, 9] :=
          Row.of_hold (Hold.new w3 5 ([(n : Int), 1, 7, 8, 9].map by8)) (by simp) rfl (fun j z hz => by rw [show 0 + j = j by omega, List.getElem?_map, hz]; rfl)
        have hcb : Bytes [(n : Int), 1, 7, 8, 9] := fun z hz => by
          simp only [List.mem_cons, List.not_mem_nil, or_false] at hz
          omega
        have HK5 := Lib.hid (HK4.out.go ((Below.refl w3.heap.size w3).alloc (Nat.le_refl _) (.cells ([(n : Int), 1, 7, 8, 9].map by8).toArray 5)))
        obtain ⟨A', c', hv', hc', hrow'⟩ := HK5.out.2.1.read (by have := HXL.out; omega)
        obtain ⟨rfl, _, rfl⟩ : A = A' ∧ True ∧ c = c' := by injection hv' with a b c; exact ⟨a, trivial, c⟩
        refine (sipPieces_any _ c 5 5 A (some ⟨w3.heap.size, 0, none⟩) kk2 ys [(n : Int), 1, 7, 8, 9] _ HK5.out.2.2.2.2.1 HK5.out.2.2.2.2.2.1 hrow' HK5.out.2.2.2.2.2.2 hc (by have := HXL.out; omega) hcut hcb (Nat.le_refl _) (by omega)).mono ?_
        rintro e w4 ⟨rfl, hb4⟩
        have HK6 := Lib.hid (HK5.out.go hb4)
        clear hb4 hcut hrow'
        go_wp2_with fail
        exact ⟨⟨n + 1, kk2, ys, hlt, by go_num, HK6.out⟩, by simp [intOf]; omega⟩
      · have h40i : decide ((n : Int) < 40) = false := by apply decide_eq_false; omega
        by_cases h32 : n % 32 < 2
        · have h32i : decide ((n : Int) % 32 < 2) = true := by apply decide_eq_true; omega
          go_wp2_with (first
            | (at_builtin; refine plain_append_byte (.tmp 17) (.tmp 22) rfl rfl (w.heap.size + 1) _ xs u ⟨wr.heap.size, 0, none⟩ 1 rfl rfl (HK.out.2.1.alloc _) (new_cell _ _ (set_size _ _ _) _ _) (by have := HK.out.2.2.2.1; omega) (by simp [World.setCell]; omega) ?_; intro v' w' hown hgr; have HK3 := Lib.hid (HK.out.app HUR.out hown hgr); clear hown hgr HK hcell hfr)
            | (refine want_load_arr 23 23 5 16 (.tmp 1) w.heap.size (kk2.map by8) rfl rfl rfl Tryd.underlying23 (key_info HK3.out.2.2.2.2.1) HK3.out.1 ?_)
            | fail)
          obtain ⟨ys, hys⟩ : ∃ ys, xs ++ [u] = ys := ⟨_, rfl⟩
          rw [hys] at HK3
          clear hys
          obtain ⟨A, c, hv, hc, hrow⟩ := HK3.out.2.1.read (by have := HK3.out.2.2.2.1; omega)
          subst hv
          have hxl := HK3.out.2.2.2.1
          refine (sipSums_any w'.heap.size _ c A kk2 ys w' HK3.out.2.2.2.2.1 HK3.out.2.2.2.2.2.1 hrow HK3.out.2.2.2.2.2.2 (Nat.le_refl _) hc (by omega)).mono ?_
          rintro e w3 ⟨rfl, hb3⟩
          have HK4 := Lib.hid (HK3.out.go hb3)
          clear hb3 hrow
          clear hxl
          go_wp2_with fail
          exact ⟨⟨n + 1, kk2, ys, hlt, by go_num, HK4.out⟩, by simp [intOf]; omega⟩
        · have h32i : decide ((n : Int) % 32 < 2) = false := by apply decide_eq_false; omega
          go_wp2_with (first
            | (at_builtin; refine plain_append_byte (.tmp 17) (.tmp 22) rfl rfl (w.heap.size + 1) _ xs u ⟨wr.heap.size, 0, none⟩ 1 rfl rfl (HK.out.2.1.alloc _) (new_cell _ _ (set_size _ _ _) _ _) (by have := HK.out.2.2.2.1; omega) (by simp [World.setCell]; omega) ?_; intro v' w' hown hgr; have HK3 := Lib.hid (HK.out.app HUR.out hown hgr); clear hown hgr HK hcell hfr)
            | fail)
          exact ⟨⟨n + 1, kk2, xs ++ [u], hlt, by go_num, HK3.out⟩, by simp [intOf]; omega⟩
    · have HK := Lib.hid hks; clear hks
      have hn3 : n = 300 := by omega
      subst hn3
      go_wp2_with fail
      refine (add_nil _ _).mono ?_
      rintro e w1 ⟨rfl, rfl⟩
      have HK1 := Lib.hid (HK.out.go ((Below.refl wr.heap.size wr).alloc (Nat.le_refl _) (.cells #[by8 1, by8 2] 5)))
      go_wp2_with fail
      refine wp_world (fun U => KS w _ 300 kk xs U ∧ Hold U (wr.heap.size + 1) 9 (strL.map Value.string)) ⟨HK1.out.go ((Below.refl _ _).alloc (Nat.le_refl _) _), Hold.new2 wr _ _ (strL.map Value.string)⟩ ?_
      rintro U ⟨hu1, hu2⟩
      obtain ⟨SB, hSB⟩ : ∃ SB, wr.heap.size + 1 = SB := ⟨_, rfl⟩
      rw [hSB] at hu2 ⊢
      have HU1 := Lib.hid hu1; have HU2 := Lib.hid hu2
      clear hSB hu1 hu2 HK HK1
      obtain ⟨wA, rfl⟩ : ∃ wo : World, wo = wr := ⟨_, rfl⟩
      go_loopw [53] (fun i wr => ∃ k : Nat, k ≤ 7 ∧ i = .int .i64 k ∧ KS w _ 300 kk xs wr ∧ Hold wr SB 9 (strL.map Value.string)) (fun i _ => 7 - (intOf i).toNat)
      case atStart => exact ⟨0, by omega, rfl, HU1.out, HU2.out⟩
      case round =>
        obtain ⟨j, hj, rfl, hk1, hs1⟩ := hrel
        have HK1 := Lib.hid hk1; have HS1 := Lib.hid hs1
        clear hk1 hs1
        by_cases hjl : j < 7
        · obtain ⟨s, hs, hss⟩ := strL_at j hjl
          have hc : wr.cell? ⟨SB, j, none⟩ = some (.string s) := by rw [HS1.out.cell]; exact hs
          clear hs
          go_wp2_with fail
          refine (sipKeys_any s _ (by omega)).mono ?_
          rintro e w2 ⟨rfl, hb2⟩
          have HK2 := Lib.hid (HK1.out.go hb2)
          have HS2 := Lib.hid (HS1.out.below hb2 HS1.out.lt)
          clear hb2 hc
          go_wp2_with fail
          exact ⟨⟨j + 1, hjl, by go_num, HK2.out, HS2.out⟩, by simp [intOf]; omega⟩
        · have hj7 : j = 7 := by omega
          subst hj7
          go_wp2_with fail
          refine (hsum_nil _).mono ?_
          rintro e w2 ⟨rfl, rfl⟩
          go_wp2_with fail
          refine (sipSums_any 0 0 0 none zeros [] _ rfl zeros_bytes Row.nil (fun z hz => by cases hz) (Nat.zero_le _) (Nat.le_refl _) (by omega)).mono ?_
          rintro e w3 ⟨rfl, hb3⟩
          have HK3 := Lib.hid (HK1.out.go hb3)
          clear hb3
          go_wp2_with (first
            | (refine want_load_arr 23 23 5 16 (.tmp 1) w.heap.size (kk.map by8) rfl rfl rfl Tryd.underlying23 (key_info HK3.out.2.2.2.2.1) HK3.out.1 ?_)
            | fail)
          refine (sipDigits_any kk 4042322160 3 103 _ HK3.out.2.2.2.2.1 HK3.out.2.2.2.2.2.1 (by omega) (by omega) (by omega)).mono ?_
          rintro e w4 ⟨rfl, hb4⟩
          have HK4 := Lib.hid (HK3.out.go hb4)
          clear hb4
          go_wp2_with (first
            | (refine want_load_arr 23 23 5 16 (.tmp 1) w.heap.size (kk.map by8) rfl rfl rfl Tryd.underlying23 (key_info HK4.out.2.2.2.2.1) HK4.out.1 ?_)
            | fail)
          refine (sipDigits_any kk 0 31 70 _ HK4.out.2.2.2.2.1 HK4.out.2.2.2.2.2.1 (by omega) (by omega) (by omega)).mono ?_
          rintro e w5 ⟨rfl, hb5⟩
          have HK5 := Lib.hid (HK4.out.go hb5)
          clear hb5
          go_wp2_with fail
          refine (works_any _).mono ?_
          rintro e w6 ⟨rfl, hb6⟩
          have HK6 := Lib.hid (HK5.out.go hb6)
          clear hb6
          go_wp2_with fail
          go_ret
          exact ⟨rfl, HK6.out.2.2.1⟩
end Go.Proofs.YtgdpgpmkokjdjaaDoor.Sp
