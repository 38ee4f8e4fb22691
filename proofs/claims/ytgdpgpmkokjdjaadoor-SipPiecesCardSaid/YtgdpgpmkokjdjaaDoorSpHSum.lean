/-
  What (*clepsydra/sip.Hash).Sum answers: the hash of all that was added.
-/
import Derived.Test.YtgdpgpmkokjdjaaDoorSpAdd
namespace Go.Proofs.YtgdpgpmkokjdjaaDoor.Sp
open Go.RowKit

theorem last_cells : ∀ (ys : List Int) (c : Int), ys.length ≤ 7 → (splice (List.replicate 8 (by8 0)) 0 (ys.map by8)).set 7 (by8 c) = ((ys ++ List.replicate 8 0).take 7 ++ [c]).map by8
  | [], _, _ => rfl
  | [_], _, _ => rfl
  | [_, _], _, _ => rfl
  | [_, _, _], _, _ => rfl
  | [_, _, _, _], _, _ => rfl
  | [_, _, _, _, _], _, _ => rfl
  | [_, _, _, _, _, _], _, _ => rfl
  | [_, _, _, _, _, _, _], _, _ => rfl
  | _ :: _ :: _ :: _ :: _ :: _ :: _ :: _ :: _, _, h => by simp at h
theorem last_len (bs : List Int) : (last bs).length = 8 := by unfold last; simp
theorem last_bytes {bs : List Int} (h : Bytes bs) : Bytes (last bs) := by
  unfold last
  refine (Bytes.take ((h.drop _).app ?_) 7).app ?_
  · intro z hz; rw [(List.mem_replicate.1 hz).2]; omega
  · intro z hz; rw [List.mem_singleton.1 hz]; omega

set_option maxHeartbeats 4000000 in
set_option maxRecDepth 100000 in
theorem hsum_any (g : Nat) (k bs : List Int) (v : Int) (w : World) (hh : Has w g k bs) (hb : Bytes bs) (hv : hash k bs = v) :
    Calls Tryd.prog 13 #[.pointer (some ⟨g, 0, none⟩)] w fun e w' => e = .returned (.int .u64 v) ∧ Below w.heap.size w w' := by
  obtain ⟨l, hl, hlb, ht, ho⟩ := hh
  have hgl := ho.lt
  obtain ⟨q, hq⟩ : ∃ q, feed (init k) bs (bs.length / 8) = q := ⟨_, rfl⟩
  have hv' : fin q (num (last bs)) = v := by rw [← hq]; exact hv
  rw [hq] at ho
  have HV := Lib.hid hv'; clear hv hv' hq
  obtain ⟨q1, h1⟩ : ∃ q1, eat q (num (last bs)) = q1 := ⟨_, rfl⟩
  obtain ⟨a1, b1, c1, d1⟩ := q1
  obtain ⟨x, hx⟩ : ∃ x, bits .xor .u64 c1 255 = x := ⟨_, rfl⟩
  obtain ⟨q2, h2⟩ : ∃ q2, rnds 4 ⟨a1, b1, x, d1⟩ = q2 := ⟨_, rfl⟩
  obtain ⟨a2, b2, c2, d2⟩ := q2
  have HF : Hid (v = bits .xor .u64 (bits .xor .u64 (bits .xor .u64 a2 b2) c2) d2) := by
    rw [← HV.out]
    show (let r := eat q (num (last bs)); let s := rnds 4 ⟨r.a, r.b, xr r.c 255, r.d⟩; xr (xr (xr s.a s.b) s.c) s.d) = _
    rw [h1]
    show (let s := rnds 4 ⟨a1, b1, bits .xor .u64 c1 255, d1⟩; xr (xr (xr s.a s.b) s.c) s.d) = _
    rw [hx, h2]; rfl
  have H1 := Lib.hid h1; clear h1
  have H2 := Lib.hid h2; clear h2
  obtain ⟨C, hC⟩ : ∃ C, bs.length % 256 = C := ⟨_, rfl⟩
  obtain ⟨r, hrr⟩ : ∃ r, bs.length % 8 = r := ⟨_, rfl⟩
  have hmod : (C : Int) % 8 = (r : Int) := by omega
  have hmodt : (C : Int).tmod 8 = (r : Int) := by rw [Int.tmod_eq_emod_of_nonneg (by omega)]; exact hmod
  have hC1 : C ≤ 255 := by omega
  have hr8 : r < 8 := by omega
  have hr0 : (0 : Int) ≤ (r : Int) := by omega
  have hr9 : (r : Int) ≤ 8 := by omega
  rw [hC] at ho
  obtain ⟨ys, hys⟩ : ∃ ys, l.take r = ys := ⟨_, rfl⟩
  have hyl : (ys.map by8).length = r := by rw [List.length_map, ← hys, List.length_take]; omega
  have htl : bs.drop (8 * (bs.length / 8)) = ys := by rw [← ht, hrr, hys]
  have hlast : (ys ++ List.replicate 8 0).take 7 ++ [(C : Int)] = last bs := by unfold last; rw [htl, hC]
  have hl7 : ys.length ≤ 7 := by rw [List.length_map] at hyl; omega
  have cnt : w.cell? ⟨g, 12, none⟩ = some (.int .u8 (C : Int)) := by rw [ho.cell]; exact hc_count _ _ _ hl
  have HU := Lib.hid u8_size
  have HT := Lib.hid ht; have HL := Lib.hid hl; have HC := Lib.hid hC; have HRR := Lib.hid hrr; have HYS := Lib.hid hys; have HYL := Lib.hid hyl; have HTL := Lib.hid htl; have HLA := Lib.hid hlast; have HO := Lib.hid ho
  clear ht hl hC hrr hys hyl htl hlast ho
  have hne1 : ¬ (g = w.heap.size) := by omega
  have hne2 : ¬ (w.heap.size = g) := by omega
  go_enter Tryd.func13, Tryd.ntmps13
  go_wp2_with fail
  refine wp_world (fun W => Hold W w.heap.size 49 (List.replicate 8 (by8 0)) ∧ Hold W g 51 (hcells q l (C : Int)) ∧ Below w.heap.size w W) ⟨Hold.new _ _ _, HO.out.alloc _, (Below.refl _ _).alloc (Nat.le_refl _) _⟩ ?_
  rintro W ⟨hh1, hh2, hb1⟩
  have cnt1 : W.cell? ⟨g, 12, none⟩ = some (.int .u8 (C : Int)) := by rw [hh2.cell]; exact hc_count _ _ _ HL.out
  have HH1 := Lib.hid hh1; have HH2 := Lib.hid hh2; clear hh1 hh2
  refine wp_region_still_tail 10 (by kernel_rfl) (by kernel_rfl) ?_
  simp only [List.take_succ_cons, List.take_zero, List.drop_succ_cons, List.drop_zero]
  repeat still_step
  refine wpStill_nil ?_
  change wpList _ _ _ _ _ W.drew
  refine wpList_copy_splice rfl (.tmp 7) (.tmp 16) 24 24 rfl 5 Tryd.underlying24 HU.out (some ⟨w.heap.size, 0, none⟩) (some ⟨g, 4, none⟩) 8 8 r 8 rfl rfl w.heap.size 0 (List.replicate 8 (by8 0)) 49 HH1.out (ys.map by8)
        (by rw [HYL.out]; exact (Nat.min_eq_left (by omega)).symm) (fun _ => ⟨rfl, _, rfl, fun i v hv => ?_⟩) (by rw [HYL.out]; simp; omega) (fun v hv => by obtain ⟨z, _, rfl⟩ := List.mem_map.1 hv; rfl) w.heap.size w hb1.drew (Nat.le_refl _) ?_
  · rw [List.getElem?_map] at hv
    cases hz : ys[i]? with
    | none => rw [hz] at hv; cases hv
    | some z =>
      rw [hz] at hv
      have hz' : l[i]? = some z := by
        rw [← HYS.out, List.getElem?_take] at hz
        split at hz
        · exact hz
        · cases hz
      show W.cell? _ = _
      rw [add_lit, HH2.out.cell, hc_left _ _ _ i z hz']; exact hv
  intro w2 HG2 hb2
  have h2g : Hold w2 g 51 (hcells q l (C : Int)) := HO.out.below hb2 hgl
  have h2h : Hold w2 w.heap.size 49 (splice (List.replicate 8 (by8 0)) 0 (ys.map by8)) := HG2.out
  have cnt2 : w2.cell? ⟨g, 12, none⟩ = some (.int .u8 (C : Int)) := by rw [h2g.cell]; exact hc_count _ _ _ HL.out
  obtain ⟨q0, q1, q2, q3⟩ := Q.cell4 (a := q.a) (b := q.b) (c := q.c) (d := q.d) (tl := l.map by8 ++ [by8 (C : Int)]) h2g
  have c7 : ∃ u, w2.cell? ⟨w.heap.size, 7, none⟩ = some u := by
    rw [h2h.cell]
    refine ⟨_, List.getElem?_eq_getElem ?_⟩
    rw [length_splice _ _ _ (by rw [HYL.out]; simp; omega)]; simp
  obtain ⟨u7, c7⟩ := c7
  have f7 := h2h.frozen 7
  have HH2g := Lib.hid h2g; have HH2h := Lib.hid h2h
  clear h2g h2h HG2
  go_wp2_with fail
  have hrow : Hold ((w2.setCell ⟨w.heap.size, 7, none⟩ (by8 (C : Int))).alloc (.cells #[wd q.a, wd q.b, wd q.c, wd q.d] 48)) w.heap.size 49 ((last bs).map by8) := by
    rw [← HLA.out, ← last_cells ys _ hl7]
    exact (HH2h.out.set 7 _).alloc _
  refine (number_any (some ⟨w.heap.size, 0, none⟩) 8 8 (w.heap.size + 1) (last bs) _ (Row.of_hold hrow (by omega) (last_len bs) (fun j z hz => by rw [List.getElem?_map, show 0 + j = j by omega, hz]; rfl)) (last_bytes hb) (by omega)).mono ?_
  rintro e w3 ⟨rfl, rfl⟩
  go_wp2_with fail
  have hv4 : Hold ((w2.setCell ⟨w.heap.size, 7, none⟩ (by8 (C : Int))).alloc (.cells #[wd q.a, wd q.b, wd q.c, wd q.d] 48)) w2.heap.size 48 (q.cells ++ []) := by
    have h := Hold.new (w2.setCell ⟨w.heap.size, 7, none⟩ (by8 (C : Int))) 48 q.cells
    rw [show (w2.setCell ⟨w.heap.size, 7, none⟩ (by8 (C : Int))).heap.size = w2.heap.size by simp [World.setCell]] at h
    rw [List.append_nil]; exact h
  refine (take_any w2.heap.size 48 q [] (num (last bs)) _ hv4).mono ?_
  rintro e w4 ⟨rfl, ho4⟩
  rw [H1.out] at ho4
  have hb4 : Below w.heap.size w w4 := gb_new ((hb2.setCell (Nat.le_refl _) _).alloc (by have := hb2.size; simpa [World.setCell] using this) _) ho4.fr (by have := hb2.size; simp [World.setCell]; omega) hb2.size
  obtain ⟨k0, k1, k2, k3⟩ := Q.cell4 ho4.hold
  obtain ⟨f0, f1, f2, f3⟩ := Q.free4 ho4.hold
  have HO4 := Lib.hid ho4.hold; have HB4 := Lib.hid hb4
  clear ho4 hb4 hrow hv4 cnt2 q0 q1 q2 q3 c7 f7
  have hz4 : w.heap.size ≤ w2.heap.size := hb2.size
  go_wp2_with fail
  refine (rounds_four w2.heap.size 48 ⟨a1, b1, x, d1⟩ [] _ (HO4.out.set 2 _)).mono ?_
  rintro e w5 ⟨rfl, ho5⟩
  rw [H2.out] at ho5
  obtain ⟨m0, m1, m2, m3⟩ := Q.cell4 ho5.hold
  have hb5 : Below w.heap.size w w5 := gb_new (HB4.out.setCell hz4 _) ho5.fr (by have := HB4.out.size; simp [World.setCell]; omega) hz4
  have HB5 := Lib.hid hb5
  clear ho5 hb5 k0 k1 k2 k3 f0 f1 f2 f3
  go_wp2_with fail
  go_ret
  exact ⟨ret_int HF.out.symm, HB5.out⟩

set_option maxHeartbeats 1000000 in
theorem hsum_nil (w : World) : Calls Tryd.prog 13 #[.pointer none] w fun e w' => e = .returned (.int .u64 0) ∧ w = w' := by
  go_enter Tryd.func13, Tryd.ntmps13
  go_wp2
  go_ret
  exact ⟨rfl, rfl⟩
set_option maxHeartbeats 1000000 in
theorem add_nil (v : Value) (w : World) : Calls Tryd.prog 12 #[.pointer none, v] w fun e w' => e = .returned (.tuple #[]) ∧ w = w' := by
  go_enter Tryd.func12, Tryd.ntmps12
  go_wp2
  exact bodyPost_ret (results_none rfl _ _ _) rfl ⟨rfl, rfl⟩
end Go.Proofs.YtgdpgpmkokjdjaaDoor.Sp
