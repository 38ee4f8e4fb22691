/-
  TzBf, TzBg, TzBh, TzBi, TzBj, TzBk, one behind the other.
-/
import Derived.Test.YtohpdpcjhmopbaaTzMe
import Derived.Test.YtohpdpcjhmopbaaTzPerm
import Derived.Test.YtohpdpcjhmopbaaShelf
/-! Layer 6 (tzif): a head, read (written by gen_head6.py). -/
namespace Go.Proofs.Ytohpdpcjhmopbaa.Tz
open Go.RowKit

set_option maxRecDepth 100000 in
set_option maxHeartbeats 4000000 in
theorem head_c (l : List Nat) (B g : Nat) (w : World) (vi : Int) (h : Rd w B g l) (hb : ∀ b ∈ l, b < 256) (h44 : 44 ≤ l.length) (hm : l.take 4 = [84, 90, 105, 102]) (hv : (l.getD 4 0 : Int) = vi) (h0 : vi ≠ 0) (h1 : vi ≠ 50) (h2 : vi ≠ 51) :
    Calls Try.prog 44 #[.pointer (some ⟨g, 0, none⟩)] w fun e w' => e = .returned (.tuple #[noHead, .bool false]) ∧ w.grownBy w' (some g) := by
  obtain ⟨P, hP⟩ : ∃ P, w.heap.size = P := ⟨_, rfl⟩
  obtain ⟨W0, hW0⟩ : ∃ W0, w.alloc (.cells #[.int .u8 0, .int .i64 0, .int .i64 0, .int .i64 0, .int .i64 0, .int .i64 0, .int .i64 0] 60) = W0 := ⟨_, rfl⟩
  have hgP : g < P := by rw [← hP]; exact h.lt
  have HP := Lib.hid hP
  have hR0 : Rd W0 B g l := h.below (C := P) (by rw [← hW0, ← hP]; exact (Below.refl _ _).alloc (Nat.le_refl _) _) hgP
  have HR0 := Lib.hid hR0
  have HG0 : Hid (w.grownBy W0 (some g)) := Lib.hid (by rw [← hW0]; exact World.grownBy_alloc w _ _)
  have HS0 : Hid (W0.heap.size = P + 1) := Lib.hid (by rw [← hW0]; simp [hP])
  have HC0 : Hid (∀ i u, (#[.int .u8 0, .int .i64 0, .int .i64 0, .int .i64 0, .int .i64 0, .int .i64 0, .int .i64 0] : Array Value)[i]? = some u → W0.cell? ⟨P, i, none⟩ = some u) := Lib.hid fun i u hu => by rw [← hW0]; exact cell_new w _ _ _ i u hP hu
  have HF0 : Hid (∀ i, W0.frozen? ⟨P, i, none⟩ = false) := Lib.hid fun i => by rw [← hW0, ← hP]; exact frozen_of_row _ _ i _ _ (heap_alloc_new _ _)
  have HKE : Hid (∀ V, W0.grownBy V (some g) → (∀ i u, (#[.int .u8 0, .int .i64 0, .int .i64 0, .int .i64 0, .int .i64 0, .int .i64 0, .int .i64 0] : Array Value)[i]? = some u → V.cell? ⟨P, i, none⟩ = some u) ∧ (∀ i, V.frozen? ⟨P, i, none⟩ = false) ∧ P < V.heap.size) := Lib.hid fun V hV => by
    have hblk : V.heap[P]? = W0.heap[P]? := hV.block P (by rw [HS0.out]; omega) (fun e => by injection e with e; omega)
    exact ⟨fun i u hu => (World.cell?_of_block (a := ⟨P, i, none⟩) hblk).trans (HC0.out i u hu), fun i => (World.frozen?_of_block (a := ⟨P, i, none⟩) hblk).trans (HF0.out i), by have := hV.size; rw [HS0.out] at this; omega⟩
  have H1 : Hid (Calls Try.prog 46 #[.pointer (some ⟨g, 0, none⟩), .int .i64 44] W0 fun e w' => e = .returned (.bool true) ∧ W0 = w') := Lib.hid (by
    have := has_any l B g 44 W0 hR0
    rwa [show decide ((44 : Int) ≤ (l.length : Int)) = true by simp; omega] at this)
  have hS : strOfNums (natsI (l.take 4)) = ⟨#[84, 90, 105, 102]⟩ := (magic_text (l.take 4) (by rw [List.length_take]; omega) (fun b hx => hb b (List.mem_of_mem_take hx))).2 hm
  have HT1 : Hid (Calls Try.prog 47 #[.pointer (some ⟨g, 0, none⟩), .int .i64 4] W0 fun e w' => ∃ A c, e = .returned (.slice A 4 c) ∧ (convert 33 9 (.slice A 4 c)).run Try.prog w' = .ok (.string ⟨#[84, 90, 105, 102]⟩) w' ∧ Rd w' B g (l.drop 4) ∧ W0.grownBy w' (some g)) := Lib.hid (by
    refine (take_any l B g 4 W0 HR0.out (by omega)).mono ?_
    rintro e w' ⟨A, c, he, h1, h2, h3⟩
    exact ⟨A, c, he, by rw [← hS]; exact h1.text (by omega), h2, h3⟩)
  have HT2 : Hid (∀ V, Rd V B g (l.drop 4) → Calls Try.prog 47 #[.pointer (some ⟨g, 0, none⟩), .int .i64 1] V fun e w' => ∃ gb off c, e = .returned (.slice (some ⟨gb, off, none⟩) 1 c) ∧ w'.cell? ⟨gb, off, none⟩ = some (.int .u8 vi) ∧ Rd w' B g (l.drop 5) ∧ V.grownBy w' (some g)) := Lib.hid fun V hV => by
    refine (take_any (l.drop 4) B g 1 V hV (by rw [List.length_drop]; omega)).mono ?_
    rintro e w' ⟨A, c, he, h1, h2, h3⟩
    rw [List.drop_drop] at h2
    obtain ⟨s1, s2, s3, s4⟩ := h1
    rcases s4 with ⟨_, e0⟩ | ⟨gb, off, rfl, _, hc⟩
    · omega
    · have h4 := hc 0 (l.getD 4 0) (by
        rw [List.getElem?_take, if_pos (by omega), List.getElem?_drop, List.getD_eq_getElem?_getD, List.getElem?_eq_getElem (show 4 + 0 < l.length by omega)]; rfl)
      rw [Nat.add_zero] at h4
      rw [← hv]
      exact ⟨gb, off, c, he, h4, h2, h3⟩
  have n1 : (vi == 0) = false := by simpa using h0
  have n2 : (vi == 50) = false := by simpa using h1
  have n3 : (vi == 51) = false := by simpa using h2
  have m1 : (vi != 0) = true := by simpa using h0
  have m2 : (vi != 50) = true := by simpa using h1
  have m3 : (vi != 51) = true := by simpa using h2
  have k1 : decide (vi = 0) = false := by simpa using h0
  have k2 : decide (vi = 50) = false := by simpa using h1
  have k3 : decide (vi = 51) = false := by simpa using h2
  clear hR0 h h44 hm hb hS hv
  go_enter Try.func44, Try.ntmps44
  go_wp2_with (first
    | (go_at_call 46; refine H1.out.mono ?_; clear H1; rintro e V0 ⟨rfl, rfl⟩)
    | (go_at_call 47; refine HT1.out.mono ?_; clear HT1; rintro e V1 ⟨A1, c1v, rfl, hcv, hr, hg⟩; have HR1 := Lib.hid hr; have HG1 := Lib.hid hg; clear hr hg)
    | (go_at_call 47; refine (HT2.out _ HR1.out).mono ?_; clear HT2; rintro e V2 ⟨gb, off, c2v, rfl, hcell, hr, hg⟩; have HR2 := Lib.hid hr; have HG2 := Lib.hid (HG1.out.trans hg); clear hr hg hcv; have hk := HKE.out _ HG2.out; have c0 := hk.1 0 _ rfl; have c1 := hk.1 1 _ rfl; have c2 := hk.1 2 _ rfl; have c3 := hk.1 3 _ rfl; have c4 := hk.1 4 _ rfl; have c5 := hk.1 5 _ rfl; have c6 := hk.1 6 _ rfl; have f0 := hk.2.1 0; have f1 := hk.2.1 1; have f2 := hk.2.1 2; have f3 := hk.2.1 3; have f4 := hk.2.1 4; have f5 := hk.2.1 5; have f6 := hk.2.1 6; have hlt := hk.2.2; clear hk)
    | fail)
  exact bodyPost_ret (v := .tuple #[noHead, .bool false]) (by simp [results, Try.results44, go_sem, noHead, c0, c1, c2, c3, c4, c5, c6]) rfl ⟨rfl, gb_below (HG0.out.trans HG2.out) (by rw [HP.out]; exact (((((((Below.refl P V2).setCell (Nat.le_refl _) _).setCell (Nat.le_refl _) _).setCell (Nat.le_refl _) _).setCell (Nat.le_refl _) _).setCell (Nat.le_refl _) _).setCell (Nat.le_refl _) _).setCell (Nat.le_refl _) _)⟩
theorem OwnI.open_ {w : World} {base : Nat} {te : TypeId} {v : Value} {xs : List Int} (h : OwnI w base te v xs) (h0 : 0 < xs.length) : ∃ g c, v = .slice (some ⟨g, 0, none⟩) xs.length c ∧ base ≤ g ∧ ∀ j u, xs[j]? = some u → w.cell? ⟨g, j, none⟩ = some (.int .i64 u) := by
  rcases h.2 with ⟨rfl, h1⟩ | ⟨g, cap, cur, rfl, hbg, hg, _⟩
  · omega
  · refine ⟨g, cap, rfl, hbg, fun j u hu => ?_⟩
    have := World.ownsRow.cells h (g := g) rfl j (.int .i64 u) (by rw [List.getElem?_map, hu]; rfl)
    rwa [Own_add] at this
theorem drew_cell (X : World) (p : Addr) : X.drew.cell? p = X.cell? p := rfl
theorem set7_cell (V : World) (P gn j : Nat) (h : P ≠ gn) (a0 a1 a2 a3 a4 a5 a6 : Value) : (((((((V.setCell ⟨P, 0, none⟩ a0).setCell ⟨P, 1, none⟩ a1).setCell ⟨P, 2, none⟩ a2).setCell ⟨P, 3, none⟩ a3).setCell ⟨P, 4, none⟩ a4).setCell ⟨P, 5, none⟩ a5).setCell ⟨P, 6, none⟩ a6).drew.cell? ⟨gn, j, none⟩ = V.cell? ⟨gn, j, none⟩ := by
  have h1 : ∀ (U : World) (i : Nat) (u : Value), (U.setCell ⟨P, i, none⟩ u).cell? ⟨gn, j, none⟩ = U.cell? ⟨gn, j, none⟩ := fun U i u => World.cell?_setCell_other _ _ _ _ (by rintro ⟨⟩; exact h rfl)
  rw [drew_cell, h1, h1, h1, h1, h1, h1, h1]
theorem set7_below (V : World) (P : Nat) (a0 a1 a2 a3 a4 a5 a6 : Value) : Below P V (((((((V.setCell ⟨P, 0, none⟩ a0).setCell ⟨P, 1, none⟩ a1).setCell ⟨P, 2, none⟩ a2).setCell ⟨P, 3, none⟩ a3).setCell ⟨P, 4, none⟩ a4).setCell ⟨P, 5, none⟩ a5).setCell ⟨P, 6, none⟩ a6).drew := by
  have h1 : ∀ (U : World) (i : Nat) (u : Value), Below P V U → Below P V (U.setCell ⟨P, i, none⟩ u) := fun U i u hu => hu.setCell (Nat.le_refl _) _
  exact (h1 _ _ _ (h1 _ _ _ (h1 _ _ _ (h1 _ _ _ (h1 _ _ _ (h1 _ _ _ (h1 _ _ _ (Below.refl P V)))))))).drew
set_option maxRecDepth 100000 in
set_option maxHeartbeats 4000000 in
theorem head_d (l : List Nat) (B g : Nat) (w : World) (vi : Int) (h : Rd w B g l) (hb : ∀ b ∈ l, b < 256) (h44 : 44 ≤ l.length) (hm : l.take 4 = [84, 90, 105, 102]) (hv : (l.getD 4 0 : Int) = vi) (hq : vi = 0 ∨ vi = 50 ∨ vi = 51) :
    Calls Try.prog 44 #[.pointer (some ⟨g, 0, none⟩)] w fun e w' => e = .returned (.tuple #[hdVal (hdOf l), .bool true]) ∧ Rd w' B g (l.drop 44) ∧ w.grownBy w' (some g) := by
  obtain ⟨P, hP⟩ : ∃ P, w.heap.size = P := ⟨_, rfl⟩
  obtain ⟨W0, hW0⟩ : ∃ W0, w.alloc (.cells #[.int .u8 0, .int .i64 0, .int .i64 0, .int .i64 0, .int .i64 0, .int .i64 0, .int .i64 0] 60) = W0 := ⟨_, rfl⟩
  have hgP : g < P := by rw [← hP]; exact h.lt
  have HP := Lib.hid hP
  have hR0 : Rd W0 B g l := h.below (C := P) (by rw [← hW0, ← hP]; exact (Below.refl _ _).alloc (Nat.le_refl _) _) hgP
  have HR0 := Lib.hid hR0
  have HG0 : Hid (w.grownBy W0 (some g)) := Lib.hid (by rw [← hW0]; exact World.grownBy_alloc w _ _)
  have HS0 : Hid (W0.heap.size = P + 1) := Lib.hid (by rw [← hW0]; simp [hP])
  have HC0 : Hid (∀ i u, (#[.int .u8 0, .int .i64 0, .int .i64 0, .int .i64 0, .int .i64 0, .int .i64 0, .int .i64 0] : Array Value)[i]? = some u → W0.cell? ⟨P, i, none⟩ = some u) := Lib.hid fun i u hu => by rw [← hW0]; exact cell_new w _ _ _ i u hP hu
  have HF0 : Hid (∀ i, W0.frozen? ⟨P, i, none⟩ = false) := Lib.hid fun i => by rw [← hW0, ← hP]; exact frozen_of_row _ _ i _ _ (heap_alloc_new _ _)
  have HKE : Hid (∀ V, W0.grownBy V (some g) → (∀ i u, (#[.int .u8 0, .int .i64 0, .int .i64 0, .int .i64 0, .int .i64 0, .int .i64 0, .int .i64 0] : Array Value)[i]? = some u → V.cell? ⟨P, i, none⟩ = some u) ∧ (∀ i, V.frozen? ⟨P, i, none⟩ = false) ∧ P < V.heap.size) := Lib.hid fun V hV => by
    have hblk : V.heap[P]? = W0.heap[P]? := hV.block P (by rw [HS0.out]; omega) (fun e => by injection e with e; omega)
    exact ⟨fun i u hu => (World.cell?_of_block (a := ⟨P, i, none⟩) hblk).trans (HC0.out i u hu), fun i => (World.frozen?_of_block (a := ⟨P, i, none⟩) hblk).trans (HF0.out i), by have := hV.size; rw [HS0.out] at this; omega⟩
  have H1 : Hid (Calls Try.prog 46 #[.pointer (some ⟨g, 0, none⟩), .int .i64 44] W0 fun e w' => e = .returned (.bool true) ∧ W0 = w') := Lib.hid (by
    have := has_any l B g 44 W0 hR0
    rwa [show decide ((44 : Int) ≤ (l.length : Int)) = true by simp; omega] at this)
  have hS : strOfNums (natsI (l.take 4)) = ⟨#[84, 90, 105, 102]⟩ := (magic_text (l.take 4) (by rw [List.length_take]; omega) (fun b hx => hb b (List.mem_of_mem_take hx))).2 hm
  have HT1 : Hid (Calls Try.prog 47 #[.pointer (some ⟨g, 0, none⟩), .int .i64 4] W0 fun e w' => ∃ A c, e = .returned (.slice A 4 c) ∧ (convert 33 9 (.slice A 4 c)).run Try.prog w' = .ok (.string ⟨#[84, 90, 105, 102]⟩) w' ∧ Rd w' B g (l.drop 4) ∧ W0.grownBy w' (some g)) := Lib.hid (by
    refine (take_any l B g 4 W0 HR0.out (by omega)).mono ?_
    rintro e w' ⟨A, c, he, h1, h2, h3⟩
    exact ⟨A, c, he, by rw [← hS]; exact h1.text (by omega), h2, h3⟩)
  have HT2 : Hid (∀ V, Rd V B g (l.drop 4) → Calls Try.prog 47 #[.pointer (some ⟨g, 0, none⟩), .int .i64 1] V fun e w' => ∃ gb off c, e = .returned (.slice (some ⟨gb, off, none⟩) 1 c) ∧ w'.cell? ⟨gb, off, none⟩ = some (.int .u8 vi) ∧ Rd w' B g (l.drop 5) ∧ V.grownBy w' (some g)) := Lib.hid fun V hV => by
    refine (take_any (l.drop 4) B g 1 V hV (by rw [List.length_drop]; omega)).mono ?_
    rintro e w' ⟨A, c, he, h1, h2, h3⟩
    rw [List.drop_drop] at h2
    obtain ⟨s1, s2, s3, s4⟩ := h1
    rcases s4 with ⟨_, e0⟩ | ⟨gb, off, rfl, _, hc⟩
    · omega
    · have h4 := hc 0 (l.getD 4 0) (by
        rw [List.getElem?_take, if_pos (by omega), List.getElem?_drop, List.getD_eq_getElem?_getD, List.getElem?_eq_getElem (show 4 + 0 < l.length by omega)]; rfl)
      rw [Nat.add_zero] at h4
      rw [← hv]
      exact ⟨gb, off, c, he, h4, h2, h3⟩
  obtain ⟨u0, hu0⟩ : ∃ u, be ((l.drop 20).take 4) = u := ⟨_, rfl⟩
  obtain ⟨u1, hu1⟩ : ∃ u, be ((l.drop 24).take 4) = u := ⟨_, rfl⟩
  obtain ⟨u2, hu2⟩ : ∃ u, be ((l.drop 28).take 4) = u := ⟨_, rfl⟩
  obtain ⟨u3, hu3⟩ : ∃ u, be ((l.drop 32).take 4) = u := ⟨_, rfl⟩
  obtain ⟨u4, hu4⟩ : ∃ u, be ((l.drop 36).take 4) = u := ⟨_, rfl⟩
  obtain ⟨u5, hu5⟩ : ∃ u, be ((l.drop 40).take 4) = u := ⟨_, rfl⟩
  have HHD : Hid (hdVal (hdOf l) = .agg #[.int .u8 vi, .int .i64 u0, .int .i64 u1, .int .i64 u2, .int .i64 u3, .int .i64 u4, .int .i64 u5]) := Lib.hid (by unfold hdVal hdOf; simp only [hu0, hu1, hu2, hu3, hu4, hu5, hv])
  have HT3 : Hid (∀ V, Rd V B g (l.drop 5) → Calls Try.prog 47 #[.pointer (some ⟨g, 0, none⟩), .int .i64 15] V fun e w' => ∃ A c, e = .returned (.slice A 15 c) ∧ Rd w' B g (l.drop 20) ∧ V.grownBy w' (some g)) := Lib.hid fun V hV => by
    refine (take_any (l.drop 5) B g 15 V hV (by rw [List.length_drop]; omega)).mono ?_
    rintro e w' ⟨A, c, he, h1, h2, h3⟩
    rw [List.drop_drop] at h2
    exact ⟨A, c, he, h2, h3⟩
  have HT4 : Hid (∀ V, Rd V B g (l.drop 20) → Calls Try.prog 52 #[.int .i64 6, .func (.func 53) #[.pointer (some ⟨g, 0, none⟩)] #[]] V fun e w' => ∃ gn cn, e = .returned (.slice (some ⟨gn, 0, none⟩) 6 cn) ∧ V.heap.size ≤ gn ∧ w'.cell? ⟨gn, 0, none⟩ = some (.int .i64 u0) ∧ w'.cell? ⟨gn, 1, none⟩ = some (.int .i64 u1) ∧ w'.cell? ⟨gn, 2, none⟩ = some (.int .i64 u2) ∧ w'.cell? ⟨gn, 3, none⟩ = some (.int .i64 u3) ∧ w'.cell? ⟨gn, 4, none⟩ = some (.int .i64 u4) ∧ w'.cell? ⟨gn, 5, none⟩ = some (.int .i64 u5) ∧ Rd w' B g (l.drop 44) ∧ V.grownBy w' (some g)) := Lib.hid fun V hV => by
    refine (rows64_any _ (.inl rfl) (l.drop 20) B g 4 6 (fun x => (be x : Int)) V hV (fun U k hU hk hkb => count_any k B g U hU hk hkb) (by omega) (by rw [List.length_drop]; omega) (fun b hx => hb b (List.mem_of_mem_drop hx))).mono ?_
    rintro e w' ⟨A, c, he, h1, h2, h3⟩
    rw [List.drop_drop] at h2
    have hl := vals_len 4 (fun x => (be x : Int)) 6 (l.drop 20)
    obtain ⟨gn, cn, e1, hbg, hc⟩ := h1.open_ (by rw [hl]; omega)
    rw [hl] at e1
    rw [e1] at he
    have hvs : vals 4 (fun x => (be x : Int)) 6 (l.drop 20) = [(u0 : Int), u1, u2, u3, u4, u5] := by
      simp only [vals, List.drop_drop]
      rw [hu0, hu1, hu2, hu3, hu4, hu5]
    rw [hvs] at hc
    exact ⟨gn, cn, he, hbg, hc 0 _ rfl, hc 1 _ rfl, hc 2 _ rfl, hc 3 _ rfl, hc 4 _ rfl, hc 5 _ rfl, h2, h3⟩
  rw [HHD.out]
  clear hR0 h h44 hm hb hS hv hu0 hu1 hu2 hu3 hu4 hu5
  rcases hq with rfl | rfl | rfl
  · go_enter Try.func44, Try.ntmps44
    go_wp2_with (first
      | (go_at_call 46; refine H1.out.mono ?_; clear H1; rintro e V0 ⟨rfl, rfl⟩)
      | (go_at_call 47; refine HT1.out.mono ?_; clear HT1; rintro e V1 ⟨A1, c1v, rfl, hcv, hr, hg⟩; have HR1 := Lib.hid hr; have HG1 := Lib.hid hg; clear hr hg)
      | (go_at_call 47; refine (HT2.out _ HR1.out).mono ?_; clear HT2; rintro e V2 ⟨gb, off, c2v, rfl, hcell, hr, hg⟩; have HR2 := Lib.hid hr; have HG2 := Lib.hid (HG1.out.trans hg); clear hr hg hcv)
      | (go_at_call 47; refine (HT3.out _ HR2.out).mono ?_; clear HT3; rintro e V3 ⟨A3, c3v, rfl, hr, hg⟩; have HR3 := Lib.hid hr; have HG3 := Lib.hid (HG2.out.trans hg); clear hr hg hcell)
      | (go_at_call 52; refine (HT4.out _ HR3.out).mono ?_; clear HT4; rintro e V4 ⟨gn, cn, rfl, hbg, r0, r1, r2, r3, r4, r5, hr, hg⟩; have HR4 := Lib.hid hr; have HG4 := Lib.hid (HG3.out.trans hg); have HGN : Hid (P ≠ gn) := Lib.hid (by have := (HKE.out _ HG3.out).2.2; omega); clear hr hg hbg)
      | fail)
    have hk := HKE.out _ HG4.out
    have c0 := hk.1 0 _ rfl
    have c1 := hk.1 1 _ rfl
    have c2 := hk.1 2 _ rfl
    have c3 := hk.1 3 _ rfl
    have c4 := hk.1 4 _ rfl
    have c5 := hk.1 5 _ rfl
    have c6 := hk.1 6 _ rfl
    have f0 := hk.2.1 0
    have f1 := hk.2.1 1
    have f2 := hk.2.1 2
    have f3 := hk.2.1 3
    have f4 := hk.2.1 4
    have f5 := hk.2.1 5
    have f6 := hk.2.1 6
    have hlt := hk.2.2
    clear hk
    refine wp_region_mix (fun z => z.cell? ⟨gn, 0, none⟩ = some (.int .i64 u0) ∧ z.cell? ⟨gn, 1, none⟩ = some (.int .i64 u1) ∧ z.cell? ⟨gn, 2, none⟩ = some (.int .i64 u2) ∧ z.cell? ⟨gn, 3, none⟩ = some (.int .i64 u3) ∧ z.cell? ⟨gn, 4, none⟩ = some (.int .i64 u4) ∧ z.cell? ⟨gn, 5, none⟩ = some (.int .i64 u5)) [true, true, true, true, true, true, true, true, true, true, true, true, true, true, true, true, true, true, true, true, false] _ (by kernel_rfl) rfl (by kernel_rfl) ⟨r0, r1, r2, r3, r4, r5⟩ ?_
    dsimp only [List.dropLast, List.zip, List.zipWith, List.getLast]
    repeat (apply wpMix_free
            · intro z' hz
              try dsimp only at hz
              go_simp
              all_goals with_reducible rfl
            simp only [Act.put, List.setIfInBounds_toArray, List.set_cons_zero, List.set_cons_succ])
    refine wpMix_turn (fun K hK => ?_)
    have HK := Lib.hid hK; clear hK
    go_simp
    refine HK.out _ _ ⟨(set7_cell _ _ _ _ HGN.out _ _ _ _ _ _ _).trans r0, (set7_cell _ _ _ _ HGN.out _ _ _ _ _ _ _).trans r1, (set7_cell _ _ _ _ HGN.out _ _ _ _ _ _ _).trans r2, (set7_cell _ _ _ _ HGN.out _ _ _ _ _ _ _).trans r3, (set7_cell _ _ _ _ HGN.out _ _ _ _ _ _ _).trans r4, (set7_cell _ _ _ _ HGN.out _ _ _ _ _ _ _).trans r5⟩ ?_
    clear HK
    try simp only [Act.put, List.setIfInBounds_toArray, List.set_cons_zero, List.set_cons_succ]
    refine wpMix_end ?_
    go_simp
    go_wp2_with fail
    have hbl := set7_below V4 P (.int .u8 0) (.int .i64 u0) (.int .i64 u1) (.int .i64 u2) (.int .i64 u3) (.int .i64 u4) (.int .i64 u5)
    exact bodyPost_ret (v := .tuple #[.agg #[.int .u8 0, .int .i64 u0, .int .i64 u1, .int .i64 u2, .int .i64 u3, .int .i64 u4, .int .i64 u5], .bool true]) (by simp [results, Try.results44, go_sem, c0, c1, c2, c3, c4, c5, c6]) rfl ⟨rfl, HR4.out.below hbl hgP, gb_below (HG0.out.trans HG4.out) (by rw [HP.out]; exact hbl)⟩
  · go_enter Try.func44, Try.ntmps44
    go_wp2_with (first
      | (go_at_call 46; refine H1.out.mono ?_; clear H1; rintro e V0 ⟨rfl, rfl⟩)
      | (go_at_call 47; refine HT1.out.mono ?_; clear HT1; rintro e V1 ⟨A1, c1v, rfl, hcv, hr, hg⟩; have HR1 := Lib.hid hr; have HG1 := Lib.hid hg; clear hr hg)
      | (go_at_call 47; refine (HT2.out _ HR1.out).mono ?_; clear HT2; rintro e V2 ⟨gb, off, c2v, rfl, hcell, hr, hg⟩; have HR2 := Lib.hid hr; have HG2 := Lib.hid (HG1.out.trans hg); clear hr hg hcv)
      | (go_at_call 47; refine (HT3.out _ HR2.out).mono ?_; clear HT3; rintro e V3 ⟨A3, c3v, rfl, hr, hg⟩; have HR3 := Lib.hid hr; have HG3 := Lib.hid (HG2.out.trans hg); clear hr hg hcell)
      | (go_at_call 52; refine (HT4.out _ HR3.out).mono ?_; clear HT4; rintro e V4 ⟨gn, cn, rfl, hbg, r0, r1, r2, r3, r4, r5, hr, hg⟩; have HR4 := Lib.hid hr; have HG4 := Lib.hid (HG3.out.trans hg); have HGN : Hid (P ≠ gn) := Lib.hid (by have := (HKE.out _ HG3.out).2.2; omega); clear hr hg hbg)
      | fail)
    have hk := HKE.out _ HG4.out
    have c0 := hk.1 0 _ rfl
    have c1 := hk.1 1 _ rfl
    have c2 := hk.1 2 _ rfl
    have c3 := hk.1 3 _ rfl
    have c4 := hk.1 4 _ rfl
    have c5 := hk.1 5 _ rfl
    have c6 := hk.1 6 _ rfl
    have f0 := hk.2.1 0
    have f1 := hk.2.1 1
    have f2 := hk.2.1 2
    have f3 := hk.2.1 3
    have f4 := hk.2.1 4
    have f5 := hk.2.1 5
    have f6 := hk.2.1 6
    have hlt := hk.2.2
    clear hk
    refine wp_region_mix (fun z => z.cell? ⟨gn, 0, none⟩ = some (.int .i64 u0) ∧ z.cell? ⟨gn, 1, none⟩ = some (.int .i64 u1) ∧ z.cell? ⟨gn, 2, none⟩ = some (.int .i64 u2) ∧ z.cell? ⟨gn, 3, none⟩ = some (.int .i64 u3) ∧ z.cell? ⟨gn, 4, none⟩ = some (.int .i64 u4) ∧ z.cell? ⟨gn, 5, none⟩ = some (.int .i64 u5)) [true, true, true, true, true, true, true, true, true, true, true, true, true, true, true, true, true, true, true, true, false] _ (by kernel_rfl) rfl (by kernel_rfl) ⟨r0, r1, r2, r3, r4, r5⟩ ?_
    dsimp only [List.dropLast, List.zip, List.zipWith, List.getLast]
    repeat (apply wpMix_free
            · intro z' hz
              try dsimp only at hz
              go_simp
              all_goals with_reducible rfl
            simp only [Act.put, List.setIfInBounds_toArray, List.set_cons_zero, List.set_cons_succ])
    refine wpMix_turn (fun K hK => ?_)
    have HK := Lib.hid hK; clear hK
    go_simp
    refine HK.out _ _ ⟨(set7_cell _ _ _ _ HGN.out _ _ _ _ _ _ _).trans r0, (set7_cell _ _ _ _ HGN.out _ _ _ _ _ _ _).trans r1, (set7_cell _ _ _ _ HGN.out _ _ _ _ _ _ _).trans r2, (set7_cell _ _ _ _ HGN.out _ _ _ _ _ _ _).trans r3, (set7_cell _ _ _ _ HGN.out _ _ _ _ _ _ _).trans r4, (set7_cell _ _ _ _ HGN.out _ _ _ _ _ _ _).trans r5⟩ ?_
    clear HK
    try simp only [Act.put, List.setIfInBounds_toArray, List.set_cons_zero, List.set_cons_succ]
    refine wpMix_end ?_
    go_simp
    go_wp2_with fail
    have hbl := set7_below V4 P (.int .u8 50) (.int .i64 u0) (.int .i64 u1) (.int .i64 u2) (.int .i64 u3) (.int .i64 u4) (.int .i64 u5)
    exact bodyPost_ret (v := .tuple #[.agg #[.int .u8 50, .int .i64 u0, .int .i64 u1, .int .i64 u2, .int .i64 u3, .int .i64 u4, .int .i64 u5], .bool true]) (by simp [results, Try.results44, go_sem, c0, c1, c2, c3, c4, c5, c6]) rfl ⟨rfl, HR4.out.below hbl hgP, gb_below (HG0.out.trans HG4.out) (by rw [HP.out]; exact hbl)⟩
  · go_enter Try.func44, Try.ntmps44
    go_wp2_with (first
      | (go_at_call 46; refine H1.out.mono ?_; clear H1; rintro e V0 ⟨rfl, rfl⟩)
      | (go_at_call 47; refine HT1.out.mono ?_; clear HT1; rintro e V1 ⟨A1, c1v, rfl, hcv, hr, hg⟩; have HR1 := Lib.hid hr; have HG1 := Lib.hid hg; clear hr hg)
      | (go_at_call 47; refine (HT2.out _ HR1.out).mono ?_; clear HT2; rintro e V2 ⟨gb, off, c2v, rfl, hcell, hr, hg⟩; have HR2 := Lib.hid hr; have HG2 := Lib.hid (HG1.out.trans hg); clear hr hg hcv)
      | (go_at_call 47; refine (HT3.out _ HR2.out).mono ?_; clear HT3; rintro e V3 ⟨A3, c3v, rfl, hr, hg⟩; have HR3 := Lib.hid hr; have HG3 := Lib.hid (HG2.out.trans hg); clear hr hg hcell)
      | (go_at_call 52; refine (HT4.out _ HR3.out).mono ?_; clear HT4; rintro e V4 ⟨gn, cn, rfl, hbg, r0, r1, r2, r3, r4, r5, hr, hg⟩; have HR4 := Lib.hid hr; have HG4 := Lib.hid (HG3.out.trans hg); have HGN : Hid (P ≠ gn) := Lib.hid (by have := (HKE.out _ HG3.out).2.2; omega); clear hr hg hbg)
      | fail)
    have hk := HKE.out _ HG4.out
    have c0 := hk.1 0 _ rfl
    have c1 := hk.1 1 _ rfl
    have c2 := hk.1 2 _ rfl
    have c3 := hk.1 3 _ rfl
    have c4 := hk.1 4 _ rfl
    have c5 := hk.1 5 _ rfl
    have c6 := hk.1 6 _ rfl
    have f0 := hk.2.1 0
    have f1 := hk.2.1 1
    have f2 := hk.2.1 2
    have f3 := hk.2.1 3
    have f4 := hk.2.1 4
    have f5 := hk.2.1 5
    have f6 := hk.2.1 6
    have hlt := hk.2.2
    clear hk
    refine wp_region_mix (fun z => z.cell? ⟨gn, 0, none⟩ = some (.int .i64 u0) ∧ z.cell? ⟨gn, 1, none⟩ = some (.int .i64 u1) ∧ z.cell? ⟨gn, 2, none⟩ = some (.int .i64 u2) ∧ z.cell? ⟨gn, 3, none⟩ = some (.int .i64 u3) ∧ z.cell? ⟨gn, 4, none⟩ = some (.int .i64 u4) ∧ z.cell? ⟨gn, 5, none⟩ = some (.int .i64 u5)) [true, true, true, true, true, true, true, true, true, true, true, true, true, true, true, true, true, true, true, true, false] _ (by kernel_rfl) rfl (by kernel_rfl) ⟨r0, r1, r2, r3, r4, r5⟩ ?_
    dsimp only [List.dropLast, List.zip, List.zipWith, List.getLast]
    repeat (apply wpMix_free
            · intro z' hz
              try dsimp only at hz
              go_simp
              all_goals with_reducible rfl
            simp only [Act.put, List.setIfInBounds_toArray, List.set_cons_zero, List.set_cons_succ])
    refine wpMix_turn (fun K hK => ?_)
    have HK := Lib.hid hK; clear hK
    go_simp
    refine HK.out _ _ ⟨(set7_cell _ _ _ _ HGN.out _ _ _ _ _ _ _).trans r0, (set7_cell _ _ _ _ HGN.out _ _ _ _ _ _ _).trans r1, (set7_cell _ _ _ _ HGN.out _ _ _ _ _ _ _).trans r2, (set7_cell _ _ _ _ HGN.out _ _ _ _ _ _ _).trans r3, (set7_cell _ _ _ _ HGN.out _ _ _ _ _ _ _).trans r4, (set7_cell _ _ _ _ HGN.out _ _ _ _ _ _ _).trans r5⟩ ?_
    clear HK
    try simp only [Act.put, List.setIfInBounds_toArray, List.set_cons_zero, List.set_cons_succ]
    refine wpMix_end ?_
    go_simp
    go_wp2_with fail
    have hbl := set7_below V4 P (.int .u8 51) (.int .i64 u0) (.int .i64 u1) (.int .i64 u2) (.int .i64 u3) (.int .i64 u4) (.int .i64 u5)
    exact bodyPost_ret (v := .tuple #[.agg #[.int .u8 51, .int .i64 u0, .int .i64 u1, .int .i64 u2, .int .i64 u3, .int .i64 u4, .int .i64 u5], .bool true]) (by simp [results, Try.results44, go_sem, c0, c1, c2, c3, c4, c5, c6]) rfl ⟨rfl, HR4.out.below hbl hgP, gb_below (HG0.out.trans HG4.out) (by rw [HP.out]; exact hbl)⟩
end Go.Proofs.Ytohpdpcjhmopbaa.Tz

/-! Layer 6 (tzif): may a block have so many of each? -/
namespace Go.Proofs.Ytohpdpcjhmopbaa.Tz
open Go.RowKit

theorem within_i64 (n lo hi : Int) (w : World) : Calls Try.prog 66 #[.int .i64 n, .int .i64 lo, .int .i64 hi] w fun e w' => e = .returned (.bool (inI n lo hi)) ∧ w = w' := by
  unfold inI
  by_cases h1 : lo ≤ n
  · by_cases h2 : n ≤ hi
    · have hq : (decide (lo ≤ n) && decide (n ≤ hi)) = true := by simp [h1, h2]
      rw [hq]
      clear hq
      go_enter Try.func66, Try.ntmps66
      go_wp2_with fail
      go_ret
      exact ⟨rfl, rfl⟩
    · have hq : (decide (lo ≤ n) && decide (n ≤ hi)) = false := by simp [h2]
      rw [hq]
      clear hq
      go_enter Try.func66, Try.ntmps66
      go_wp2_with fail
      go_ret
      exact ⟨rfl, rfl⟩
  · have hq : (decide (lo ≤ n) && decide (n ≤ hi)) = false := by simp [h1]
    rw [hq]
    clear hq
    go_enter Try.func66, Try.ntmps66
    go_wp2_with fail
    go_ret
    exact ⟨rfl, rfl⟩
def mayB (h : Hd) : Bool := inI h.types 1 255 && decide (h.times ≤ 4000) && inI h.letters 1 4096 && decide (h.leaps ≤ 1000) && (decide (h.stds = 0) || decide (h.stds = h.types)) && (decide (h.uts = 0) || decide (h.uts = h.types))
set_option maxRecDepth 100000 in
set_option maxHeartbeats 2000000 in
theorem may_1 (version uts stds leaps times types letters : Nat) (w : World) (htypes : inI types 1 255 = false) : Calls Try.prog 54 #[hdVal ⟨version, uts, stds, leaps, times, types, letters⟩] w fun e w' => e = .returned (.bool false) ∧ Below w.heap.size w w' := by
  unfold hdVal
  simp only
  have Htypes : Hid (∀ V, Calls Try.prog 66 #[.int .i64 types, .int .i64 1, .int .i64 255] V fun e w' => e = .returned (.bool false) ∧ V = w') := Lib.hid fun V => by have := within_i64 types 1 255 V; rwa [htypes] at this
  clear htypes
  have HB : Hid (Below w.heap.size w (w.alloc (.cells #[.int .u8 version, .int .i64 uts, .int .i64 stds, .int .i64 leaps, .int .i64 times, .int .i64 types, .int .i64 letters] 60))) := Lib.hid ((Below.refl _ _).alloc (Nat.le_refl _) _)
  go_enter Try.func54, Try.ntmps54
  go_wp2_with (first | (go_at_call 66; refine (Htypes.out _).mono ?_; clear Htypes; rintro e V0 ⟨rfl, rfl⟩) | fail)
  go_ret
  exact ⟨rfl, HB.out⟩
set_option maxRecDepth 100000 in
set_option maxHeartbeats 2000000 in
theorem may_2 (version uts stds leaps times types letters : Nat) (w : World) (htypes : inI types 1 255 = true) (htimes : ¬ times ≤ 4000) : Calls Try.prog 54 #[hdVal ⟨version, uts, stds, leaps, times, types, letters⟩] w fun e w' => e = .returned (.bool false) ∧ Below w.heap.size w w' := by
  unfold hdVal
  simp only
  have Htypes : Hid (∀ V, Calls Try.prog 66 #[.int .i64 types, .int .i64 1, .int .i64 255] V fun e w' => e = .returned (.bool true) ∧ V = w') := Lib.hid fun V => by have := within_i64 types 1 255 V; rwa [htypes] at this
  clear htypes
  have dtimes : decide ((times : Int) ≤ 4000) = false := by simp; omega
  clear htimes
  have HB : Hid (Below w.heap.size w (w.alloc (.cells #[.int .u8 version, .int .i64 uts, .int .i64 stds, .int .i64 leaps, .int .i64 times, .int .i64 types, .int .i64 letters] 60))) := Lib.hid ((Below.refl _ _).alloc (Nat.le_refl _) _)
  go_enter Try.func54, Try.ntmps54
  go_wp2_with (first | (go_at_call 66; refine (Htypes.out _).mono ?_; clear Htypes; rintro e V0 ⟨rfl, rfl⟩) | fail)
  go_ret
  exact ⟨rfl, HB.out⟩
set_option maxRecDepth 100000 in
set_option maxHeartbeats 2000000 in
theorem may_3 (version uts stds leaps times types letters : Nat) (w : World) (htypes : inI types 1 255 = true) (htimes : times ≤ 4000) (hletters : inI letters 1 4096 = false) : Calls Try.prog 54 #[hdVal ⟨version, uts, stds, leaps, times, types, letters⟩] w fun e w' => e = .returned (.bool false) ∧ Below w.heap.size w w' := by
  unfold hdVal
  simp only
  have Htypes : Hid (∀ V, Calls Try.prog 66 #[.int .i64 types, .int .i64 1, .int .i64 255] V fun e w' => e = .returned (.bool true) ∧ V = w') := Lib.hid fun V => by have := within_i64 types 1 255 V; rwa [htypes] at this
  clear htypes
  have Hletters : Hid (∀ V, Calls Try.prog 66 #[.int .i64 letters, .int .i64 1, .int .i64 4096] V fun e w' => e = .returned (.bool false) ∧ V = w') := Lib.hid fun V => by have := within_i64 letters 1 4096 V; rwa [hletters] at this
  clear hletters
  have dtimes : decide ((times : Int) ≤ 4000) = true := by simp; omega
  clear htimes
  have HB : Hid (Below w.heap.size w (w.alloc (.cells #[.int .u8 version, .int .i64 uts, .int .i64 stds, .int .i64 leaps, .int .i64 times, .int .i64 types, .int .i64 letters] 60))) := Lib.hid ((Below.refl _ _).alloc (Nat.le_refl _) _)
  go_enter Try.func54, Try.ntmps54
  go_wp2_with (first | (go_at_call 66; refine (Htypes.out _).mono ?_; clear Htypes; rintro e V0 ⟨rfl, rfl⟩) | (go_at_call 66; refine (Hletters.out _).mono ?_; clear Hletters; rintro e V0 ⟨rfl, rfl⟩) | fail)
  go_ret
  exact ⟨rfl, HB.out⟩
set_option maxRecDepth 100000 in
set_option maxHeartbeats 2000000 in
theorem may_4 (version uts stds leaps times types letters : Nat) (w : World) (htypes : inI types 1 255 = true) (htimes : times ≤ 4000) (hletters : inI letters 1 4096 = true) (hleaps : ¬ leaps ≤ 1000) : Calls Try.prog 54 #[hdVal ⟨version, uts, stds, leaps, times, types, letters⟩] w fun e w' => e = .returned (.bool false) ∧ Below w.heap.size w w' := by
  unfold hdVal
  simp only
  have Htypes : Hid (∀ V, Calls Try.prog 66 #[.int .i64 types, .int .i64 1, .int .i64 255] V fun e w' => e = .returned (.bool true) ∧ V = w') := Lib.hid fun V => by have := within_i64 types 1 255 V; rwa [htypes] at this
  clear htypes
  have Hletters : Hid (∀ V, Calls Try.prog 66 #[.int .i64 letters, .int .i64 1, .int .i64 4096] V fun e w' => e = .returned (.bool true) ∧ V = w') := Lib.hid fun V => by have := within_i64 letters 1 4096 V; rwa [hletters] at this
  clear hletters
  have dtimes : decide ((times : Int) ≤ 4000) = true := by simp; omega
  have dleaps : decide ((leaps : Int) ≤ 1000) = false := by simp; omega
  clear htimes hleaps
  have HB : Hid (Below w.heap.size w (w.alloc (.cells #[.int .u8 version, .int .i64 uts, .int .i64 stds, .int .i64 leaps, .int .i64 times, .int .i64 types, .int .i64 letters] 60))) := Lib.hid ((Below.refl _ _).alloc (Nat.le_refl _) _)
  go_enter Try.func54, Try.ntmps54
  go_wp2_with (first | (go_at_call 66; refine (Htypes.out _).mono ?_; clear Htypes; rintro e V0 ⟨rfl, rfl⟩) | (go_at_call 66; refine (Hletters.out _).mono ?_; clear Hletters; rintro e V0 ⟨rfl, rfl⟩) | fail)
  go_ret
  exact ⟨rfl, HB.out⟩
set_option maxRecDepth 100000 in
set_option maxHeartbeats 2000000 in
theorem may_5 (version uts stds leaps times types letters : Nat) (w : World) (htypes : inI types 1 255 = true) (htimes : times ≤ 4000) (hletters : inI letters 1 4096 = true) (hleaps : leaps ≤ 1000) (hs0 : ¬ stds = 0) (hs1 : ¬ stds = types) : Calls Try.prog 54 #[hdVal ⟨version, uts, stds, leaps, times, types, letters⟩] w fun e w' => e = .returned (.bool false) ∧ Below w.heap.size w w' := by
  unfold hdVal
  simp only
  have Htypes : Hid (∀ V, Calls Try.prog 66 #[.int .i64 types, .int .i64 1, .int .i64 255] V fun e w' => e = .returned (.bool true) ∧ V = w') := Lib.hid fun V => by have := within_i64 types 1 255 V; rwa [htypes] at this
  clear htypes
  have Hletters : Hid (∀ V, Calls Try.prog 66 #[.int .i64 letters, .int .i64 1, .int .i64 4096] V fun e w' => e = .returned (.bool true) ∧ V = w') := Lib.hid fun V => by have := within_i64 letters 1 4096 V; rwa [hletters] at this
  clear hletters
  have dtimes : decide ((times : Int) ≤ 4000) = true := by simp; omega
  have dleaps : decide ((leaps : Int) ≤ 1000) = true := by simp; omega
  have ds0 : decide ((stds : Int) = (0 : Int)) = false := by simp; omega
  have es0 : ((stds : Int) == (0 : Int)) = false := by simp; omega
  have ds1 : decide ((stds : Int) = (types : Int)) = false := by simp; omega
  have es1 : ((stds : Int) == (types : Int)) = false := by simp; omega
  clear htimes hleaps hs0 hs1
  have HB : Hid (Below w.heap.size w (w.alloc (.cells #[.int .u8 version, .int .i64 uts, .int .i64 stds, .int .i64 leaps, .int .i64 times, .int .i64 types, .int .i64 letters] 60))) := Lib.hid ((Below.refl _ _).alloc (Nat.le_refl _) _)
  go_enter Try.func54, Try.ntmps54
  go_wp2_with (first | (go_at_call 66; refine (Htypes.out _).mono ?_; clear Htypes; rintro e V0 ⟨rfl, rfl⟩) | (go_at_call 66; refine (Hletters.out _).mono ?_; clear Hletters; rintro e V0 ⟨rfl, rfl⟩) | fail)
  go_ret
  exact ⟨rfl, HB.out⟩
set_option maxRecDepth 100000 in
set_option maxHeartbeats 2000000 in
theorem may_6 (version uts stds leaps times types letters : Nat) (w : World) (htypes : inI types 1 255 = true) (htimes : times ≤ 4000) (hletters : inI letters 1 4096 = true) (hleaps : leaps ≤ 1000) (hs0 : stds = 0) (hu0 : uts = 0) : Calls Try.prog 54 #[hdVal ⟨version, uts, stds, leaps, times, types, letters⟩] w fun e w' => e = .returned (.bool true) ∧ Below w.heap.size w w' := by
  unfold hdVal
  simp only
  have Htypes : Hid (∀ V, Calls Try.prog 66 #[.int .i64 types, .int .i64 1, .int .i64 255] V fun e w' => e = .returned (.bool true) ∧ V = w') := Lib.hid fun V => by have := within_i64 types 1 255 V; rwa [htypes] at this
  clear htypes
  have Hletters : Hid (∀ V, Calls Try.prog 66 #[.int .i64 letters, .int .i64 1, .int .i64 4096] V fun e w' => e = .returned (.bool true) ∧ V = w') := Lib.hid fun V => by have := within_i64 letters 1 4096 V; rwa [hletters] at this
  clear hletters
  have dtimes : decide ((times : Int) ≤ 4000) = true := by simp; omega
  have dleaps : decide ((leaps : Int) ≤ 1000) = true := by simp; omega
  have ds0 : decide ((stds : Int) = (0 : Int)) = true := by simp; omega
  have es0 : ((stds : Int) == (0 : Int)) = true := by simp; omega
  have du0 : decide ((uts : Int) = (0 : Int)) = true := by simp; omega
  have eu0 : ((uts : Int) == (0 : Int)) = true := by simp; omega
  clear htimes hleaps hs0 hu0
  have HB : Hid (Below w.heap.size w (w.alloc (.cells #[.int .u8 version, .int .i64 uts, .int .i64 stds, .int .i64 leaps, .int .i64 times, .int .i64 types, .int .i64 letters] 60))) := Lib.hid ((Below.refl _ _).alloc (Nat.le_refl _) _)
  go_enter Try.func54, Try.ntmps54
  go_wp2_with (first | (go_at_call 66; refine (Htypes.out _).mono ?_; clear Htypes; rintro e V0 ⟨rfl, rfl⟩) | (go_at_call 66; refine (Hletters.out _).mono ?_; clear Hletters; rintro e V0 ⟨rfl, rfl⟩) | fail)
  go_ret
  exact ⟨rfl, HB.out⟩
set_option maxRecDepth 100000 in
set_option maxHeartbeats 2000000 in
theorem may_7 (version uts stds leaps times types letters : Nat) (w : World) (htypes : inI types 1 255 = true) (htimes : times ≤ 4000) (hletters : inI letters 1 4096 = true) (hleaps : leaps ≤ 1000) (hs0 : stds = 0) (hu0 : ¬ uts = 0) (hu1 : uts = types) : Calls Try.prog 54 #[hdVal ⟨version, uts, stds, leaps, times, types, letters⟩] w fun e w' => e = .returned (.bool true) ∧ Below w.heap.size w w' := by
  unfold hdVal
  simp only
  have Htypes : Hid (∀ V, Calls Try.prog 66 #[.int .i64 types, .int .i64 1, .int .i64 255] V fun e w' => e = .returned (.bool true) ∧ V = w') := Lib.hid fun V => by have := within_i64 types 1 255 V; rwa [htypes] at this
  clear htypes
  have Hletters : Hid (∀ V, Calls Try.prog 66 #[.int .i64 letters, .int .i64 1, .int .i64 4096] V fun e w' => e = .returned (.bool true) ∧ V = w') := Lib.hid fun V => by have := within_i64 letters 1 4096 V; rwa [hletters] at this
  clear hletters
  have dtimes : decide ((times : Int) ≤ 4000) = true := by simp; omega
  have dleaps : decide ((leaps : Int) ≤ 1000) = true := by simp; omega
  have ds0 : decide ((stds : Int) = (0 : Int)) = true := by simp; omega
  have es0 : ((stds : Int) == (0 : Int)) = true := by simp; omega
  have du0 : decide ((uts : Int) = (0 : Int)) = false := by simp; omega
  have eu0 : ((uts : Int) == (0 : Int)) = false := by simp; omega
  have du1 : decide ((uts : Int) = (types : Int)) = true := by simp; omega
  have eu1 : ((uts : Int) == (types : Int)) = true := by simp; omega
  clear htimes hleaps hs0 hu0 hu1
  have HB : Hid (Below w.heap.size w (w.alloc (.cells #[.int .u8 version, .int .i64 uts, .int .i64 stds, .int .i64 leaps, .int .i64 times, .int .i64 types, .int .i64 letters] 60))) := Lib.hid ((Below.refl _ _).alloc (Nat.le_refl _) _)
  go_enter Try.func54, Try.ntmps54
  go_wp2_with (first | (go_at_call 66; refine (Htypes.out _).mono ?_; clear Htypes; rintro e V0 ⟨rfl, rfl⟩) | (go_at_call 66; refine (Hletters.out _).mono ?_; clear Hletters; rintro e V0 ⟨rfl, rfl⟩) | fail)
  go_ret
  exact ⟨rfl, HB.out⟩
set_option maxRecDepth 100000 in
set_option maxHeartbeats 2000000 in
theorem may_8 (version uts stds leaps times types letters : Nat) (w : World) (htypes : inI types 1 255 = true) (htimes : times ≤ 4000) (hletters : inI letters 1 4096 = true) (hleaps : leaps ≤ 1000) (hs0 : stds = 0) (hu0 : ¬ uts = 0) (hu1 : ¬ uts = types) : Calls Try.prog 54 #[hdVal ⟨version, uts, stds, leaps, times, types, letters⟩] w fun e w' => e = .returned (.bool false) ∧ Below w.heap.size w w' := by
  unfold hdVal
  simp only
  have Htypes : Hid (∀ V, Calls Try.prog 66 #[.int .i64 types, .int .i64 1, .int .i64 255] V fun e w' => e = .returned (.bool true) ∧ V = w') := Lib.hid fun V => by have := within_i64 types 1 255 V; rwa [htypes] at this
  clear htypes
  have Hletters : Hid (∀ V, Calls Try.prog 66 #[.int .i64 letters, .int .i64 1, .int .i64 4096] V fun e w' => e = .returned (.bool true) ∧ V = w') := Lib.hid fun V => by have := within_i64 letters 1 4096 V; rwa [hletters] at this
  clear hletters
  have dtimes : decide ((times : Int) ≤ 4000) = true := by simp; omega
  have dleaps : decide ((leaps : Int) ≤ 1000) = true := by simp; omega
  have ds0 : decide ((stds : Int) = (0 : Int)) = true := by simp; omega
  have es0 : ((stds : Int) == (0 : Int)) = true := by simp; omega
  have du0 : decide ((uts : Int) = (0 : Int)) = false := by simp; omega
  have eu0 : ((uts : Int) == (0 : Int)) = false := by simp; omega
  have du1 : decide ((uts : Int) = (types : Int)) = false := by simp; omega
  have eu1 : ((uts : Int) == (types : Int)) = false := by simp; omega
  clear htimes hleaps hs0 hu0 hu1
  have HB : Hid (Below w.heap.size w (w.alloc (.cells #[.int .u8 version, .int .i64 uts, .int .i64 stds, .int .i64 leaps, .int .i64 times, .int .i64 types, .int .i64 letters] 60))) := Lib.hid ((Below.refl _ _).alloc (Nat.le_refl _) _)
  go_enter Try.func54, Try.ntmps54
  go_wp2_with (first | (go_at_call 66; refine (Htypes.out _).mono ?_; clear Htypes; rintro e V0 ⟨rfl, rfl⟩) | (go_at_call 66; refine (Hletters.out _).mono ?_; clear Hletters; rintro e V0 ⟨rfl, rfl⟩) | fail)
  go_ret
  exact ⟨rfl, HB.out⟩
set_option maxRecDepth 100000 in
set_option maxHeartbeats 2000000 in
theorem may_9 (version uts stds leaps times types letters : Nat) (w : World) (htypes : inI types 1 255 = true) (htimes : times ≤ 4000) (hletters : inI letters 1 4096 = true) (hleaps : leaps ≤ 1000) (hs0 : ¬ stds = 0) (hs1 : stds = types) (hu0 : uts = 0) : Calls Try.prog 54 #[hdVal ⟨version, uts, stds, leaps, times, types, letters⟩] w fun e w' => e = .returned (.bool true) ∧ Below w.heap.size w w' := by
  unfold hdVal
  simp only
  have Htypes : Hid (∀ V, Calls Try.prog 66 #[.int .i64 types, .int .i64 1, .int .i64 255] V fun e w' => e = .returned (.bool true) ∧ V = w') := Lib.hid fun V => by have := within_i64 types 1 255 V; rwa [htypes] at this
  clear htypes
  have Hletters : Hid (∀ V, Calls Try.prog 66 #[.int .i64 letters, .int .i64 1, .int .i64 4096] V fun e w' => e = .returned (.bool true) ∧ V = w') := Lib.hid fun V => by have := within_i64 letters 1 4096 V; rwa [hletters] at this
  clear hletters
  have dtimes : decide ((times : Int) ≤ 4000) = true := by simp; omega
  have dleaps : decide ((leaps : Int) ≤ 1000) = true := by simp; omega
  have ds0 : decide ((stds : Int) = (0 : Int)) = false := by simp; omega
  have es0 : ((stds : Int) == (0 : Int)) = false := by simp; omega
  have ds1 : decide ((stds : Int) = (types : Int)) = true := by simp; omega
  have es1 : ((stds : Int) == (types : Int)) = true := by simp; omega
  have du0 : decide ((uts : Int) = (0 : Int)) = true := by simp; omega
  have eu0 : ((uts : Int) == (0 : Int)) = true := by simp; omega
  clear htimes hleaps hs0 hs1 hu0
  have HB : Hid (Below w.heap.size w (w.alloc (.cells #[.int .u8 version, .int .i64 uts, .int .i64 stds, .int .i64 leaps, .int .i64 times, .int .i64 types, .int .i64 letters] 60))) := Lib.hid ((Below.refl _ _).alloc (Nat.le_refl _) _)
  go_enter Try.func54, Try.ntmps54
  go_wp2_with (first | (go_at_call 66; refine (Htypes.out _).mono ?_; clear Htypes; rintro e V0 ⟨rfl, rfl⟩) | (go_at_call 66; refine (Hletters.out _).mono ?_; clear Hletters; rintro e V0 ⟨rfl, rfl⟩) | fail)
  go_ret
  exact ⟨rfl, HB.out⟩
set_option maxRecDepth 100000 in
set_option maxHeartbeats 2000000 in
theorem may_10 (version uts stds leaps times types letters : Nat) (w : World) (htypes : inI types 1 255 = true) (htimes : times ≤ 4000) (hletters : inI letters 1 4096 = true) (hleaps : leaps ≤ 1000) (hs0 : ¬ stds = 0) (hs1 : stds = types) (hu0 : ¬ uts = 0) (hu1 : uts = types) : Calls Try.prog 54 #[hdVal ⟨version, uts, stds, leaps, times, types, letters⟩] w fun e w' => e = .returned (.bool true) ∧ Below w.heap.size w w' := by
  unfold hdVal
  simp only
  have Htypes : Hid (∀ V, Calls Try.prog 66 #[.int .i64 types, .int .i64 1, .int .i64 255] V fun e w' => e = .returned (.bool true) ∧ V = w') := Lib.hid fun V => by have := within_i64 types 1 255 V; rwa [htypes] at this
  clear htypes
  have Hletters : Hid (∀ V, Calls Try.prog 66 #[.int .i64 letters, .int .i64 1, .int .i64 4096] V fun e w' => e = .returned (.bool true) ∧ V = w') := Lib.hid fun V => by have := within_i64 letters 1 4096 V; rwa [hletters] at this
  clear hletters
  have dtimes : decide ((times : Int) ≤ 4000) = true := by simp; omega
  have dleaps : decide ((leaps : Int) ≤ 1000) = true := by simp; omega
  have ds0 : decide ((stds : Int) = (0 : Int)) = false := by simp; omega
  have es0 : ((stds : Int) == (0 : Int)) = false := by simp; omega
  have ds1 : decide ((stds : Int) = (types : Int)) = true := by simp; omega
  have es1 : ((stds : Int) == (types : Int)) = true := by simp; omega
  have du0 : decide ((uts : Int) = (0 : Int)) = false := by simp; omega
  have eu0 : ((uts : Int) == (0 : Int)) = false := by simp; omega
  have du1 : decide ((uts : Int) = (types : Int)) = true := by simp; omega
  have eu1 : ((uts : Int) == (types : Int)) = true := by simp; omega
  clear htimes hleaps hs0 hs1 hu0 hu1
  have HB : Hid (Below w.heap.size w (w.alloc (.cells #[.int .u8 version, .int .i64 uts, .int .i64 stds, .int .i64 leaps, .int .i64 times, .int .i64 types, .int .i64 letters] 60))) := Lib.hid ((Below.refl _ _).alloc (Nat.le_refl _) _)
  go_enter Try.func54, Try.ntmps54
  go_wp2_with (first | (go_at_call 66; refine (Htypes.out _).mono ?_; clear Htypes; rintro e V0 ⟨rfl, rfl⟩) | (go_at_call 66; refine (Hletters.out _).mono ?_; clear Hletters; rintro e V0 ⟨rfl, rfl⟩) | fail)
  go_ret
  exact ⟨rfl, HB.out⟩
set_option maxRecDepth 100000 in
set_option maxHeartbeats 2000000 in
theorem may_11 (version uts stds leaps times types letters : Nat) (w : World) (htypes : inI types 1 255 = true) (htimes : times ≤ 4000) (hletters : inI letters 1 4096 = true) (hleaps : leaps ≤ 1000) (hs0 : ¬ stds = 0) (hs1 : stds = types) (hu0 : ¬ uts = 0) (hu1 : ¬ uts = types) : Calls Try.prog 54 #[hdVal ⟨version, uts, stds, leaps, times, types, letters⟩] w fun e w' => e = .returned (.bool false) ∧ Below w.heap.size w w' := by
  unfold hdVal
  simp only
  have Htypes : Hid (∀ V, Calls Try.prog 66 #[.int .i64 types, .int .i64 1, .int .i64 255] V fun e w' => e = .returned (.bool true) ∧ V = w') := Lib.hid fun V => by have := within_i64 types 1 255 V; rwa [htypes] at this
  clear htypes
  have Hletters : Hid (∀ V, Calls Try.prog 66 #[.int .i64 letters, .int .i64 1, .int .i64 4096] V fun e w' => e = .returned (.bool true) ∧ V = w') := Lib.hid fun V => by have := within_i64 letters 1 4096 V; rwa [hletters] at this
  clear hletters
  have dtimes : decide ((times : Int) ≤ 4000) = true := by simp; omega
  have dleaps : decide ((leaps : Int) ≤ 1000) = true := by simp; omega
  have ds0 : decide ((stds : Int) = (0 : Int)) = false := by simp; omega
  have es0 : ((stds : Int) == (0 : Int)) = false := by simp; omega
  have ds1 : decide ((stds : Int) = (types : Int)) = true := by simp; omega
  have es1 : ((stds : Int) == (types : Int)) = true := by simp; omega
  have du0 : decide ((uts : Int) = (0 : Int)) = false := by simp; omega
  have eu0 : ((uts : Int) == (0 : Int)) = false := by simp; omega
  have du1 : decide ((uts : Int) = (types : Int)) = false := by simp; omega
  have eu1 : ((uts : Int) == (types : Int)) = false := by simp; omega
  clear htimes hleaps hs0 hs1 hu0 hu1
  have HB : Hid (Below w.heap.size w (w.alloc (.cells #[.int .u8 version, .int .i64 uts, .int .i64 stds, .int .i64 leaps, .int .i64 times, .int .i64 types, .int .i64 letters] 60))) := Lib.hid ((Below.refl _ _).alloc (Nat.le_refl _) _)
  go_enter Try.func54, Try.ntmps54
  go_wp2_with (first | (go_at_call 66; refine (Htypes.out _).mono ?_; clear Htypes; rintro e V0 ⟨rfl, rfl⟩) | (go_at_call 66; refine (Hletters.out _).mono ?_; clear Hletters; rintro e V0 ⟨rfl, rfl⟩) | fail)
  go_ret
  exact ⟨rfl, HB.out⟩
theorem mayBe_any (h : Hd) (w : World) : Calls Try.prog 54 #[hdVal h] w fun e w' => e = .returned (.bool (mayB h)) ∧ Below w.heap.size w w' := by
  obtain ⟨version, uts, stds, leaps, times, types, letters⟩ := h
  cases h1 : inI types 1 255 with
  | false => rw [show mayB ⟨version, uts, stds, leaps, times, types, letters⟩ = false by simp [mayB, h1]]; exact may_1 version uts stds leaps times types letters w h1
  | true =>
    by_cases h2 : times ≤ 4000
    · cases h3 : inI letters 1 4096 with
      | false => rw [show mayB ⟨version, uts, stds, leaps, times, types, letters⟩ = false by simp [mayB, h3]]; exact may_3 version uts stds leaps times types letters w h1 h2 h3
      | true =>
        by_cases h4 : leaps ≤ 1000
        · by_cases h5 : stds = 0
          · by_cases h7 : uts = 0
            · rw [show mayB ⟨version, uts, stds, leaps, times, types, letters⟩ = true by simp [mayB, h1, h2, h3, h4, h5, h7]]; exact may_6 version uts stds leaps times types letters w h1 h2 h3 h4 h5 h7
            · by_cases h8 : uts = types
              · rw [show mayB ⟨version, uts, stds, leaps, times, types, letters⟩ = true by simp [mayB, h1, h2, h3, h4, h5, h8]]; exact may_7 version uts stds leaps times types letters w h1 h2 h3 h4 h5 h7 h8
              · rw [show mayB ⟨version, uts, stds, leaps, times, types, letters⟩ = false by simp [mayB, h7, h8]]; exact may_8 version uts stds leaps times types letters w h1 h2 h3 h4 h5 h7 h8
          · by_cases h6 : stds = types
            · by_cases h7 : uts = 0
              · rw [show mayB ⟨version, uts, stds, leaps, times, types, letters⟩ = true by simp [mayB, h1, h2, h3, h4, h6, h7]]; exact may_9 version uts stds leaps times types letters w h1 h2 h3 h4 h5 h6 h7
              · by_cases h8 : uts = types
                · rw [show mayB ⟨version, uts, stds, leaps, times, types, letters⟩ = true by simp [mayB, h1, h2, h3, h4, h6, h8]]; exact may_10 version uts stds leaps times types letters w h1 h2 h3 h4 h5 h6 h7 h8
                · rw [show mayB ⟨version, uts, stds, leaps, times, types, letters⟩ = false by simp [mayB, h7, h8]]; exact may_11 version uts stds leaps times types letters w h1 h2 h3 h4 h5 h6 h7 h8
            · rw [show mayB ⟨version, uts, stds, leaps, times, types, letters⟩ = false by simp [mayB, h5, h6]]; exact may_5 version uts stds leaps times types letters w h1 h2 h3 h4 h5 h6
        · rw [show mayB ⟨version, uts, stds, leaps, times, types, letters⟩ = false by simp [mayB, h4]]; exact may_4 version uts stds leaps times types letters w h1 h2 h3 h4
    · rw [show mayB ⟨version, uts, stds, leaps, times, types, letters⟩ = false by simp [mayB, h2]]; exact may_2 version uts stds leaps times types letters w h1 h2
end Go.Proofs.Ytohpdpcjhmopbaa.Tz

/-! Layer 6 (tzif): the footer, read. -/
namespace Go.Proofs.Ytohpdpcjhmopbaa.Tz
open Go.RowKit

theorem SB.cells {w : World} {B n c g off : Nat} {l : List Nat} (h : SB w B (some ⟨g, off, none⟩) n c l) : ∀ (j b : Nat), l[j]? = some b → w.cell? ⟨g, off + j, none⟩ = some (by8 b) := by
  obtain ⟨h1, h2, _, h4⟩ := h
  rcases h4 with ⟨e, _⟩ | ⟨g', off', e, _, hc⟩
  · cases e
  · injection e with e; injection e with e1 e2 _; subst e1; subst e2
    exact hc
theorem SB.texts {w : World} {B n c g off : Nat} {l : List Nat} (h : SB w B (some ⟨g, off, none⟩) n c l) : (convert 33 9 (.slice (some ⟨g, off, none⟩) n c)).run Try.prog w = .ok (.string (strOfNums (natsI l))) w := by
  have hc := h.cells
  have h1 := h.1
  exact run_convert_bytes_arg w 33 5 Try.underlying33 Try.underlying5 g off n c (natsI l) (by unfold natsI; simpa using h1) (fun i hi => by
      have h3 := hc i (l[i]'(by omega)) (List.getElem?_eq_getElem (by omega))
      rw [h3]
      unfold natsI
      simp [List.getD_eq_getElem?_getD, List.getElem?_map, List.getElem?_eq_getElem (show i < l.length by omega), by8]) 9 Try.underlying9
set_option maxRecDepth 100000 in
set_option maxHeartbeats 400000 in
theorem foot_a (l : List Nat) (B g : Nat) (w : World) (h : Rd w B g l) (hl : l.length < 2) :
    Calls Try.prog 48 #[.pointer (some ⟨g, 0, none⟩)] w fun e w' => e = .returned (.tuple #[.string ⟨#[]⟩, .bool false]) ∧ w = w' := by
  obtain ⟨⟨A, n, c, h1, h2, _⟩, _⟩ := h
  have hn : n = 0 ∨ n = 1 := by omega
  clear h2 hl
  rcases hn with rfl | rfl
  all_goals
    go_enter Try.func48, Try.ntmps48
    go_wp2_with fail
    go_ret2
    exact ⟨rfl, rfl⟩
end Go.Proofs.Ytohpdpcjhmopbaa.Tz

/-! Layer 6 (tzif): the footer, read: its first byte. -/
namespace Go.Proofs.Ytohpdpcjhmopbaa.Tz
open Go.RowKit

set_option maxRecDepth 100000 in
set_option maxHeartbeats 400000 in
theorem foot_b (p x : Nat) (l : List Nat) (B g : Nat) (w : World) (h : Rd w B g l) (hl : l.length = p + 1) (hp : 1 ≤ p) (hx : l[0]? = some x) (hne : x ≠ 10) :
    Calls Try.prog 48 #[.pointer (some ⟨g, 0, none⟩)] w fun e w' => e = .returned (.tuple #[.string ⟨#[]⟩, .bool false]) ∧ w = w' := by
  obtain ⟨⟨A, n, c, h1, h2, h3, h4, h5⟩, _⟩ := h
  have hn : n = p + 1 := by omega
  rcases h5 with ⟨_, e⟩ | ⟨gb, off, rfl, _, hc⟩
  · omega
  have k0 := hc 0 x hx
  rw [Nat.add_zero] at k0
  unfold by8 at k0
  have e6 : (n : Int) - 1 = (p : Int) := by omega
  have hj0 : (1 : Int) ≤ (p : Int) := by omega
  have hj2 : ¬ (p : Int) < 1 := by omega
  have hj3 : (0 : Int) < (n : Int) := by omega
  have hj4 : (n : Int) ≤ 9223372036854775807 := by omega
  have q0 : decide ((p : Int) < 1) = false := by simp; omega
  have q1 : decide ((x : Int) = 10) = false := by simp; omega
  have q2 : ((x : Int) == 10) = false := by simp; omega
  have q3 : ((x : Int) != 10) = true := by simp; omega
  clear hc hx hne h2 h3 h4 hl hp hn
  go_enter Try.func48, Try.ntmps48
  go_wp2_with fail
  go_ret2
  exact ⟨rfl, rfl⟩
set_option maxRecDepth 100000 in
set_option maxHeartbeats 400000 in
theorem foot_c (p : Nat) (l : List Nat) (B g : Nat) (w : World) (h : Rd w B g l) (hl : l.length = p + 1) (hp : 1 ≤ p) (hx : l[0]? = some 10) (y : Nat) (hy : l[p]? = some y) (hne : y ≠ 10) :
    Calls Try.prog 48 #[.pointer (some ⟨g, 0, none⟩)] w fun e w' => e = .returned (.tuple #[.string ⟨#[]⟩, .bool false]) ∧ w = w' := by
  obtain ⟨⟨A, n, c, h1, hs⟩, _⟩ := h
  obtain ⟨h2, h3, h4, h5⟩ := id hs
  have hn : n = p + 1 := by omega
  rcases h5 with ⟨_, e⟩ | ⟨gb, off, rfl, _, hc⟩
  · omega
  have k0 := hc 0 10 hx
  rw [Nat.add_zero] at k0
  have k1 := hc p y hy
  unfold by8 at k0 k1
  have e6 : (n : Int) - 1 = (p : Int) := by omega
  have hj0 : (1 : Int) ≤ (p : Int) := by omega
  have hj2 : ¬ (p : Int) < 1 := by omega
  have hj3 : (0 : Int) < (n : Int) := by omega
  have hj4 : (n : Int) ≤ 9223372036854775807 := by omega
  have hj5 : (p : Int) < (n : Int) := by omega
  have hj6 : (0 : Int) ≤ (p : Int) := by omega
  have q0 : decide ((p : Int) < 1) = false := by simp; omega
  have q1 : decide ((y : Int) = 10) = false := by simp; omega
  have q2 : ((y : Int) == 10) = false := by simp; omega
  have q3 : ((y : Int) != 10) = true := by simp; omega
  clear hne
  clear hc hx hy h2 h3 h4 hl hp hn hs
  go_enter Try.func48, Try.ntmps48
  go_wp2_with fail
  go_ret2
  exact ⟨rfl, rfl⟩
set_option maxRecDepth 100000 in
set_option maxHeartbeats 400000 in
theorem foot_d (p : Nat) (l : List Nat) (B g : Nat) (w : World) (h : Rd w B g l) (hl : l.length = p + 1) (hp : 1 ≤ p) (hx : l[0]? = some 10) (hy : l[p]? = some 10) :
    Calls Try.prog 48 #[.pointer (some ⟨g, 0, none⟩)] w fun e w' => e = .returned (.tuple #[.string (strOfNums (natsI ((l.drop 1).take (p - 1)))), .bool true]) ∧ w = w' := by
  obtain ⟨⟨A, n, c, h1, hs⟩, _⟩ := h
  obtain ⟨h2, h3, h4, h5⟩ := id hs
  have hn : n = p + 1 := by omega
  rcases h5 with ⟨_, e⟩ | ⟨gb, off, rfl, _, hc⟩
  · omega
  have k0 := hc 0 10 hx
  rw [Nat.add_zero] at k0
  have k1 := hc p 10 hy
  unfold by8 at k0 k1
  have e6 : (n : Int) - 1 = (p : Int) := by omega
  have hj0 : (1 : Int) ≤ (p : Int) := by omega
  have hj2 : ¬ (p : Int) < 1 := by omega
  have hj3 : (0 : Int) < (n : Int) := by omega
  have hj4 : (n : Int) ≤ 9223372036854775807 := by omega
  have hj5 : (p : Int) < (n : Int) := by omega
  have hj6 : (0 : Int) ≤ (p : Int) := by omega
  have q0 : decide ((p : Int) < 1) = false := by simp; omega
  have hpc : (p : Int) ≤ (c : Int) := by omega
  have hck : ¬ c - 1 = 0 := by omega
  have ht : (convert 33 9 (.slice (some ⟨gb, off + 1, none⟩) (p - 1) (c - 1))).run Try.prog w = .ok (.string (strOfNums (natsI ((l.drop 1).take (p - 1))))) w := ((hs.drop (k := 1) (by omega)).take (k := p - 1) (by omega)).texts
  obtain ⟨S, hS⟩ : ∃ S, strOfNums (natsI ((l.drop 1).take (p - 1))) = S := ⟨_, rfl⟩
  rw [hS] at ht ⊢
  clear hS
  clear hc hx hy h2 h3 h4 hl hp hn hs
  go_enter Try.func48, Try.ntmps48
  go_wp2_with fail
  go_ret2
  exact ⟨rfl, rfl⟩
/-- A footer's text: what stands between two line ends. -/
def footT (l : List Nat) : Option (List Nat) := if 2 ≤ l.length ∧ l[0]? = some 10 ∧ l[l.length - 1]? = some 10 then some ((l.drop 1).take (l.length - 2)) else none
def footV : Option (List Nat) → Value
  | none => .tuple #[.string ⟨#[]⟩, .bool false]
  | some t => .tuple #[.string (strOfNums (natsI t)), .bool true]
theorem footer_any (l : List Nat) (B g : Nat) (w : World) (h : Rd w B g l) :
    Calls Try.prog 48 #[.pointer (some ⟨g, 0, none⟩)] w fun e w' => e = .returned (footV (footT l)) ∧ w = w' := by
  by_cases h2 : l.length < 2
  · rw [show footT l = none by unfold footT; rw [if_neg]; omega]
    exact foot_a l B g w h h2
  · obtain ⟨p, hp⟩ : ∃ p, l.length = p + 1 := ⟨l.length - 1, by omega⟩
    obtain ⟨x, hx⟩ : ∃ x, l[0]? = some x := ⟨_, List.getElem?_eq_getElem (by omega)⟩
    obtain ⟨y, hy⟩ : ∃ y, l[p]? = some y := ⟨_, List.getElem?_eq_getElem (by omega)⟩
    have e1 : l.length - 1 = p := by omega
    have e2 : l.length - 2 = p - 1 := by omega
    by_cases h0 : x = 10
    · by_cases h1 : y = 10
      · subst h0; subst h1
        rw [show footT l = some ((l.drop 1).take (p - 1)) by unfold footT; rw [e1, e2, if_pos ⟨by omega, hx, hy⟩]]
        exact foot_d p l B g w h hp (by omega) hx hy
      · rw [show footT l = none by unfold footT; rw [e1, if_neg]; rintro ⟨_, _, h3⟩; rw [hy] at h3; injection h3 with h3; exact h1 h3]
        subst h0
        exact foot_c p l B g w h hp (by omega) hx y hy h1
    · rw [show footT l = none by unfold footT; rw [if_neg]; rintro ⟨_, h3, _⟩; rw [hx] at h3; injection h3 with h3; exact h0 h3]
      exact foot_b p x l B g w h hp (by omega) hx h0
end Go.Proofs.Ytohpdpcjhmopbaa.Tz

/-! Layer 6 (tzif): letters at a place. -/
namespace Go.Proofs.Ytohpdpcjhmopbaa.Tz
open Go.RowKit

set_option maxRecDepth 100000 in
set_option maxHeartbeats 400000 in
theorem letters_a (p : Nat) (A : Option Addr) (n c : Nat) (w : World) (hp : n ≤ p) :
    Calls Try.prog 61 #[.slice A n c, .int .i64 p] w fun e w' => e = .returned (.tuple #[.string ⟨#[]⟩, .bool false]) ∧ w = w' := by
  have h1 : (n : Int) ≤ (p : Int) := by omega
  have h2 : ¬ (p : Int) < (n : Int) := by omega
  clear hp
  go_enter Try.func61, Try.ntmps61
  go_wp2_with fail
  go_ret2
  exact ⟨rfl, rfl⟩
theorem SB.bytesIn {w : World} {B n c g off : Nat} {l : List Nat} (h : SB w B (some ⟨g, off, none⟩) n c l) : Lib.BytesIn w (some ⟨g, off, none⟩) n (natsI l) := by
  have hc := h.cells
  have h1 := h.1
  refine fun _ => ⟨g, off, rfl, fun i hi => ?_⟩
  rw [hc i (l[i]'(by omega)) (List.getElem?_eq_getElem (by omega))]
  unfold natsI
  simp [List.getD_eq_getElem?_getD, List.getElem?_map, List.getElem?_eq_getElem (show i < l.length by omega), by8]
/-- Where the first 0 is. -/
def zeroAt (l : List Nat) : Int := Lib.index (Lib.bytesOf (natsI l)) (Lib.bytesOf [0])
theorem cut_any (l : List Nat) (B gb off n c : Nat) (m : Int) (w X : World) (h : SB w B (some ⟨gb, off, none⟩) n c l) (hB : B ≤ w.heap.size) (hb : ∀ b ∈ l, b < 256) (hs : n < 4294967281) (h0 : 0 < w.heap.size) (hm : w.cell? ⟨0, 0, none⟩ = some (.int .i64 m)) (hX : w.alloc (.cells #[.int .u8 0] 5) = X) :
    Calls Try.prog 67 #[.slice (some ⟨gb, off, none⟩) n c, .slice (some ⟨w.heap.size, 0, none⟩) 1 1] X fun e w' => e = .returned (Lib.cutV (some ⟨gb, off, none⟩) n c 1 (zeroAt l)) ∧ ∃ q, w' = X.drewN q := by
  have hbw : Below w.heap.size w X := by rw [← hX]; exact (Below.refl _ _).alloc (Nat.le_refl _) _
  have hX1 := h.below hbw hB
  have k0 : X.cell? ⟨w.heap.size, 0, none⟩ = some (.int .u8 0) := by rw [← hX]; exact World.cell?_alloc_mark w _ _ (0, 0) 0
  exact Try.bytes_Cut_all (some ⟨gb, off, none⟩) (some ⟨w.heap.size, 0, none⟩) n c 1 1 (natsI l) [0] m X (by unfold natsI; simpa using h.1) rfl (fun x hx => by
    obtain ⟨y, hy, rfl⟩ := List.mem_map.1 hx
    have := hb y hy
    omega) (fun y hy => by rw [List.mem_singleton.1 hy]; decide) hX1.bytesIn (fun _ => ⟨_, 0, rfl, fun i hi => by
      obtain rfl : i = 0 := by omega
      exact k0⟩) (fun e => by simp at e) h.2.1 hs (by omega) (cells_at 0 hbw h0 hm)
set_option maxRecDepth 100000 in
set_option maxHeartbeats 400000 in
theorem letters_b (p : Nat) (l : List Nat) (B gb off n c : Nat) (m : Int) (w : World) (h : SB w B (some ⟨gb, off, none⟩) n c l) (hp : p < n) (hB : B ≤ w.heap.size) (hb : ∀ b ∈ l, b < 256) (hs : n < 4294967281) (h0 : 0 < w.heap.size) (hm : w.cell? ⟨0, 0, none⟩ = some (.int .i64 m)) (k : Nat) (hz : zeroAt (l.drop p) = (k : Int)) (hk : k ≤ n - p) :
    Calls Try.prog 61 #[.slice (some ⟨gb, off, none⟩) n c, .int .i64 p] w fun e w' => e = .returned (.tuple #[.string (strOfNums (natsI ((l.drop p).take k))), .bool true]) ∧ Below w.heap.size w w' := by
  have hnc := h.2.1
  have hcm := h.2.2.1
  have h1 : ¬ (n : Int) ≤ (p : Int) := by omega
  have h2 : (p : Int) < (n : Int) := by omega
  have h3 : (p : Int) ≤ (n : Int) := by omega
  have h4 : (0 : Int) ≤ (p : Int) := by omega
  have h5 : ¬ c - p = 0 := by omega
  obtain ⟨X, hX⟩ : ∃ X, w.alloc (.cells #[.int .u8 0] 5) = X := ⟨_, rfl⟩
  have hbw : Below w.heap.size w X := by rw [← hX]; exact (Below.refl _ _).alloc (Nat.le_refl _) _
  have hd := h.drop (k := p) (by omega)
  have HT : Hid (∀ q, (convert 33 9 (.slice (some ⟨gb, off + p, none⟩) k (c - p))).run Try.prog (X.drewN q) = .ok (.string (strOfNums (natsI ((l.drop p).take k)))) (X.drewN q)) := Lib.hid fun q => by
    have hd2 : SB (X.drewN q) B (some ⟨gb, off + p, none⟩) (n - p) (c - p) (l.drop p) := hd.below (C := w.heap.size) (drewN_below hbw q) hB
    exact (hd2.take hk).texts
  have HBW : Hid (∀ q, Below w.heap.size w (X.drewN q)) := Lib.hid fun q => drewN_below hbw q
  obtain ⟨r, hr⟩ : ∃ r, Lib.fromV (some ⟨gb, off + p, none⟩) (n - p) (c - p) (k + 1) = r := ⟨_, rfl⟩
  have HC : Hid (Calls Try.prog 67 #[.slice (some ⟨gb, off + p, none⟩) (n - p) (c - p), .slice (some ⟨w.heap.size, 0, none⟩) 1 1] X fun e w' => e = .returned (.tuple #[.slice (some ⟨gb, off + p, none⟩) k (c - p), r, .bool true]) ∧ ∃ q, w' = X.drewN q) := Lib.hid (by
    have hc := cut_any (l.drop p) B gb (off + p) (n - p) (c - p) m w X hd hB (fun b hx => hb b (List.mem_of_mem_drop hx)) (by omega) h0 hm hX
    rw [hz] at hc
    unfold Lib.cutV at hc
    rw [if_pos (by omega)] at hc
    rw [← hr]
    exact hc)
  obtain ⟨S, hS⟩ : ∃ S, strOfNums (natsI ((l.drop p).take k)) = S := ⟨_, rfl⟩
  rw [hS] at HT ⊢
  clear hp h hnc hcm hz hk hd hbw hS hr hb hs h0 hm hB
  go_enter Try.func61, Try.ntmps61
  go_wp2_with (first
    | (go_at_call 67; (try rw [hX]); refine HC.out.mono ?_; clear HC; rintro e V ⟨rfl, q, rfl⟩; have ht := HT.out q)
    | fail)
  go_ret2
  exact ⟨rfl, HBW.out q⟩
set_option maxRecDepth 100000 in
set_option maxHeartbeats 400000 in
theorem letters_c (p : Nat) (l : List Nat) (B gb off n c : Nat) (m : Int) (w : World) (h : SB w B (some ⟨gb, off, none⟩) n c l) (hp : p < n) (hB : B ≤ w.heap.size) (hb : ∀ b ∈ l, b < 256) (hs : n < 4294967281) (h0 : 0 < w.heap.size) (hm : w.cell? ⟨0, 0, none⟩ = some (.int .i64 m)) (hz : zeroAt (l.drop p) = -1) :
    Calls Try.prog 61 #[.slice (some ⟨gb, off, none⟩) n c, .int .i64 p] w fun e w' => e = .returned (.tuple #[.string (strOfNums (natsI (l.drop p))), .bool false]) ∧ Below w.heap.size w w' := by
  have hnc := h.2.1
  have hcm := h.2.2.1
  have h1 : ¬ (n : Int) ≤ (p : Int) := by omega
  have h2 : (p : Int) < (n : Int) := by omega
  have h3 : (p : Int) ≤ (n : Int) := by omega
  have h4 : (0 : Int) ≤ (p : Int) := by omega
  have h5 : ¬ c - p = 0 := by omega
  obtain ⟨X, hX⟩ : ∃ X, w.alloc (.cells #[.int .u8 0] 5) = X := ⟨_, rfl⟩
  have hbw : Below w.heap.size w X := by rw [← hX]; exact (Below.refl _ _).alloc (Nat.le_refl _) _
  have hd := h.drop (k := p) (by omega)
  have HT : Hid (∀ q, (convert 33 9 (.slice (some ⟨gb, off + p, none⟩) (n - p) (c - p))).run Try.prog (X.drewN q) = .ok (.string (strOfNums (natsI (l.drop p)))) (X.drewN q)) := Lib.hid fun q => by
    have hd2 : SB (X.drewN q) B (some ⟨gb, off + p, none⟩) (n - p) (c - p) (l.drop p) := hd.below (C := w.heap.size) (drewN_below hbw q) hB
    exact hd2.texts
  have HBW : Hid (∀ q, Below w.heap.size w (X.drewN q)) := Lib.hid fun q => drewN_below hbw q
  obtain ⟨r, hr⟩ : ∃ r, Value.slice none 0 0 = r := ⟨_, rfl⟩
  have HC : Hid (Calls Try.prog 67 #[.slice (some ⟨gb, off + p, none⟩) (n - p) (c - p), .slice (some ⟨w.heap.size, 0, none⟩) 1 1] X fun e w' => e = .returned (.tuple #[.slice (some ⟨gb, off + p, none⟩) (n - p) (c - p), r, .bool false]) ∧ ∃ q, w' = X.drewN q) := Lib.hid (by
    have hc := cut_any (l.drop p) B gb (off + p) (n - p) (c - p) m w X hd hB (fun b hx => hb b (List.mem_of_mem_drop hx)) (by omega) h0 hm hX
    rw [hz] at hc
    unfold Lib.cutV at hc
    rw [if_neg (by omega)] at hc
    rw [← hr]
    exact hc)
  obtain ⟨S, hS⟩ : ∃ S, strOfNums (natsI (l.drop p)) = S := ⟨_, rfl⟩
  rw [hS] at HT ⊢
  clear hp h hnc hcm hz hd hbw hS hr hb hs h0 hm hB
  go_enter Try.func61, Try.ntmps61
  go_wp2_with (first
    | (go_at_call 67; (try rw [hX]); refine HC.out.mono ?_; clear HC; rintro e V ⟨rfl, q, rfl⟩; have ht := HT.out q)
    | fail)
  go_ret2
  exact ⟨rfl, HBW.out q⟩
end Go.Proofs.Ytohpdpcjhmopbaa.Tz

/-! Layer 6 (tzif): letters at a place: one contract. -/
namespace Go.Proofs.Ytohpdpcjhmopbaa.Tz
open Go.RowKit

def till0 (l : List Nat) : List Nat := l.takeWhile fun b => decide (b ≠ 0)
theorem take_till0 : ∀ l : List Nat, l.take (till0 l).length = till0 l
  | [] => rfl
  | b :: l => by
    unfold till0
    by_cases h : b = 0
    · simp [h]
    · have := take_till0 l
      unfold till0 at this
      simp [h]
      simpa using this
theorem till0_len (l : List Nat) : (till0 l).length ≤ l.length := by
  unfold till0
  exact (List.takeWhile_sublist _).length_le
theorem zeroAt_nil : zeroAt [] = -1 := by unfold zeroAt natsI; rw [show Lib.bytesOf [0] = [0] from rfl, Lib.index_one]; rfl
theorem zeroAt_cons (b : Nat) (l : List Nat) (hb : b < 256) : zeroAt (b :: l) = if b = 0 then 0 else if zeroAt l = -1 then -1 else zeroAt l + 1 := by
  unfold zeroAt natsI
  rw [show Lib.bytesOf [0] = [0] from rfl, Lib.index_one, Lib.index_one]
  show (if (UInt8.ofNat b == 0) then (0 : Int) else if Lib.indexByte (Lib.bytesOf (List.map (fun n : Nat => (n : Int)) l)) 0 == -1 then -1 else Lib.indexByte (Lib.bytesOf (List.map (fun n : Nat => (n : Int)) l)) 0 + 1) = _
  have e : (UInt8.ofNat b == 0) = decide (b = 0) := by
    by_cases h : b = 0
    · subst h; rfl
    · have : UInt8.ofNat b ≠ 0 := by
        intro hx
        have := congrArg UInt8.toNat hx
        simp at this
        omega
      simp [h, this]
  rw [e]
  simp only [decide_eq_true_eq, beq_iff_eq]
theorem zeroAt_any : ∀ l : List Nat, (∀ b ∈ l, b < 256) → (0 ∉ l ∧ zeroAt l = -1) ∨ (0 ∈ l ∧ zeroAt l = ((till0 l).length : Int))
  | [], _ => .inl ⟨by simp, zeroAt_nil⟩
  | b :: l, h => by
    rw [zeroAt_cons b l (h b (by simp))]
    by_cases h0 : b = 0
    · right
      subst h0
      exact ⟨by simp, by unfold till0; simp⟩
    · rw [if_neg h0]
      rcases zeroAt_any l (fun x hx => h x (by simp [hx])) with ⟨h1, h2⟩ | ⟨h1, h2⟩
      · left
        exact ⟨by simp [h1, Ne.symm h0], by rw [if_pos h2]⟩
      · right
        refine ⟨by simp [h1], ?_⟩
        rw [h2, if_neg (by omega)]
        unfold till0
        simp [h0]
/-- Letters at a place, up to the next 0. -/
def lettersV (l : List Nat) (p : Nat) : Option (List Nat) := if 0 ∈ l.drop p then some (till0 (l.drop p)) else none
theorem lettersAt_any (p : Nat) (l : List Nat) (B n c : Nat) (A : Option Addr) (m : Int) (w : World) (h : SB w B A n c l) (hB : B ≤ w.heap.size) (hb : ∀ b ∈ l, b < 256) (hs : n < 4294967281) (h0 : 0 < w.heap.size) (hm : w.cell? ⟨0, 0, none⟩ = some (.int .i64 m)) :
    Calls Try.prog 61 #[.slice A n c, .int .i64 p] w fun e w' => (∃ S ok, e = .returned (.tuple #[.string S, .bool ok]) ∧ ok = (lettersV l p).isSome ∧ ∀ t, lettersV l p = some t → S = strOfNums (natsI t)) ∧ Below w.heap.size w w' := by
  by_cases hp : p < n
  · have h4 := h.2.2.2
    rcases h4 with ⟨rfl, hc⟩ | ⟨gb, off, rfl, _, _⟩
    · have := h.2.1; omega
    rcases zeroAt_any (l.drop p) (fun b hx => hb b (List.mem_of_mem_drop hx)) with ⟨h1, h2⟩ | ⟨h1, h2⟩
    · refine (letters_c p l B gb off n c m w h hp hB hb hs h0 hm h2).mono ?_
      rintro e w' ⟨he, hw⟩
      exact ⟨⟨_, _, he, by unfold lettersV; rw [if_neg h1]; rfl, by unfold lettersV; rw [if_neg h1]; intro t ht; cases ht⟩, hw⟩
    · refine (letters_b p l B gb off n c m w h hp hB hb hs h0 hm _ h2 (by have := till0_len (l.drop p); rw [List.length_drop] at this; have := h.1; omega)).mono ?_
      rintro e w' ⟨he, hw⟩
      rw [take_till0] at he
      exact ⟨⟨_, _, he, by unfold lettersV; rw [if_pos h1]; rfl, by unfold lettersV; rw [if_pos h1]; intro t ht; injection ht with ht; rw [ht]⟩, hw⟩
  · have h1 : 0 ∉ l.drop p := by
      rw [List.drop_eq_nil_of_le (by have := h.1; omega)]
      simp
    refine (letters_a p A n c w (by omega)).mono ?_
    rintro e w' ⟨he, rfl⟩
    exact ⟨⟨_, _, he, by unfold lettersV; rw [if_neg h1]; rfl, by unfold lettersV; rw [if_neg h1]; intro t ht; cases ht⟩, Below.refl _ _⟩
end Go.Proofs.Ytohpdpcjhmopbaa.Tz
