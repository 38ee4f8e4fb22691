/-
  Layer 6 (tzif): a head, read (written by gen_head6.py).
-/
import Derived.Test.YtljkcnoicdhchaaTzBe
import Derived.Test.YtljkcnoicdhchaaTzPerm
namespace Go.Proofs.Ytljkcnoicdhchaa.Tz
open Go.RowKit

set_option maxRecDepth 100000 in
set_option maxHeartbeats 4000000 in
theorem head_c (l : List Nat) (B g : Nat) (w : World) (vi : Int) (h : Rd w B g l) (hb : ∀ b ∈ l, b < 256) (h44 : 44 ≤ l.length) (hm : l.take 4 = [84, 90, 105, 102]) (hv : (l.getD 4 0 : Int) = vi) (h0 : vi ≠ 0) (h1 : vi ≠ 50) (h2 : vi ≠ 51) :
    Calls Try.prog 44 #[.pointer (some ⟨g, 0, none⟩)] w fun e w' => e = .returned (.tuple #[noHead, .bool false]) ∧ w.grownBy w' (some g) := by
  obtain ⟨P, hP⟩ : ∃ P, w.heap.size = P := ⟨_, rfl⟩
  obtain ⟨W0, hW0⟩ : ∃ W0, w.alloc (.cells #[.int .u8 0, .int .i64 0, .int .i64 0, .int .i64 0, .int .i64 0, .int .i64 0, .int .i64 0] 60) = W0 := ⟨_, rfl⟩
  have hgP : g < P := by rw [← hP]; exact h.lt
  have HP := Lib.hid hP
  have hR0 : Rd W0 B g l := h.below (C := P) (by rw [← hW0, ← hP]; exact (Below.refl _ _).alloc (Nat.le_refl _) _) hgP
  have HR0 := Lib.hid hR0
  have HG0 : Hid (w.grownBy W0 (some g)) := Lib.hid (by rw [← hW0]; exact World.grownBy_alloc w _ _)
  have HS0 : Hid (W0.heap.size = P + 1) := Lib.hid (by rw [← hW0]; simp [hP])
  have HC0 : Hid (∀ i u, (#[.int .u8 0, .int .i64 0, .int .i64 0, .int .i64 0, .int .i64 0, .int .i64 0, .int .i64 0] : Array Value)[i]? = some u → W0.cell? ⟨P, i, none⟩ = some u) := Lib.hid fun i u hu => by rw [← hW0]; exact cell_new w _ _ _ i u hP hu
  have HF0 : Hid (∀ i, W0.frozen? ⟨P, i, none⟩ = false) := Lib.hid fun i => by rw [← hW0, ← hP]; exact frozen_of_row _ _ i _ _ (heap_alloc_new _ _)
  have HKE : Hid (∀ V, W0.grownBy V (some g) → (∀ i u, (#[.int .u8 0, .int .i64 0, .int .i64 0, .int .i64 0, .int .i64 0, .int .i64 0, .int .i64 0] : Array Value)[i]? = some u → V.cell? ⟨P, i, none⟩ = some u) ∧ (∀ i, V.frozen? ⟨P, i, none⟩ = false) ∧ P < V.heap.size) := Lib.hid fun V hV => by
    have hblk : V.heap[P]? = W0.heap[P]? := hV.block P (by rw [HS0.out]; omega) (fun e => by injection e with e; omega)
    exact ⟨fun i u hu => (World.cell?_of_block (a := ⟨P, i, none⟩) hblk).trans (HC0.out i u hu), fun i => (World.frozen?_of_block (a := ⟨P, i, none⟩) hblk).trans (HF0.out i), by have := hV.size; rw [HS0.out] at this; omega⟩
  have H1 : Hid (Calls Try.prog 46 #[.pointer (some ⟨g, 0, none⟩), .int .i64 44] W0 fun e w' => e = .returned (.bool true) ∧ W0 = w') := Lib.hid (by
    have := has_any l B g 44 W0 hR0
    rwa [show decide ((44 : Int) ≤ (l.length : Int)) = true by simp; omega] at this)
  have hS : strOfNums (natsI (l.take 4)) = ⟨#[84, 90, 105, 102]⟩ := (magic_text (l.take 4) (by rw [List.length_take]; omega) (fun b hx => hb b (List.mem_of_mem_take hx))).2 hm
  have HT1 : Hid (Calls Try.prog 47 #[.pointer (some ⟨g, 0, none⟩), .int .i64 4] W0 fun e w' => ∃ A c, e = .returned (.slice A 4 c) ∧ (convert 33 9 (.slice A 4 c)).run Try.prog w' = .ok (.string ⟨#[84, 90, 105, 102]⟩) w' ∧ Rd w' B g (l.drop 4) ∧ W0.grownBy w' (some g)) := Lib.hid (by
    refine (take_any l B g 4 W0 HR0.out (by omega)).mono ?_
    rintro e w' ⟨A, c, he, h1, h2, h3⟩
    exact ⟨A, c, he, by rw [← hS]; exact h1.text (by omega), h2, h3⟩)
  have HT2 : Hid (∀ V, Rd V B g (l.drop 4) → Calls Try.prog 47 #[.pointer (some ⟨g, 0, none⟩), .int .i64 1] V fun e w' => ∃ gb off c, e = .returned (.slice (some ⟨gb, off, none⟩) 1 c) ∧ w'.cell? ⟨gb, off, none⟩ = some (.int .u8 vi) ∧ Rd w' B g (l.drop 5) ∧ V.grownBy w' (some g)) := Lib.hid fun V hV => by
    refine (take_any (l.drop 4) B g 1 V hV (by rw [List.length_drop]; omega)).mono ?_
    rintro e w' ⟨A, c, he, h1, h2, h3⟩
    rw [List.drop_drop] at h2
    obtain ⟨s1, s2, s3, s4⟩ := h1
    rcases s4 with ⟨_, e0⟩ | ⟨gb, off, rfl, _, hc⟩
    · omega
    · have h4 := hc 0 (l.getD 4 0) (by
        rw [List.getElem?_take, if_pos (by omega), List.getElem?_drop, List.getD_eq_getElem?_getD, List.getElem?_eq_getElem (show 4 + 0 < l.length by omega)]; rfl)
      rw [Nat.add_zero] at h4
      rw [← hv]
      exact ⟨gb, off, c, he, h4, h2, h3⟩
  have n1 : (vi == 0) = false := by simpa using h0
  have n2 : (vi == 50) = false := by simpa using h1
  have n3 : (vi == 51) = false := by simpa using h2
  have m1 : (vi != 0) = true := by simpa using h0
  have m2 : (vi != 50) = true := by simpa using h1
  have m3 : (vi != 51) = true := by simpa using h2
  have k1 : decide (vi = 0) = false := by simpa using h0
  have k2 : decide (vi = 50) = false := by simpa using h1
  have k3 : decide (vi = 51) = false := by simpa using h2
  clear hR0 h h44 hm hb hS hv
  go_enter Try.func44, Try.ntmps44
  go_wp2_with (first
    | (go_at_call 46; refine H1.out.mono ?_; clear H1; rintro e V0 ⟨rfl, rfl⟩)
    | (go_at_call 47; refine HT1.out.mono ?_; clear HT1; rintro e V1 ⟨A1, c1v, rfl, hcv, hr, hg⟩; have HR1 := Lib.hid hr; have HG1 := Lib.hid hg; clear hr hg)
    | (go_at_call 47; refine (HT2.out _ HR1.out).mono ?_; clear HT2; rintro e V2 ⟨gb, off, c2v, rfl, hcell, hr, hg⟩; have HR2 := Lib.hid hr; have HG2 := Lib.hid (HG1.out.trans hg); clear hr hg hcv; have hk := HKE.out _ HG2.out; have c0 := hk.1 0 _ rfl; have c1 := hk.1 1 _ rfl; have c2 := hk.1 2 _ rfl; have c3 := hk.1 3 _ rfl; have c4 := hk.1 4 _ rfl; have c5 := hk.1 5 _ rfl; have c6 := hk.1 6 _ rfl; have f0 := hk.2.1 0; have f1 := hk.2.1 1; have f2 := hk.2.1 2; have f3 := hk.2.1 3; have f4 := hk.2.1 4; have f5 := hk.2.1 5; have f6 := hk.2.1 6; have hlt := hk.2.2; clear hk)
    | fail)
  exact bodyPost_ret (v := .tuple #[noHead, .bool false]) (by simp [results, Try.results44, go_sem, noHead, c0, c1, c2, c3, c4, c5, c6]) rfl ⟨rfl, gb_below (HG0.out.trans HG2.out) (by rw [HP.out]; exact (((((((Below.refl P V2).setCell (Nat.le_refl _) _).setCell (Nat.le_refl _) _).setCell (Nat.le_refl _) _).setCell (Nat.le_refl _) _).setCell (Nat.le_refl _) _).setCell (Nat.le_refl _) _).setCell (Nat.le_refl _) _)⟩
theorem OwnI.open_ {w : World} {base : Nat} {te : TypeId} {v : Value} {xs : List Int} (h : OwnI w base te v xs) (h0 : 0 < xs.length) : ∃ g c, v = .slice (some ⟨g, 0, none⟩) xs.length c ∧ base ≤ g ∧ ∀ j u, xs[j]? = some u → w.cell? ⟨g, j, none⟩ = some (.int .i64 u) := by
  rcases h.2 with ⟨rfl, h1⟩ | ⟨g, cap, cur, rfl, hbg, hg, _⟩
  · omega
  · refine ⟨g, cap, rfl, hbg, fun j u hu => ?_⟩
    have := World.ownsRow.cells h (g := g) rfl j (.int .i64 u) (by rw [List.getElem?_map, hu]; rfl)
    rwa [Own_add] at this
theorem drew_cell (X : World) (p : Addr) : X.drew.cell? p = X.cell? p := rfl
theorem set7_cell (V : World) (P gn j : Nat) (h : P ≠ gn) (a0 a1 a2 a3 a4 a5 a6 : Value) : (((((((V.setCell ⟨P, 0, none⟩ a0).setCell ⟨P, 1, none⟩ a1).setCell ⟨P, 2, none⟩ a2).setCell ⟨P, 3, none⟩ a3).setCell ⟨P, 4, none⟩ a4).setCell ⟨P, 5, none⟩ a5).setCell ⟨P, 6, none⟩ a6).drew.cell? ⟨gn, j, none⟩ = V.cell? ⟨gn, j, none⟩ := by
  have h1 : ∀ (U : World) (i : Nat) (u : Value), (U.setCell ⟨P, i, none⟩ u).cell? ⟨gn, j, none⟩ = U.cell? ⟨gn, j, none⟩ := fun U i u => World.cell?_setCell_other _ _ _ _ (by rintro ⟨⟩; exact h rfl)
  rw [drew_cell, h1, h1, h1, h1, h1, h1, h1]
theorem set7_below (V : World) (P : Nat) (a0 a1 a2 a3 a4 a5 a6 : Value) : Below P V (((((((V.setCell ⟨P, 0, none⟩ a0).setCell ⟨P, 1, none⟩ a1).setCell ⟨P, 2, none⟩ a2).setCell ⟨P, 3, none⟩ a3).setCell ⟨P, 4, none⟩ a4).setCell ⟨P, 5, none⟩ a5).setCell ⟨P, 6, none⟩ a6).drew := by
  have h1 : ∀ (U : World) (i : Nat) (u : Value), Below P V U → Below P V (U.setCell ⟨P, i, none⟩ u) := fun U i u hu => hu.setCell (Nat.le_refl _) _
  exact (h1 _ _ _ (h1 _ _ _ (h1 _ _ _ (h1 _ _ _ (h1 _ _ _ (h1 _ _ _ (h1 _ _ _ (Below.refl P V)))))))).drew
set_option maxRecDepth 100000 in
set_option maxHeartbeats 4000000 in
theorem head_d (l : List Nat) (B g : Nat) (w : World) (vi : Int) (h : Rd w B g l) (hb : ∀ b ∈ l, b < 256) (h44 : 44 ≤ l.length) (hm : l.take 4 = [84, 90, 105, 102]) (hv : (l.getD 4 0 : Int) = vi) (hq : vi = 0 ∨ vi = 50 ∨ vi = 51) :
    Calls Try.prog 44 #[.pointer (some ⟨g, 0, none⟩)] w fun e w' => e = .returned (.tuple #[hdVal (hdOf l), .bool true]) ∧ Rd w' B g (l.drop 44) ∧ w.grownBy w' (some g) := by
  obtain ⟨P, hP⟩ : ∃ P, w.heap.size = P := ⟨_, rfl⟩
  obtain ⟨W0, hW0⟩ : ∃ W0, w.alloc (.cells #[.int .u8 0, .int .i64 0, .int .i64 0, .int .i64 0, .int .i64 0, .int .i64 0, .int .i64 0] 60) = W0 := ⟨_, rfl⟩
  have hgP : g < P := by rw [← hP]; exact h.lt
  have HP := Lib.hid hP
  have hR0 : Rd W0 B g l := h.below (C := P) (by rw [← hW0, ← hP]; exact (Below.refl _ _).alloc (Nat.le_refl _) _) hgP
  have HR0 := Lib.hid hR0
  have HG0 : Hid (w.grownBy W0 (some g)) := Lib.hid (by rw [← hW0]; exact World.grownBy_alloc w _ _)
  have HS0 : Hid (W0.heap.size = P + 1) := Lib.hid (by rw [← hW0]; simp [hP])
  have HC0 : Hid (∀ i u, (#[.int .u8 0, .int .i64 0, .int .i64 0, .int .i64 0, .int .i64 0, .int .i64 0, .int .i64 0] : Array Value)[i]? = some u → W0.cell? ⟨P, i, none⟩ = some u) := Lib.hid fun i u hu => by rw [← hW0]; exact cell_new w _ _ _ i u hP hu
  have HF0 : Hid (∀ i, W0.frozen? ⟨P, i, none⟩ = false) := Lib.hid fun i => by rw [← hW0, ← hP]; exact frozen_of_row _ _ i _ _ (heap_alloc_new _ _)
  have HKE : Hid (∀ V, W0.grownBy V (some g) → (∀ i u, (#[.int .u8 0, .int .i64 0, .int .i64 0, .int .i64 0, .int .i64 0, .int .i64 0, .int .i64 0] : Array Value)[i]? = some u → V.cell? ⟨P, i, none⟩ = some u) ∧ (∀ i, V.frozen? ⟨P, i, none⟩ = false) ∧ P < V.heap.size) := Lib.hid fun V hV => by
    have hblk : V.heap[P]? = W0.heap[P]? := hV.block P (by rw [HS0.out]; omega) (fun e => by injection e with e; omega)
    exact ⟨fun i u hu => (World.cell?_of_block (a := ⟨P, i, none⟩) hblk).trans (HC0.out i u hu), fun i => (World.frozen?_of_block (a := ⟨P, i, none⟩) hblk).trans (HF0.out i), by have := hV.size; rw [HS0.out] at this; omega⟩
  have H1 : Hid (Calls Try.prog 46 #[.pointer (some ⟨g, 0, none⟩), .int .i64 44] W0 fun e w' => e = .returned (.bool true) ∧ W0 = w') := Lib.hid (by
    have := has_any l B g 44 W0 hR0
    rwa [show decide ((44 : Int) ≤ (l.length : Int)) = true by simp; omega] at this)
  have hS : strOfNums (natsI (l.take 4)) = ⟨#[84, 90, 105, 102]⟩ := (magic_text (l.take 4) (by rw [List.length_take]; omega) (fun b hx => hb b (List.mem_of_mem_take hx))).2 hm
  have HT1 : Hid (Calls Try.prog 47 #[.pointer (some ⟨g, 0, none⟩), .int .i64 4] W0 fun e w' => ∃ A c, e = .returned (.slice A 4 c) ∧ (convert 33 9 (.slice A 4 c)).run Try.prog w' = .ok (.string ⟨#[84, 90, 105, 102]⟩) w' ∧ Rd w' B g (l.drop 4) ∧ W0.grownBy w' (some g)) := Lib.hid (by
    refine (take_any l B g 4 W0 HR0.out (by omega)).mono ?_
    rintro e w' ⟨A, c, he, h1, h2, h3⟩
    exact ⟨A, c, he, by rw [← hS]; exact h1.text (by omega), h2, h3⟩)
  have HT2 : Hid (∀ V, Rd V B g (l.drop 4) → Calls Try.prog 47 #[.pointer (some ⟨g, 0, none⟩), .int .i64 1] V fun e w' => ∃ gb off c, e = .returned (.slice (some ⟨gb, off, none⟩) 1 c) ∧ w'.cell? ⟨gb, off, none⟩ = some (.int .u8 vi) ∧ Rd w' B g (l.drop 5) ∧ V.grownBy w' (some g)) := Lib.hid fun V hV => by
    refine (take_any (l.drop 4) B g 1 V hV (by rw [List.length_drop]; omega)).mono ?_
    rintro e w' ⟨A, c, he, h1, h2, h3⟩
    rw [List.drop_drop] at h2
    obtain ⟨s1, s2, s3, s4⟩ := h1
    rcases s4 with ⟨_, e0⟩ | ⟨gb, off, rfl, _, hc⟩
    · omega
    · have h4 := hc 0 (l.getD 4 0) (by
        rw [List.getElem?_take, if_pos (by omega), List.getElem?_drop, List.getD_eq_getElem?_getD, List.getElem?_eq_getElem (show 4 + 0 < l.length by omega)]; rfl)
      rw [Nat.add_zero] at h4
      rw [← hv]
      exact ⟨gb, off, c, he, h4, h2, h3⟩
  obtain ⟨u0, hu0⟩ : ∃ u, be ((l.drop 20).take 4) = u := ⟨_, rfl⟩
  obtain ⟨u1, hu1⟩ : ∃ u, be ((l.drop 24).take 4) = u := ⟨_, rfl⟩
  obtain ⟨u2, hu2⟩ : ∃ u, be ((l.drop 28).take 4) = u := ⟨_, rfl⟩
  obtain ⟨u3, hu3⟩ : ∃ u, be ((l.drop 32).take 4) = u := ⟨_, rfl⟩
  obtain ⟨u4, hu4⟩ : ∃ u, be ((l.drop 36).take 4) = u := ⟨_, rfl⟩
  obtain ⟨u5, hu5⟩ : ∃ u, be ((l.drop 40).take 4) = u := ⟨_, rfl⟩
  have HHD : Hid (hdVal (hdOf l) = .agg #[.int .u8 vi, .int .i64 u0, .int .i64 u1, .int .i64 u2, .int .i64 u3, .int .i64 u4, .int .i64 u5]) := Lib.hid (by unfold hdVal hdOf; simp only [hu0, hu1, hu2, hu3, hu4, hu5, hv])
  have HT3 : Hid (∀ V, Rd V B g (l.drop 5) → Calls Try.prog 47 #[.pointer (some ⟨g, 0, none⟩), .int .i64 15] V fun e w' => ∃ A c, e = .returned (.slice A 15 c) ∧ Rd w' B g (l.drop 20) ∧ V.grownBy w' (some g)) := Lib.hid fun V hV => by
    refine (take_any (l.drop 5) B g 15 V hV (by rw [List.length_drop]; omega)).mono ?_
    rintro e w' ⟨A, c, he, h1, h2, h3⟩
    rw [List.drop_drop] at h2
    exact ⟨A, c, he, h2, h3⟩
  have HT4 : Hid (∀ V, Rd V B g (l.drop 20) → Calls Try.prog 52 #[.int .i64 6, .func (.func 53) #[.pointer (some ⟨g, 0, none⟩)] #[]] V fun e w' => ∃ gn cn, e = .returned (.slice (some ⟨gn, 0, none⟩) 6 cn) ∧ V.heap.size ≤ gn ∧ w'.cell? ⟨gn, 0, none⟩ = some (.int .i64 u0) ∧ w'.cell? ⟨gn, 1, none⟩ = some (.int .i64 u1) ∧ w'.cell? ⟨gn, 2, none⟩ = some (.int .i64 u2) ∧ w'.cell? ⟨gn, 3, none⟩ = some (.int .i64 u3) ∧ w'.cell? ⟨gn, 4, none⟩ = some (.int .i64 u4) ∧ w'.cell? ⟨gn, 5, none⟩ = some (.int .i64 u5) ∧ Rd w' B g (l.drop 44) ∧ V.grownBy w' (some g)) := Lib.hid fun V hV => by
    refine (rows64_any _ (.inl rfl) (l.drop 20) B g 4 6 (fun x => (be x : Int)) V hV (fun U k hU hk hkb => count_any k B g U hU hk hkb) (by omega) (by rw [List.length_drop]; omega) (fun b hx => hb b (List.mem_of_mem_drop hx))).mono ?_
    rintro e w' ⟨A, c, he, h1, h2, h3⟩
    rw [List.drop_drop] at h2
    have hl := vals_len 4 (fun x => (be x : Int)) 6 (l.drop 20)
    obtain ⟨gn, cn, e1, hbg, hc⟩ := h1.open_ (by rw [hl]; omega)
    rw [hl] at e1
    rw [e1] at he
    have hvs : vals 4 (fun x => (be x : Int)) 6 (l.drop 20) = [(u0 : Int), u1, u2, u3, u4, u5] := by
      simp only [vals, List.drop_drop]
      rw [hu0, hu1, hu2, hu3, hu4, hu5]
    rw [hvs] at hc
    exact ⟨gn, cn, he, hbg, hc 0 _ rfl, hc 1 _ rfl, hc 2 _ rfl, hc 3 _ rfl, hc 4 _ rfl, hc 5 _ rfl, h2, h3⟩
  rw [HHD.out]
  clear hR0 h h44 hm hb hS hv hu0 hu1 hu2 hu3 hu4 hu5
  rcases hq with rfl | rfl | rfl
  · go_enter Try.func44, Try.ntmps44
    go_wp2_with (first
      | (go_at_call 46; refine H1.out.mono ?_; clear H1; rintro e V0 ⟨rfl, rfl⟩)
      | (go_at_call 47; refine HT1.out.mono ?_; clear HT1; rintro e V1 ⟨A1, c1v, rfl, hcv, hr, hg⟩; have HR1 := Lib.hid hr; have HG1 := Lib.hid hg; clear hr hg)
      | (go_at_call 47; refine (HT2.out _ HR1.out).mono ?_; clear HT2; rintro e V2 ⟨gb, off, c2v, rfl, hcell, hr, hg⟩; have HR2 := Lib.hid hr; have HG2 := Lib.hid (HG1.out.trans hg); clear hr hg hcv)
      | (go_at_call 47; refine (HT3.out _ HR2.out).mono ?_; clear HT3; rintro e V3 ⟨A3, c3v, rfl, hr, hg⟩; have HR3 := Lib.hid hr; have HG3 := Lib.hid (HG2.out.trans hg); clear hr hg hcell)
      | (go_at_call 52; refine (HT4.out _ HR3.out).mono ?_; clear HT4; rintro e V4 ⟨gn, cn, rfl, hbg, r0, r1, r2, r3, r4, r5, hr, hg⟩; have HR4 := Lib.hid hr; have HG4 := Lib.hid (HG3.out.trans hg); have HGN : Hid (P ≠ gn) := Lib.hid (by have := (HKE.out _ HG3.out).2.2; omega); clear hr hg hbg)
      | fail)
    have hk := HKE.out _ HG4.out
    have c0 := hk.1 0 _ rfl
    have c1 := hk.1 1 _ rfl
    have c2 := hk.1 2 _ rfl
    have c3 := hk.1 3 _ rfl
    have c4 := hk.1 4 _ rfl
    have c5 := hk.1 5 _ rfl
    have c6 := hk.1 6 _ rfl
    have f0 := hk.2.1 0
    have f1 := hk.2.1 1
    have f2 := hk.2.1 2
    have f3 := hk.2.1 3
    have f4 := hk.2.1 4
    have f5 := hk.2.1 5
    have f6 := hk.2.1 6
    have hlt := hk.2.2
    clear hk
    refine wp_region_mix (fun z => z.cell? ⟨gn, 0, none⟩ = some (.int .i64 u0) ∧ z.cell? ⟨gn, 1, none⟩ = some (.int .i64 u1) ∧ z.cell? ⟨gn, 2, none⟩ = some (.int .i64 u2) ∧ z.cell? ⟨gn, 3, none⟩ = some (.int .i64 u3) ∧ z.cell? ⟨gn, 4, none⟩ = some (.int .i64 u4) ∧ z.cell? ⟨gn, 5, none⟩ = some (.int .i64 u5)) [true, true, true, true, true, true, true, true, true, true, true, true, true, true, true, true, true, true, true, true, false] _ (by kernel_rfl) rfl (by kernel_rfl) ⟨r0, r1, r2, r3, r4, r5⟩ ?_
    dsimp only [List.dropLast, List.zip, List.zipWith, List.getLast]
    repeat (apply wpMix_free
            · intro z' hz
              try dsimp only at hz
              go_simp
              all_goals with_reducible rfl
            simp only [Act.put, List.setIfInBounds_toArray, List.set_cons_zero, List.set_cons_succ])
    refine wpMix_turn (fun K hK => ?_)
    have HK := Lib.hid hK; clear hK
    go_simp
    refine HK.out _ _ ⟨(set7_cell _ _ _ _ HGN.out _ _ _ _ _ _ _).trans r0, (set7_cell _ _ _ _ HGN.out _ _ _ _ _ _ _).trans r1, (set7_cell _ _ _ _ HGN.out _ _ _ _ _ _ _).trans r2, (set7_cell _ _ _ _ HGN.out _ _ _ _ _ _ _).trans r3, (set7_cell _ _ _ _ HGN.out _ _ _ _ _ _ _).trans r4, (set7_cell _ _ _ _ HGN.out _ _ _ _ _ _ _).trans r5⟩ ?_
    clear HK
    try simp only [Act.put, List.setIfInBounds_toArray, List.set_cons_zero, List.set_cons_succ]
    refine wpMix_end ?_
    go_simp
    go_wp2_with fail
    have hbl := set7_below V4 P (.int .u8 0) (.int .i64 u0) (.int .i64 u1) (.int .i64 u2) (.int .i64 u3) (.int .i64 u4) (.int .i64 u5)
    exact bodyPost_ret (v := .tuple #[.agg #[.int .u8 0, .int .i64 u0, .int .i64 u1, .int .i64 u2, .int .i64 u3, .int .i64 u4, .int .i64 u5], .bool true]) (by simp [results, Try.results44, go_sem, c0, c1, c2, c3, c4, c5, c6]) rfl ⟨rfl, HR4.out.below hbl hgP, gb_below (HG0.out.trans HG4.out) (by rw [HP.out]; exact hbl)⟩
  · go_enter Try.func44, Try.ntmps44
    go_wp2_with (first
      | (go_at_call 46; refine H1.out.mono ?_; clear H1; rintro e V0 ⟨rfl, rfl⟩)
      | (go_at_call 47; refine HT1.out.mono ?_; clear HT1; rintro e V1 ⟨A1, c1v, rfl, hcv, hr, hg⟩; have HR1 := Lib.hid hr; have HG1 := Lib.hid hg; clear hr hg)
      | (go_at_call 47; refine (HT2.out _ HR1.out).mono ?_; clear HT2; rintro e V2 ⟨gb, off, c2v, rfl, hcell, hr, hg⟩; have HR2 := Lib.hid hr; have HG2 := Lib.hid (HG1.out.trans hg); clear hr hg hcv)
      | (go_at_call 47; refine (HT3.out _ HR2.out).mono ?_; clear HT3; rintro e V3 ⟨A3, c3v, rfl, hr, hg⟩; have HR3 := Lib.hid hr; have HG3 := Lib.hid (HG2.out.trans hg); clear hr hg hcell)
      | (go_at_call 52; refine (HT4.out _ HR3.out).mono ?_; clear HT4; rintro e V4 ⟨gn, cn, rfl, hbg, r0, r1, r2, r3, r4, r5, hr, hg⟩; have HR4 := Lib.hid hr; have HG4 := Lib.hid (HG3.out.trans hg); have HGN : Hid (P ≠ gn) := Lib.hid (by have := (HKE.out _ HG3.out).2.2; omega); clear hr hg hbg)
      | fail)
    have hk := HKE.out _ HG4.out
    have c0 := hk.1 0 _ rfl
    have c1 := hk.1 1 _ rfl
    have c2 := hk.1 2 _ rfl
    have c3 := hk.1 3 _ rfl
    have c4 := hk.1 4 _ rfl
    have c5 := hk.1 5 _ rfl
    have c6 := hk.1 6 _ rfl
    have f0 := hk.2.1 0
    have f1 := hk.2.1 1
    have f2 := hk.2.1 2
    have f3 := hk.2.1 3
    have f4 := hk.2.1 4
    have f5 := hk.2.1 5
    have f6 := hk.2.1 6
    have hlt := hk.2.2
    clear hk
    refine wp_region_mix (fun z => z.cell? ⟨gn, 0, none⟩ = some (.int .i64 u0) ∧ z.cell? ⟨gn, 1, none⟩ = some (.int .i64 u1) ∧ z.cell? ⟨gn, 2, none⟩ = some (.int .i64 u2) ∧ z.cell? ⟨gn, 3, none⟩ = some (.int .i64 u3) ∧ z.cell? ⟨gn, 4, none⟩ = some (.int .i64 u4) ∧ z.cell? ⟨gn, 5, none⟩ = some (.int .i64 u5)) [true, true, true, true, true, true, true, true, true, true, true, true, true, true, true, true, true, true, true, true, false] _ (by kernel_rfl) rfl (by kernel_rfl) ⟨r0, r1, r2, r3, r4, r5⟩ ?_
    dsimp only [List.dropLast, List.zip, List.zipWith, List.getLast]
    repeat (apply wpMix_free
            · intro z' hz
              try dsimp only at hz
              go_simp
              all_goals with_reducible rfl
            simp only [Act.put, List.setIfInBounds_toArray, List.set_cons_zero, List.set_cons_succ])
    refine wpMix_turn (fun K hK => ?_)
    have HK := Lib.hid hK; clear hK
    go_simp
    refine HK.out _ _ ⟨(set7_cell _ _ _ _ HGN.out _ _ _ _ _ _ _).trans r0, (set7_cell _ _ _ _ HGN.out _ _ _ _ _ _ _).trans r1, (set7_cell _ _ _ _ HGN.out _ _ _ _ _ _ _).trans r2, (set7_cell _ _ _ _ HGN.out _ _ _ _ _ _ _).trans r3, (set7_cell _ _ _ _ HGN.out _ _ _ _ _ _ _).trans r4, (set7_cell _ _ _ _ HGN.out _ _ _ _ _ _ _).trans r5⟩ ?_
    clear HK
    try simp only [Act.put, List.setIfInBounds_toArray, List.set_cons_zero, List.set_cons_succ]
    refine wpMix_end ?_
    go_simp
    go_wp2_with fail
    have hbl := set7_below V4 P (.int .u8 50) (.int .i64 u0) (.int .i64 u1) (.int .i64 u2) (.int .i64 u3) (.int .i64 u4) (.int .i64 u5)
    exact bodyPost_ret (v := .tuple #[.agg #[.int .u8 50, .int .i64 u0, .int .i64 u1, .int .i64 u2, .int .i64 u3, .int .i64 u4, .int .i64 u5], .bool true]) (by simp [results, Try.results44, go_sem, c0, c1, c2, c3, c4, c5, c6]) rfl ⟨rfl, HR4.out.below hbl hgP, gb_below (HG0.out.trans HG4.out) (by rw [HP.out]; exact hbl)⟩
  · go_enter Try.func44, Try.ntmps44
    go_wp2_with (first
      | (go_at_call 46; refine H1.out.mono ?_; clear H1; rintro e V0 ⟨rfl, rfl⟩)
      | (go_at_call 47; refine HT1.out.mono ?_; clear HT1; rintro e V1 ⟨A1, c1v, rfl, hcv, hr, hg⟩; have HR1 := Lib.hid hr; have HG1 := Lib.hid hg; clear hr hg)
      | (go_at_call 47; refine (HT2.out _ HR1.out).mono ?_; clear HT2; rintro e V2 ⟨gb, off, c2v, rfl, hcell, hr, hg⟩; have HR2 := Lib.hid hr; have HG2 := Lib.hid (HG1.out.trans hg); clear hr hg hcv)
      | (go_at_call 47; refine (HT3.out _ HR2.out).mono ?_; clear HT3; rintro e V3 ⟨A3, c3v, rfl, hr, hg⟩; have HR3 := Lib.hid hr; have HG3 := Lib.hid (HG2.out.trans hg); clear hr hg hcell)
      | (go_at_call 52; refine (HT4.out _ HR3.out).mono ?_; clear HT4; rintro e V4 ⟨gn, cn, rfl, hbg, r0, r1, r2, r3, r4, r5, hr, hg⟩; have HR4 := Lib.hid hr; have HG4 := Lib.hid (HG3.out.trans hg); have HGN : Hid (P ≠ gn) := Lib.hid (by have := (HKE.out _ HG3.out).2.2; omega); clear hr hg hbg)
      | fail)
    have hk := HKE.out _ HG4.out
    have c0 := hk.1 0 _ rfl
    have c1 := hk.1 1 _ rfl
    have c2 := hk.1 2 _ rfl
    have c3 := hk.1 3 _ rfl
    have c4 := hk.1 4 _ rfl
    have c5 := hk.1 5 _ rfl
    have c6 := hk.1 6 _ rfl
    have f0 := hk.2.1 0
    have f1 := hk.2.1 1
    have f2 := hk.2.1 2
    have f3 := hk.2.1 3
    have f4 := hk.2.1 4
    have f5 := hk.2.1 5
    have f6 := hk.2.1 6
    have hlt := hk.2.2
    clear hk
    refine wp_region_mix (fun z => z.cell? ⟨gn, 0, none⟩ = some (.int .i64 u0) ∧ z.cell? ⟨gn, 1, none⟩ = some (.int .i64 u1) ∧ z.cell? ⟨gn, 2, none⟩ = some (.int .i64 u2) ∧ z.cell? ⟨gn, 3, none⟩ = some (.int .i64 u3) ∧ z.cell? ⟨gn, 4, none⟩ = some (.int .i64 u4) ∧ z.cell? ⟨gn, 5, none⟩ = some (.int .i64 u5)) [true, true, true, true, true, true, true, true, true, true, true, true, true, true, true, true, true, true, true, true, false] _ (by kernel_rfl) rfl (by kernel_rfl) ⟨r0, r1, r2, r3, r4, r5⟩ ?_
    dsimp only [List.dropLast, List.zip, List.zipWith, List.getLast]
    repeat (apply wpMix_free
            · intro z' hz
              try dsimp only at hz
              go_simp
              all_goals with_reducible rfl
            simp only [Act.put, List.setIfInBounds_toArray, List.set_cons_zero, List.set_cons_succ])
    refine wpMix_turn (fun K hK => ?_)
    have HK := Lib.hid hK; clear hK
    go_simp
    refine HK.out _ _ ⟨(set7_cell _ _ _ _ HGN.out _ _ _ _ _ _ _).trans r0, (set7_cell _ _ _ _ HGN.out _ _ _ _ _ _ _).trans r1, (set7_cell _ _ _ _ HGN.out _ _ _ _ _ _ _).trans r2, (set7_cell _ _ _ _ HGN.out _ _ _ _ _ _ _).trans r3, (set7_cell _ _ _ _ HGN.out _ _ _ _ _ _ _).trans r4, (set7_cell _ _ _ _ HGN.out _ _ _ _ _ _ _).trans r5⟩ ?_
    clear HK
    try simp only [Act.put, List.setIfInBounds_toArray, List.set_cons_zero, List.set_cons_succ]
    refine wpMix_end ?_
    go_simp
    go_wp2_with fail
    have hbl := set7_below V4 P (.int .u8 51) (.int .i64 u0) (.int .i64 u1) (.int .i64 u2) (.int .i64 u3) (.int .i64 u4) (.int .i64 u5)
    exact bodyPost_ret (v := .tuple #[.agg #[.int .u8 51, .int .i64 u0, .int .i64 u1, .int .i64 u2, .int .i64 u3, .int .i64 u4, .int .i64 u5], .bool true]) (by simp [results, Try.results44, go_sem, c0, c1, c2, c3, c4, c5, c6]) rfl ⟨rfl, HR4.out.below hbl hgP, gb_below (HG0.out.trans HG4.out) (by rw [HP.out]; exact hbl)⟩
end Go.Proofs.Ytljkcnoicdhchaa.Tz
