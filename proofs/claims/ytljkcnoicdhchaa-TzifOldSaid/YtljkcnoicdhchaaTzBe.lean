/-
  Layer 6 (tzif): a head, read.
-/
import Derived.Test.YtljkcnoicdhchaaTzBd
import Derived.Laws.BytesArg
namespace Go.Proofs.Ytljkcnoicdhchaa.Tz
open Go.RowKit

def natsI (l : List Nat) : List Int := l.map fun (n : Nat) => (n : Int)
theorem SB.text {w : World} {B : Nat} {A : Option Addr} {n c : Nat} {l : List Nat} (h : SB w B A n c l) (h0 : 0 < n) : (convert 33 9 (.slice A n c)).run Try.prog w = .ok (.string (strOfNums (natsI l))) w := by
  obtain ⟨h1, h2, _, h4⟩ := h
  rcases h4 with ⟨_, e⟩ | ⟨g, off, rfl, _, hc⟩
  · omega
  · exact run_convert_bytes_arg w 33 5 Try.underlying33 Try.underlying5 g off n c (natsI l) (by unfold natsI; simpa using h1) (fun i hi => by
      have h3 := hc i (l[i]'(by omega)) (List.getElem?_eq_getElem (by omega))
      rw [h3]
      unfold natsI
      simp [List.getD_eq_getElem?_getD, List.getElem?_map, List.getElem?_eq_getElem (show i < l.length by omega), by8]) 9 Try.underlying9
/-- What a head tells, its bytes being there. -/
def hdOf (l : List Nat) : Hd := ⟨l.getD 4 0, be ((l.drop 20).take 4), be ((l.drop 24).take 4), be ((l.drop 28).take 4), be ((l.drop 32).take 4), be ((l.drop 36).take 4), be ((l.drop 40).take 4)⟩
def hdGood (l : List Nat) : Bool := decide (44 ≤ l.length) && decide (l.take 4 = [84, 90, 105, 102]) && (decide (l.getD 4 0 = 0) || decide (l.getD 4 0 = 50) || decide (l.getD 4 0 = 51))
theorem magic_text (l : List Nat) (h : l.length = 4) (hb : ∀ b ∈ l, b < 256) : strOfNums (natsI l) = ⟨#[84, 90, 105, 102]⟩ ↔ l = [84, 90, 105, 102] := by
  match l, h with
  | [a, b, c, d], _ =>
    have h1 := hb a (by simp); have h2 := hb b (by simp); have h3 := hb c (by simp); have h4 := hb d (by simp)
    constructor
    · intro e
      have f : ∀ x y : Nat, x < 256 → y < 256 → UInt8.ofNat x = UInt8.ofNat y → x = y := by
        intro x y hx hy hxy
        have := congrArg UInt8.toNat hxy
        simp at this
        omega
      simp [strOfNums, natsI] at e
      obtain ⟨e1, e2, e3, e4⟩ := e
      rw [f a 84 h1 (by omega) e1, f b 90 h2 (by omega) e2, f c 105 h3 (by omega) e3, f d 102 h4 (by omega) e4]
    · intro e
      rw [e]; decide +kernel
set_option maxRecDepth 100000 in
set_option maxHeartbeats 2000000 in
theorem head_a (l : List Nat) (B g : Nat) (w : World) (h : Rd w B g l) (h44 : l.length < 44) :
    Calls Try.prog 44 #[.pointer (some ⟨g, 0, none⟩)] w fun e w' => e = .returned (.tuple #[noHead, .bool false]) ∧ w.grownBy w' (some g) := by
  obtain ⟨P, hP⟩ : ∃ P, w.heap.size = P := ⟨_, rfl⟩
  obtain ⟨W0, hW0⟩ : ∃ W0, w.alloc (.cells #[.int .u8 0, .int .i64 0, .int .i64 0, .int .i64 0, .int .i64 0, .int .i64 0, .int .i64 0] 60) = W0 := ⟨_, rfl⟩
  have hgP : g < P := by rw [← hP]; exact h.lt
  have HP := Lib.hid hP
  have hR0 : Rd W0 B g l := h.below (C := P) (by rw [← hW0, ← hP]; exact (Below.refl _ _).alloc (Nat.le_refl _) _) hgP
  have HR0 := Lib.hid hR0
  have HG0 : Hid (w.grownBy W0 (some g)) := Lib.hid (by rw [← hW0]; exact World.grownBy_alloc w _ _)
  have HS0 : Hid (W0.heap.size = P + 1) := Lib.hid (by rw [← hW0]; simp [hP])
  have HC0 : Hid (∀ i u, (#[.int .u8 0, .int .i64 0, .int .i64 0, .int .i64 0, .int .i64 0, .int .i64 0, .int .i64 0] : Array Value)[i]? = some u → W0.cell? ⟨P, i, none⟩ = some u) := Lib.hid fun i u hu => by rw [← hW0]; exact cell_new w _ _ _ i u hP hu
  have HF0 : Hid (∀ i, W0.frozen? ⟨P, i, none⟩ = false) := Lib.hid fun i => by rw [← hW0, ← hP]; exact frozen_of_row _ _ i _ _ (heap_alloc_new _ _)
  have HKE : Hid (∀ V, W0.grownBy V (some g) → (∀ i u, (#[.int .u8 0, .int .i64 0, .int .i64 0, .int .i64 0, .int .i64 0, .int .i64 0, .int .i64 0] : Array Value)[i]? = some u → V.cell? ⟨P, i, none⟩ = some u) ∧ (∀ i, V.frozen? ⟨P, i, none⟩ = false) ∧ P < V.heap.size) := Lib.hid fun V hV => by
    have hblk : V.heap[P]? = W0.heap[P]? := hV.block P (by rw [HS0.out]; omega) (fun e => by injection e with e; omega)
    exact ⟨fun i u hu => (World.cell?_of_block (a := ⟨P, i, none⟩) hblk).trans (HC0.out i u hu), fun i => (World.frozen?_of_block (a := ⟨P, i, none⟩) hblk).trans (HF0.out i), by have := hV.size; rw [HS0.out] at this; omega⟩
  have H1 : Hid (Calls Try.prog 46 #[.pointer (some ⟨g, 0, none⟩), .int .i64 44] W0 fun e w' => e = .returned (.bool false) ∧ W0 = w') := Lib.hid (by
    have := has_any l B g 44 W0 hR0
    rwa [show decide ((44 : Int) ≤ (l.length : Int)) = false by simp; omega] at this)
  have hk := HKE.out _ (World.grownBy.refl W0 _)
  have c0 := hk.1 0 _ rfl
  have c1 := hk.1 1 _ rfl
  have c2 := hk.1 2 _ rfl
  have c3 := hk.1 3 _ rfl
  have c4 := hk.1 4 _ rfl
  have c5 := hk.1 5 _ rfl
  have c6 := hk.1 6 _ rfl
  have f0 := hk.2.1 0
  have f1 := hk.2.1 1
  have f2 := hk.2.1 2
  have f3 := hk.2.1 3
  have f4 := hk.2.1 4
  have f5 := hk.2.1 5
  have f6 := hk.2.1 6
  have hlt := hk.2.2
  clear hk
  clear hR0 h h44
  go_enter Try.func44, Try.ntmps44
  go_wp2_with (first
    | (go_at_call 46; refine H1.out.mono ?_; clear H1; rintro e V0 ⟨rfl, rfl⟩)
    | fail)
  exact bodyPost_ret (v := .tuple #[noHead, .bool false]) (by simp [results, Try.results44, go_sem, noHead, c0, c1, c2, c3, c4, c5, c6]) rfl ⟨rfl, gb_below (HG0.out) (by rw [HP.out]; exact (((((((Below.refl P W0).setCell (Nat.le_refl _) _).setCell (Nat.le_refl _) _).setCell (Nat.le_refl _) _).setCell (Nat.le_refl _) _).setCell (Nat.le_refl _) _).setCell (Nat.le_refl _) _).setCell (Nat.le_refl _) _)⟩
set_option maxRecDepth 100000 in
set_option maxHeartbeats 2000000 in
theorem head_b (l : List Nat) (B g : Nat) (w : World) (h : Rd w B g l) (hb : ∀ b ∈ l, b < 256) (h44 : 44 ≤ l.length) (hm : l.take 4 ≠ [84, 90, 105, 102]) :
    Calls Try.prog 44 #[.pointer (some ⟨g, 0, none⟩)] w fun e w' => e = .returned (.tuple #[noHead, .bool false]) ∧ w.grownBy w' (some g) := by
  obtain ⟨P, hP⟩ : ∃ P, w.heap.size = P := ⟨_, rfl⟩
  obtain ⟨W0, hW0⟩ : ∃ W0, w.alloc (.cells #[.int .u8 0, .int .i64 0, .int .i64 0, .int .i64 0, .int .i64 0, .int .i64 0, .int .i64 0] 60) = W0 := ⟨_, rfl⟩
  have hgP : g < P := by rw [← hP]; exact h.lt
  have HP := Lib.hid hP
  have hR0 : Rd W0 B g l := h.below (C := P) (by rw [← hW0, ← hP]; exact (Below.refl _ _).alloc (Nat.le_refl _) _) hgP
  have HR0 := Lib.hid hR0
  have HG0 : Hid (w.grownBy W0 (some g)) := Lib.hid (by rw [← hW0]; exact World.grownBy_alloc w _ _)
  have HS0 : Hid (W0.heap.size = P + 1) := Lib.hid (by rw [← hW0]; simp [hP])
  have HC0 : Hid (∀ i u, (#[.int .u8 0, .int .i64 0, .int .i64 0, .int .i64 0, .int .i64 0, .int .i64 0, .int .i64 0] : Array Value)[i]? = some u → W0.cell? ⟨P, i, none⟩ = some u) := Lib.hid fun i u hu => by rw [← hW0]; exact cell_new w _ _ _ i u hP hu
  have HF0 : Hid (∀ i, W0.frozen? ⟨P, i, none⟩ = false) := Lib.hid fun i => by rw [← hW0, ← hP]; exact frozen_of_row _ _ i _ _ (heap_alloc_new _ _)
  have HKE : Hid (∀ V, W0.grownBy V (some g) → (∀ i u, (#[.int .u8 0, .int .i64 0, .int .i64 0, .int .i64 0, .int .i64 0, .int .i64 0, .int .i64 0] : Array Value)[i]? = some u → V.cell? ⟨P, i, none⟩ = some u) ∧ (∀ i, V.frozen? ⟨P, i, none⟩ = false) ∧ P < V.heap.size) := Lib.hid fun V hV => by
    have hblk : V.heap[P]? = W0.heap[P]? := hV.block P (by rw [HS0.out]; omega) (fun e => by injection e with e; omega)
    exact ⟨fun i u hu => (World.cell?_of_block (a := ⟨P, i, none⟩) hblk).trans (HC0.out i u hu), fun i => (World.frozen?_of_block (a := ⟨P, i, none⟩) hblk).trans (HF0.out i), by have := hV.size; rw [HS0.out] at this; omega⟩
  have H1 : Hid (Calls Try.prog 46 #[.pointer (some ⟨g, 0, none⟩), .int .i64 44] W0 fun e w' => e = .returned (.bool true) ∧ W0 = w') := Lib.hid (by
    have := has_any l B g 44 W0 hR0
    rwa [show decide ((44 : Int) ≤ (l.length : Int)) = true by simp; omega] at this)
  obtain ⟨S, hS⟩ : ∃ S, strOfNums (natsI (l.take 4)) = S := ⟨_, rfl⟩
  have hne : S ≠ ⟨#[84, 90, 105, 102]⟩ := fun e => hm ((magic_text (l.take 4) (by rw [List.length_take]; omega) (fun b hx => hb b (List.mem_of_mem_take hx))).1 (hS.trans e))
  have HT1 : Hid (Calls Try.prog 47 #[.pointer (some ⟨g, 0, none⟩), .int .i64 4] W0 fun e w' => ∃ A c, e = .returned (.slice A 4 c) ∧ (convert 33 9 (.slice A 4 c)).run Try.prog w' = .ok (.string S) w' ∧ Rd w' B g (l.drop 4) ∧ W0.grownBy w' (some g)) := Lib.hid (by
    refine (take_any l B g 4 W0 HR0.out (by omega)).mono ?_
    rintro e w' ⟨A, c, he, h1, h2, h3⟩
    exact ⟨A, c, he, by rw [← hS]; exact h1.text (by omega), h2, h3⟩)
  have n1 : S.toList ≠ [84, 90, 105, 102] := fun e => toList_ne hne (by rw [e]; decide +kernel)
  have n2 : (S.toList == [84, 90, 105, 102]) = false := by simpa using n1
  have n3 : (S.toList != [84, 90, 105, 102]) = true := by simpa using n1
  have n4 := toList_ne hne
  clear hR0 h h44 hm hb hS hne
  go_enter Try.func44, Try.ntmps44
  go_wp2_with (first
    | (go_at_call 46; refine H1.out.mono ?_; clear H1; rintro e V0 ⟨rfl, rfl⟩)
    | (go_at_call 47; refine HT1.out.mono ?_; clear HT1; rintro e V1 ⟨A1, c1v, rfl, hcv, hr, hg⟩; have HR1 := Lib.hid hr; have HG1 := Lib.hid hg; clear hr hg; have hk := HKE.out _ HG1.out; have c0 := hk.1 0 _ rfl; have c1 := hk.1 1 _ rfl; have c2 := hk.1 2 _ rfl; have c3 := hk.1 3 _ rfl; have c4 := hk.1 4 _ rfl; have c5 := hk.1 5 _ rfl; have c6 := hk.1 6 _ rfl; have f0 := hk.2.1 0; have f1 := hk.2.1 1; have f2 := hk.2.1 2; have f3 := hk.2.1 3; have f4 := hk.2.1 4; have f5 := hk.2.1 5; have f6 := hk.2.1 6; have hlt := hk.2.2; clear hk)
    | fail)
  exact bodyPost_ret (v := .tuple #[noHead, .bool false]) (by simp [results, Try.results44, go_sem, noHead, c0, c1, c2, c3, c4, c5, c6]) rfl ⟨rfl, gb_below (HG0.out.trans HG1.out) (by rw [HP.out]; exact (((((((Below.refl P V1).setCell (Nat.le_refl _) _).setCell (Nat.le_refl _) _).setCell (Nat.le_refl _) _).setCell (Nat.le_refl _) _).setCell (Nat.le_refl _) _).setCell (Nat.le_refl _) _).setCell (Nat.le_refl _) _)⟩
end Go.Proofs.Ytljkcnoicdhchaa.Tz
