/-
  Layer 6 (tzif): a file whose head is none.
-/
import Derived.Test.YtljkcnoicdhchaaTzBl
namespace Go.Proofs.Ytljkcnoicdhchaa.Tz
open Go.RowKit

theorem cells_of {w w' : World} {g k i : Nat} {u : Value} (h : w.grownBy w' (some g)) (hk : k < w.heap.size) (hg : g < k) (hc : w.cell? ⟨k, i, none⟩ = some u) : w'.cell? ⟨k, i, none⟩ = some u :=
  (World.cell?_of_block (a := ⟨k, i, none⟩) (h.block k hk (fun e => by injection e with e; omega))).trans hc
theorem frozen_of {w w' : World} {g k i : Nat} (h : w.grownBy w' (some g)) (hk : k < w.heap.size) (hg : g < k) : w'.frozen? ⟨k, i, none⟩ = w.frozen? ⟨k, i, none⟩ :=
  World.frozen?_of_block (a := ⟨k, i, none⟩) (h.block k hk (fun e => by injection e with e; omega))
theorem head_no (l : List Nat) (B g : Nat) (w : World) (h : Rd w B g l) (hb : ∀ b ∈ l, b < 256) (hq : hdGood l = false) :
    Calls Try.prog 44 #[.pointer (some ⟨g, 0, none⟩)] w fun e w' => e = .returned (.tuple #[noHead, .bool false]) ∧ w.grownBy w' (some g) := by
  by_cases h44 : 44 ≤ l.length
  · by_cases hm : l.take 4 = [84, 90, 105, 102]
    · have h0 : ¬ (l.getD 4 0 = 0 ∨ l.getD 4 0 = 50 ∨ l.getD 4 0 = 51) := by
        intro hx
        have : hdGood l = true := by unfold hdGood; simp only [decide_eq_true h44, decide_eq_true hm]; simpa [or_assoc] using hx
        rw [this] at hq; cases hq
      exact head_c l B g w _ h hb h44 hm rfl (by omega) (by omega) (by omega)
    · exact head_b l B g w h hb h44 hm
  · exact head_a l B g w h (by omega)
theorem head_yes (l : List Nat) (B g : Nat) (w : World) (h : Rd w B g l) (hb : ∀ b ∈ l, b < 256) (hq : hdGood l = true) :
    Calls Try.prog 44 #[.pointer (some ⟨g, 0, none⟩)] w fun e w' => e = .returned (.tuple #[hdVal (hdOf l), .bool true]) ∧ Rd w' B g (l.drop 44) ∧ w.grownBy w' (some g) := by
  unfold hdGood at hq
  simp only [Bool.and_eq_true, Bool.or_eq_true, decide_eq_true_eq] at hq
  obtain ⟨⟨h44, hm⟩, hv⟩ := hq
  exact head_d l B g w _ h hb h44 hm rfl (by omega)
set_option maxRecDepth 100000 in
set_option maxHeartbeats 400000 in
theorem parse_a (l : List Nat) (B g : Nat) (w : World) (h : Rd w B g l) (hb : ∀ b ∈ l, b < 256) (hq : hdGood l = false) :
    Calls Try.prog 39 #[.pointer (some ⟨g, 0, none⟩)] w fun e w' => e = .returned (.tuple #[noZone, .bool false]) ∧ w.grownBy w' (some g) := by
  have HG : Hid (g < w.heap.size) := Lib.hid h.lt
  obtain ⟨X, hX⟩ : ∃ X, w.alloc (.cells #[.slice none 0 0, .slice none 0 0, .slice none 0 0, .string ⟨#[]⟩] 26) = X := ⟨_, rfl⟩
  have hbx : Below w.heap.size w X := by rw [← hX]; exact (Below.refl _ _).alloc (Nat.le_refl _) _
  have HB0 : Hid (w.grownBy X (some g)) := Lib.hid (by rw [← hX]; exact World.grownBy_alloc w _ _)
  have HS : Hid (w.heap.size < X.heap.size) := Lib.hid (by rw [← hX]; simp)
  have HZ : Hid (∀ i u, (#[.slice none 0 0, .slice none 0 0, .slice none 0 0, .string ⟨#[]⟩] : Array Value)[i]? = some u → X.cell? ⟨w.heap.size, i, none⟩ = some u) := Lib.hid fun i u hu => by rw [← hX]; exact cell_new w _ _ _ i u rfl hu
  have HF : Hid (∀ i, X.frozen? ⟨w.heap.size, i, none⟩ = false) := Lib.hid fun i => by rw [← hX]; exact frozen_of_row _ _ i _ _ (heap_alloc_new _ _)
  have HH : Hid (Calls Try.prog 44 #[.pointer (some ⟨g, 0, none⟩)] X fun e w' => e = .returned (.tuple #[noHead, .bool false]) ∧ X.grownBy w' (some g)) := Lib.hid (head_no l B g X (h.below hbx h.lt) hb hq)
  clear h hb hq hbx
  unfold noHead at HH
  go_enter Try.func39, Try.ntmps39
  go_wp2_with (first
    | (go_at_call 44; (try rw [hX]); refine HH.out.mono ?_; clear HH; rintro e V ⟨rfl, hb⟩; have HB1 := Lib.hid (HB0.out.trans hb); have k0 := (cells_of hb HS.out HG.out (HZ.out 0 _ rfl)); have k1 := (cells_of hb HS.out HG.out (HZ.out 1 _ rfl)); have k2 := (cells_of hb HS.out HG.out (HZ.out 2 _ rfl)); have k3 := (cells_of hb HS.out HG.out (HZ.out 3 _ rfl)); have HS1 := (Nat.lt_of_lt_of_le HS.out hb.size); have hf : ∀ o, V.frozen? ⟨w.heap.size, o, none⟩ = false := (fun o => (frozen_of hb HS.out HG.out).trans (HF.out o)); have f0 := hf 0; have f1 := hf 1; have f2 := hf 2; have f3 := hf 3; clear hb hf hX)
    | fail)
  exact bodyPost_ret (v := .tuple #[noZone, .bool false]) (by simp [results, Try.results39, go_sem, noZone, k0, k1, k2, k3, HS1]) rfl ⟨rfl, gb_below HB1.out (((((Below.refl w.heap.size V).setCell (Nat.le_refl _) _).setCell (Nat.le_refl _) _).setCell (Nat.le_refl _) _).setCell (Nat.le_refl _) _ |>.alloc (by have := HB1.out.size; simpa using this) _)⟩
end Go.Proofs.Ytljkcnoicdhchaa.Tz
