/-
  Layer 6 (tzif): a file that is too short for its first block.
-/
import Derived.Test.YtljkcnoicdhchaaTzBm
namespace Go.Proofs.Ytljkcnoicdhchaa.Tz
open Go.RowKit

set_option maxRecDepth 100000 in
set_option maxHeartbeats 400000 in
theorem parse_b (l : List Nat) (B g : Nat) (w : World) (h : Rd w B g l) (hb : ∀ b ∈ l, b < 256) (hq : hdGood l = true) (hv : l.getD 4 0 ≠ 0) (ho : HdOk (hdOf l)) (hl : (l.drop 44).length < longN (hdOf l) 4) :
    Calls Try.prog 39 #[.pointer (some ⟨g, 0, none⟩)] w fun e w' => e = .returned (.tuple #[noZone, .bool false]) ∧ w.grownBy w' (some g) := by
  have HG : Hid (g < w.heap.size) := Lib.hid h.lt
  obtain ⟨X, hX⟩ : ∃ X, w.alloc (.cells #[.slice none 0 0, .slice none 0 0, .slice none 0 0, .string ⟨#[]⟩] 26) = X := ⟨_, rfl⟩
  have hbx : Below w.heap.size w X := by rw [← hX]; exact (Below.refl _ _).alloc (Nat.le_refl _) _
  have HB0 : Hid (w.grownBy X (some g)) := Lib.hid (by rw [← hX]; exact World.grownBy_alloc w _ _)
  have HS : Hid (w.heap.size < X.heap.size) := Lib.hid (by rw [← hX]; simp)
  have HZ : Hid (∀ i u, (#[.slice none 0 0, .slice none 0 0, .slice none 0 0, .string ⟨#[]⟩] : Array Value)[i]? = some u → X.cell? ⟨w.heap.size, i, none⟩ = some u) := Lib.hid fun i u hu => by rw [← hX]; exact cell_new w _ _ _ i u rfl hu
  have HF : Hid (∀ i, X.frozen? ⟨w.heap.size, i, none⟩ = false) := Lib.hid fun i => by rw [← hX]; exact frozen_of_row _ _ i _ _ (heap_alloc_new _ _)
  have HH : Hid (Calls Try.prog 44 #[.pointer (some ⟨g, 0, none⟩)] X fun e w' => e = .returned (.tuple #[hdVal (hdOf l), .bool true]) ∧ Rd w' B g (l.drop 44) ∧ X.grownBy w' (some g)) := Lib.hid (head_yes l B g X (h.below hbx h.lt) hb hq)
  have HL : Hid (∀ V, Calls Try.prog 23 #[hdVal (hdOf l), .int .i64 4] V fun e w' => e = .returned (.int .i64 (longN (hdOf l) 4)) ∧ Below V.heap.size V w') := Lib.hid fun V => blockLong_any (hdOf l) 4 (.inl rfl) ho V
  obtain ⟨N, hN⟩ : ∃ N, longN (hdOf l) 4 = N := ⟨_, rfl⟩
  rw [hN] at HL hl
  obtain ⟨l2, hl2⟩ : ∃ l2, l.drop 44 = l2 := ⟨_, rfl⟩
  rw [hl2] at HH hl
  have hver : (hdOf l).version = l.getD 4 0 := rfl
  obtain ⟨hd, hhd⟩ : ∃ hd, hdOf l = hd := ⟨_, rfl⟩
  rw [hhd] at HH HL hver
  rw [← hver] at hv
  clear hver hhd hN hl2 ho
  obtain ⟨version, uts, stds, leaps, times, types, letters⟩ := hd
  simp only at hv
  have v0 : decide ((version : Int) = 0) = false := by simp; omega
  have v1 : ((version : Int) == 0) = false := by simp; omega
  have HN : Hid (∀ V, Rd V B g l2 → Calls Try.prog 46 #[.pointer (some ⟨g, 0, none⟩), .int .i64 N] V fun e w' => e = .returned (.bool false) ∧ V = w') := Lib.hid fun V hr => by
    have := has_any l2 B g N V hr
    rwa [show decide ((N : Int) ≤ (l2.length : Int)) = false by simp; omega] at this
  clear h hb hq hbx hl hv
  unfold hdVal at HH HL
  simp only at HH HL
  go_enter Try.func39, Try.ntmps39
  go_wp2_with (first
    | (go_at_call 44; (try rw [hX]); refine HH.out.mono ?_; clear HH; rintro e V ⟨rfl, hr, hb⟩; have HR := Lib.hid hr; clear hr; have HB1 := Lib.hid (HB0.out.trans hb); have k0 := (cells_of hb HS.out HG.out (HZ.out 0 _ rfl)); have k1 := (cells_of hb HS.out HG.out (HZ.out 1 _ rfl)); have k2 := (cells_of hb HS.out HG.out (HZ.out 2 _ rfl)); have k3 := (cells_of hb HS.out HG.out (HZ.out 3 _ rfl)); have HS1 := (Nat.lt_of_lt_of_le HS.out hb.size); have hf : ∀ o, V.frozen? ⟨w.heap.size, o, none⟩ = false := (fun o => (frozen_of hb HS.out HG.out).trans (HF.out o)); have f0 := hf 0; have f1 := hf 1; have f2 := hf 2; have f3 := hf 3; clear hb hf hX)
    | (go_at_call 23; refine (HL.out _).mono ?_; clear HL; rintro e V2 ⟨rfl, hb2⟩; have HB2 := Lib.hid hb2; clear hb2)
    | (go_at_call 46; have hbv := ((Below.refl V.heap.size V).alloc (Nat.le_refl _) _).trans (HB2.out.mono (by simp)); refine (HN.out _ (HR.out.below hbv HR.out.lt)).mono ?_; clear HN; rintro e V3 ⟨rfl, rfl⟩; have HB3 := Lib.hid (gb_below HB1.out (hbv.mono HB1.out.size)); have p0 := cells_at w.heap.size hbv HS1 k0; have g0 := (hbv.frozen (p := ⟨w.heap.size, 0, none⟩) HS1).trans f0; have p1 := cells_at w.heap.size hbv HS1 k1; have g1 := (hbv.frozen (p := ⟨w.heap.size, 1, none⟩) HS1).trans f1; have p2 := cells_at w.heap.size hbv HS1 k2; have g2 := (hbv.frozen (p := ⟨w.heap.size, 2, none⟩) HS1).trans f2; have p3 := cells_at w.heap.size hbv HS1 k3; have g3 := (hbv.frozen (p := ⟨w.heap.size, 3, none⟩) HS1).trans f3; clear hbv k0 k1 k2 k3 f0 f1 f2 f3 HS1)
    | fail)
  exact bodyPost_ret (v := .tuple #[noZone, .bool false]) (by simp [results, Try.results39, go_sem, noZone, p0, p1, p2, p3]) rfl ⟨rfl, gb_below HB3.out (((((Below.refl w.heap.size V2).setCell (Nat.le_refl _) _).setCell (Nat.le_refl _) _).setCell (Nat.le_refl _) _).setCell (Nat.le_refl _) _)⟩
end Go.Proofs.Ytljkcnoicdhchaa.Tz
