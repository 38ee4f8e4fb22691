/-
  Layer 6 (tzif): a file whose second head is none.
-/
import Derived.Test.YtljkcnoicdhchaaTzBn
namespace Go.Proofs.Ytljkcnoicdhchaa.Tz
open Go.RowKit

set_option maxRecDepth 100000 in
set_option maxHeartbeats 400000 in
theorem parse_c (l : List Nat) (B g : Nat) (w : World) (h : Rd w B g l) (hb : ∀ b ∈ l, b < 256) (hq : hdGood l = true) (hv : l.getD 4 0 ≠ 0) (ho : HdOk (hdOf l)) (hl : longN (hdOf l) 4 ≤ (l.drop 44).length) (hq2 : hdGood ((l.drop 44).drop (longN (hdOf l) 4)) = false) :
    Calls Try.prog 39 #[.pointer (some ⟨g, 0, none⟩)] w fun e w' => e = .returned (.tuple #[noZone, .bool false]) ∧ w.grownBy w' (some g) := by
  have HG : Hid (g < w.heap.size) := Lib.hid h.lt
  obtain ⟨X, hX⟩ : ∃ X, w.alloc (.cells #[.slice none 0 0, .slice none 0 0, .slice none 0 0, .string ⟨#[]⟩] 26) = X := ⟨_, rfl⟩
  have hbx : Below w.heap.size w X := by rw [← hX]; exact (Below.refl _ _).alloc (Nat.le_refl _) _
  have HB0 : Hid (w.grownBy X (some g)) := Lib.hid (by rw [← hX]; exact World.grownBy_alloc w _ _)
  have HS : Hid (w.heap.size < X.heap.size) := Lib.hid (by rw [← hX]; simp)
  have HZ : Hid (∀ i u, (#[.slice none 0 0, .slice none 0 0, .slice none 0 0, .string ⟨#[]⟩] : Array Value)[i]? = some u → X.cell? ⟨w.heap.size, i, none⟩ = some u) := Lib.hid fun i u hu => by rw [← hX]; exact cell_new w _ _ _ i u rfl hu
  have HF : Hid (∀ i, X.frozen? ⟨w.heap.size, i, none⟩ = false) := Lib.hid fun i => by rw [← hX]; exact frozen_of_row _ _ i _ _ (heap_alloc_new _ _)
  have HH : Hid (Calls Try.prog 44 #[.pointer (some ⟨g, 0, none⟩)] X fun e w' => e = .returned (.tuple #[hdVal (hdOf l), .bool true]) ∧ Rd w' B g (l.drop 44) ∧ X.grownBy w' (some g)) := Lib.hid (head_yes l B g X (h.below hbx h.lt) hb hq)
  have HL : Hid (∀ V, Calls Try.prog 23 #[hdVal (hdOf l), .int .i64 4] V fun e w' => e = .returned (.int .i64 (longN (hdOf l) 4)) ∧ Below V.heap.size V w') := Lib.hid fun V => blockLong_any (hdOf l) 4 (.inl rfl) ho V
  obtain ⟨N, hN⟩ : ∃ N, longN (hdOf l) 4 = N := ⟨_, rfl⟩
  rw [hN] at HL hl hq2
  obtain ⟨l2, hl2⟩ : ∃ l2, l.drop 44 = l2 := ⟨_, rfl⟩
  rw [hl2] at HH hl hq2
  have hb2 : ∀ b ∈ l2, b < 256 := fun b hx => hb b (by rw [← hl2] at hx; exact List.mem_of_mem_drop hx)
  have hver : (hdOf l).version = l.getD 4 0 := rfl
  obtain ⟨hd, hhd⟩ : ∃ hd, hdOf l = hd := ⟨_, rfl⟩
  rw [hhd] at HH HL hver
  rw [← hver] at hv
  clear hver hhd hN hl2 ho
  obtain ⟨version, uts, stds, leaps, times, types, letters⟩ := hd
  simp only at hv
  have v0 : decide ((version : Int) = 0) = false := by simp; omega
  have v1 : ((version : Int) == 0) = false := by simp; omega
  have HN : Hid (∀ V, Rd V B g l2 → Calls Try.prog 46 #[.pointer (some ⟨g, 0, none⟩), .int .i64 N] V fun e w' => e = .returned (.bool true) ∧ V = w') := Lib.hid fun V hr => by
    have := has_any l2 B g N V hr
    rwa [show decide ((N : Int) ≤ (l2.length : Int)) = true by simp; omega] at this
  have HL2 := HL
  have HT : Hid (∀ V, Rd V B g l2 → Calls Try.prog 47 #[.pointer (some ⟨g, 0, none⟩), .int .i64 N] V fun e w' => (∃ A c, e = .returned (.slice A N c)) ∧ Rd w' B g (l2.drop N) ∧ V.grownBy w' (some g)) := Lib.hid fun V hr => by
    refine (take_any l2 B g N V hr hl).mono ?_
    rintro e w' ⟨A, c, he, _, h1, h2⟩
    exact ⟨⟨A, c, he⟩, h1, h2⟩
  have HH2 : Hid (∀ V, Rd V B g (l2.drop N) → Calls Try.prog 44 #[.pointer (some ⟨g, 0, none⟩)] V fun e w' => e = .returned (.tuple #[noHead, .bool false]) ∧ V.grownBy w' (some g)) := Lib.hid fun V hr => head_no (l2.drop N) B g V hr (fun b hx => hb2 b (List.mem_of_mem_drop hx)) hq2
  unfold noHead at HH2
  clear h hb hb2 hq hq2 hbx hl hv
  unfold hdVal at HH HL HL2
  simp only at HH HL HL2
  go_enter Try.func39, Try.ntmps39
  go_wp2_with (first
    | (go_at_call 44; (try rw [hX]); refine HH.out.mono ?_; clear HH; rintro e V ⟨rfl, hr, hb⟩; have HR := Lib.hid hr; have HX1 := Lib.hid hb; clear hr hb hX)
    | (go_at_call 23; refine (HL.out _).mono ?_; clear HL; rintro e V2 ⟨rfl, hb2⟩; have HB2 := Lib.hid hb2; clear hb2; have hbv := ((Below.refl V.heap.size V).alloc (Nat.le_refl _) _).trans (HB2.out.mono (by simp)); have HR2 := Lib.hid (HR.out.below hbv HR.out.lt); have HX2 := Lib.hid (gb_below HX1.out (hbv.mono HX1.out.size)); have q0 := cells_at V.heap.size HB2.out (by simp) (cell_new V _ _ _ 0 _ rfl rfl); have q1 := cells_at V.heap.size HB2.out (by simp) (cell_new V _ _ _ 1 _ rfl rfl); have q2 := cells_at V.heap.size HB2.out (by simp) (cell_new V _ _ _ 2 _ rfl rfl); have q3 := cells_at V.heap.size HB2.out (by simp) (cell_new V _ _ _ 3 _ rfl rfl); have q4 := cells_at V.heap.size HB2.out (by simp) (cell_new V _ _ _ 4 _ rfl rfl); have q5 := cells_at V.heap.size HB2.out (by simp) (cell_new V _ _ _ 5 _ rfl rfl); have q6 := cells_at V.heap.size HB2.out (by simp) (cell_new V _ _ _ 6 _ rfl rfl); have HV2 := Lib.hid hbv.size; clear hbv)
    | (go_at_call 46; refine (HN.out _ HR2.out).mono ?_; clear HN; rintro e V3 ⟨rfl, rfl⟩)
    | (go_at_call 23; refine (HL2.out _).mono ?_; clear HL2; rintro e V3 ⟨rfl, hb3⟩; have HR3 := Lib.hid (HR2.out.below hb3 HR2.out.lt); have HX3 := Lib.hid (gb_below HX2.out (hb3.mono HX2.out.size)); clear hb3)
    | (go_at_call 47; refine (HT.out _ HR3.out).mono ?_; clear HT; rintro e V4 ⟨⟨A4, c4, rfl⟩, hr, hb⟩; have HR4 := Lib.hid hr; have HX4 := Lib.hid (HX3.out.trans hb); clear hr hb)
    | (go_at_call 44; refine (HH2.out _ HR4.out).mono ?_; clear HH2; rintro e V5 ⟨rfl, hb⟩; have HX5 := Lib.hid (HX4.out.trans hb); clear hb; have k0 := (cells_of HX5.out HS.out HG.out (HZ.out 0 _ rfl)); have k1 := (cells_of HX5.out HS.out HG.out (HZ.out 1 _ rfl)); have k2 := (cells_of HX5.out HS.out HG.out (HZ.out 2 _ rfl)); have k3 := (cells_of HX5.out HS.out HG.out (HZ.out 3 _ rfl)); have HS1 := (Nat.lt_of_lt_of_le HS.out HX5.out.size); have hf : ∀ o, V5.frozen? ⟨w.heap.size, o, none⟩ = false := (fun o => (frozen_of HX5.out HS.out HG.out).trans (HF.out o)); have f0 := hf 0; have f1 := hf 1; have f2 := hf 2; have f3 := hf 3; clear hf)
    | fail)
  exact bodyPost_ret (v := .tuple #[noZone, .bool false]) (by simp [results, Try.results39, go_sem, noZone, k0, k1, k2, k3, HS1]) rfl ⟨rfl, gb_below (HB0.out.trans HX5.out) ((((((Below.refl w.heap.size V5).setCell (Nat.le_refl _) _).setCell (Nat.le_refl _) _).setCell (Nat.le_refl _) _).setCell (Nat.le_refl _) _).alloc (by have := Nat.le_of_lt HS1; simpa using this) _)⟩
end Go.Proofs.Ytljkcnoicdhchaa.Tz
