/-
  Layer 6 (tzif): rows of indices, and a row of a block, read.
-/
import Derived.Test.YtljkcnoicdhchaaTzBb
namespace Go.Proofs.Ytljkcnoicdhchaa.Tz
open Go.RowKit

set_option maxRecDepth 100000 in
set_option maxHeartbeats 1000000 in
theorem rowsN_any (l : List Nat) (B g kk n : Nat) (val : List Nat → Int) (w : World) (h : Rd w B g l) (hr : Reads 58 B g kk val) (hn : n ≤ 5000) (hk : kk * n ≤ l.length) (hb : ∀ b ∈ l, b < 256) :
    Calls Try.prog 57 #[.int .i64 n, .func (.func 58) #[.pointer (some ⟨g, 0, none⟩)] #[]] w fun e w' => ∃ A c, e = .returned (.slice A n c) ∧ OwnI w' w.heap.size 3 (.slice A n c) (vals kk val n l) ∧ Rd w' B g (l.drop (kk * n)) ∧ w.grownBy w' (some g) := by
  have HRD := Lib.hid hr
  have H := Lib.hid h
  have HBY := Lib.hid hb
  have hn0 : (0 : Int) ≤ (n : Int) := by omega
  have hn1 : (n : Int) ≤ 5000 := by omega
  clear hr h hb
  go_enter Try.func57, Try.ntmps57
  go_wp2_with fail
  go_loopw [5, 7] (fun u i wr => ∃ (k : Nat) (A : Option Addr) (c : Nat), k ≤ n ∧ i = .int .i64 k ∧ u = .slice A k c ∧ OwnI wr w.heap.size 3 (.slice A k c) (vals kk val k l) ∧ Rd wr B g (l.drop (kk * k)) ∧ w.grownBy wr (some g)) (fun _ i _ => n - (intOf i).toNat)
  case atStart => exact ⟨0, none, 0, Nat.zero_le _, rfl, rfl, World.ownsRow_nil _ _ _ _, by simpa using H.out, World.grownBy.refl _ _⟩
  case round =>
    obtain ⟨k, A, c, hkn, rfl, rfl, hown, hrd, hgr⟩ := hrel
    have HOW := Lib.hid hown; have HR := Lib.hid hrd; have HG := Lib.hid hgr
    clear hown hrd hgr
    by_cases hlt : k < n
    · have hk0 : (0 : Int) ≤ (k : Int) := by omega
      have hk1 : (k : Int) < (n : Int) := by omega
      have hkl : kk * k + kk ≤ l.length := by
        have : kk * (k + 1) ≤ kk * n := Nat.mul_le_mul_left _ hlt
        rw [Nat.mul_add, Nat.mul_one] at this; omega
      have HC : Hid (Calls Try.prog 58 #[.pointer (some ⟨g, 0, none⟩)] wr fun e w' => e = .returned (.int .i64 (val ((l.drop (kk * k)).take kk))) ∧ Rd w' B g ((l.drop (kk * k)).drop kk) ∧ wr.grownBy w' (some g)) := Lib.hid (HRD.out wr _ HR.out (by rw [List.length_drop]; omega) (fun b hx => HBY.out b (List.mem_of_mem_drop hx)))
      obtain ⟨x, hx⟩ : ∃ x, val ((l.drop (kk * k)).take kk) = x := ⟨_, rfl⟩
      rw [hx] at HC
      have HX := Lib.hid hx
      clear hx
      go_wp2_with (first
        | (go_at_call 58; refine HC.out.mono ?_; clear HC; rintro e V ⟨rfl, hr, hg⟩; have HR2 := Lib.hid hr; have HG2 := Lib.hid (HG.out.trans hg); have HO2 := Lib.hid (HOW.out.other hg (by have := H.out.lt; omega)); clear hr hg)
        | (at_builtin; refine plain_append_ints_n (.tmp 9) (.tmp 12) 24 3 Try.underlying24 int_info rfl rfl w.heap.size (V.heap.size + 1) (k + 1) _ _ (vals kk val k l) [x] rfl rfl (HO2.out.alloc _) (sl_one V x _) (by rw [vals_len]; show _ + 1 ≤ _; omega) (by have := HG2.out.size; simp; omega) (by simp [vals_len]) ?_; intro A6 c6 V6 hO hG; have HO6 := Lib.hid hO; have HG6 := Lib.hid hG; clear hO hG)
        | fail)
      have hbl : Below w.heap.size V V6 := ((Below.refl w.heap.size V).alloc HG2.out.size _).trans (growI_below (HO2.out.alloc _) HG6.out (Nat.le_refl _) (by have := HG2.out.size; simp; omega))
      refine ⟨⟨k + 1, A6, c6, hlt, by go_num, rfl, by rw [vals_snoc, HX.out]; exact HO6.out, ?_, gb_below HG2.out hbl⟩, by simp [intOf]; omega⟩
      rw [Nat.mul_add, Nat.mul_one, ← List.drop_drop]
      exact HR2.out.below hbl H.out.lt
    · have hk1 : ¬ (k : Int) < (n : Int) := by omega
      obtain rfl : k = n := by omega
      go_wp2_with fail
      go_ret
      exact ⟨_, _, rfl, HOW.out, HR.out, HG.out⟩
/-- A row of a block. -/
def rowOff (l : List Nat) : Int := wrap64 (wrap32 (be (l.take 4)))
def rowDst (l : List Nat) : Int := be ((l.drop 4).take 1)
def rowPlace (l : List Nat) : Int := be ((l.drop 5).take 1)
set_option maxRecDepth 100000 in
set_option maxHeartbeats 1000000 in
theorem row_any (l : List Nat) (B g : Nat) (w : World) (h : Rd w B g l) (hk : 6 ≤ l.length) (hb : ∀ b ∈ l, b < 256) :
    Calls Try.prog 60 #[.pointer (some ⟨g, 0, none⟩)] w fun e w' => e = .returned (.agg #[.int .i64 (rowOff l), .int .i64 (rowDst l), .int .i64 (rowPlace l)]) ∧ Rd w' B g (l.drop 6) ∧ w.grownBy w' (some g) := by
  obtain ⟨P, hP⟩ : ∃ P, w.heap.size = P := ⟨_, rfl⟩
  obtain ⟨W0, hW0⟩ : ∃ W0, w.alloc (.cells #[.int .i64 0, .int .i64 0, .int .i64 0] 108) = W0 := ⟨_, rfl⟩
  have hgP : g < P := by rw [← hP]; exact h.lt
  have HP := Lib.hid hP
  have hR0 : Rd W0 B g l := h.below (C := P) (by rw [← hW0, ← hP]; exact (Below.refl _ _).alloc (Nat.le_refl _) _) hgP
  have HG0 : Hid (w.grownBy W0 (some g)) := Lib.hid (by rw [← hW0]; exact World.grownBy_alloc w _ _)
  have HS0 : Hid (W0.heap.size = P + 1) := Lib.hid (by rw [← hW0]; simp [hP])
  have HC0 : Hid (∀ i u, (#[.int .i64 0, .int .i64 0, .int .i64 0] : Array Value)[i]? = some u → W0.cell? ⟨P, i, none⟩ = some u) := Lib.hid fun i u hu => by rw [← hW0]; exact cell_new w _ _ _ i u hP hu
  have HF0 : Hid (∀ i, W0.frozen? ⟨P, i, none⟩ = false) := Lib.hid fun i => by rw [← hW0, ← hP]; exact frozen_of_row _ _ i _ _ (heap_alloc_new _ _)
  have H1 : Hid (Calls Try.prog 56 #[.pointer (some ⟨g, 0, none⟩)] W0 fun e w' => e = .returned (.int .i64 (rowOff l)) ∧ Rd w' B g (l.drop 4) ∧ W0.grownBy w' (some g)) := Lib.hid (four_any l B g W0 hR0 (by omega) hb)
  have H2 : Hid (∀ V, Rd V B g (l.drop 4) → Calls Try.prog 58 #[.pointer (some ⟨g, 0, none⟩)] V fun e w' => e = .returned (.int .i64 (rowDst l)) ∧ Rd w' B g (l.drop 5) ∧ V.grownBy w' (some g)) := Lib.hid fun V hV => by
    have := one_any (l.drop 4) B g V hV (by rw [List.length_drop]; omega) (fun b hx => hb b (List.mem_of_mem_drop hx))
    rwa [List.drop_drop] at this
  have H3 : Hid (∀ V, Rd V B g (l.drop 5) → Calls Try.prog 58 #[.pointer (some ⟨g, 0, none⟩)] V fun e w' => e = .returned (.int .i64 (rowPlace l)) ∧ Rd w' B g (l.drop 6) ∧ V.grownBy w' (some g)) := Lib.hid fun V hV => by
    have := one_any (l.drop 5) B g V hV (by rw [List.length_drop]; omega) (fun b hx => hb b (List.mem_of_mem_drop hx))
    rwa [List.drop_drop] at this
  have HKE : Hid (∀ V, W0.grownBy V (some g) → (∀ i u, (#[.int .i64 0, .int .i64 0, .int .i64 0] : Array Value)[i]? = some u → V.cell? ⟨P, i, none⟩ = some u) ∧ (∀ i, V.frozen? ⟨P, i, none⟩ = false) ∧ P < V.heap.size) := Lib.hid fun V hV => by
    have hblk : V.heap[P]? = W0.heap[P]? := hV.block P (by rw [HS0.out]; omega) (fun e => by injection e with e; omega)
    exact ⟨fun i u hu => (World.cell?_of_block (a := ⟨P, i, none⟩) hblk).trans (HC0.out i u hu), fun i => (World.frozen?_of_block (a := ⟨P, i, none⟩) hblk).trans (HF0.out i), by have := hV.size; rw [HS0.out] at this; omega⟩
  obtain ⟨o, ho⟩ : ∃ o, rowOff l = o := ⟨_, rfl⟩
  obtain ⟨d, hd⟩ : ∃ d, rowDst l = d := ⟨_, rfl⟩
  obtain ⟨p, hp⟩ : ∃ p, rowPlace l = p := ⟨_, rfl⟩
  rw [ho] at H1 ⊢
  rw [hd] at H2 ⊢
  rw [hp] at H3 ⊢
  clear ho hd hp h hb hk hR0
  go_enter Try.func60, Try.ntmps60
  go_wp2_with fail
  refine H1.out.mono ?_
  rintro e V1 ⟨rfl, hr, hg⟩
  have HR1 := Lib.hid hr; have HG1 := Lib.hid hg
  clear H1 hr hg
  go_wp2_with fail
  refine (H2.out _ HR1.out).mono ?_
  rintro e V2 ⟨rfl, hr, hg⟩
  have HR2 := Lib.hid hr; have HG2 := Lib.hid (HG1.out.trans hg)
  clear H2 hr hg
  go_wp2_with fail
  refine (H3.out _ HR2.out).mono ?_
  rintro e V3 ⟨rfl, hr, hg⟩
  have HR3 := Lib.hid hr; have HG3 := Lib.hid (HG2.out.trans hg)
  clear H3 hr hg
  obtain ⟨hc, hf, hlt⟩ := HKE.out _ HG3.out
  have c0 := hc 0 _ rfl; have c1 := hc 1 _ rfl; have c2 := hc 2 _ rfl
  have f0 := hf 0; have f1 := hf 1; have f2 := hf 2
  clear hc hf
  go_wp2_with fail
  have hbl : Below P V3 (((V3.setCell ⟨P, 0, none⟩ (.int .i64 o)).setCell ⟨P, 1, none⟩ (.int .i64 d)).setCell ⟨P, 2, none⟩ (.int .i64 p)) :=
    (((Below.refl P V3).setCell (Nat.le_refl _) _).setCell (Nat.le_refl _) _).setCell (Nat.le_refl _) _
  refine bodyPost_ret (v := .agg #[.int .i64 o, .int .i64 d, .int .i64 p]) (by simp [results, Try.results60, go_sem, c0, c1, c2]) rfl ⟨rfl, HR3.out.below hbl hgP, gb_below (HG0.out.trans HG3.out) (by rw [HP.out]; exact hbl)⟩
end Go.Proofs.Ytljkcnoicdhchaa.Tz
