/-
  Layer 11 (lines): the law LinesParse, walked.
-/
import Derived.Test.YtokeepmlibolfaaDoorLnBytes
import Derived.Test.YtokeepmlibolfaaDoorLnRefR
import Derived.Test.YtokeepmlibolfaaDoorLnWorks
import Derived.BigQuiet
import Derived.Deep.QuietTactic
namespace Go.Proofs.YtokeepmlibolfaaDoor.Ln
open Go.RowKit
set_option maxRecDepth 100000

set_option maxHeartbeats 1000000 in
theorem parse_long (A : Option Addr) (n c : Nat) (m : Int) (w : World) (hm : w.cell? ⟨0, 0, none⟩ = some (.int .i64 m)) (h0 : 0 < w.heap.size) (hn : 5000 < n) : Calls Tryd.prog 3 #[.slice A n c] w fun e w' => e = .returned (.bool true) ∧ Below w.heap.size w w' := by
  have HWK := Lib.hid (works_any m w hm h0)
  have hn2 : (5000 : Int) < (n : Int) := by omega
  clear hm h0 hn
  go_enter Tryd.func3, Tryd.ntmps3
  go_wp2_with (first | (go_at_call 8; refine (HWK.out).mono ?_; rintro e V ⟨rfl, hb⟩; have HB := Lib.hid hb; clear hb) | fail)
  go_ret
  exact ⟨rfl, HB.out⟩
set_option maxHeartbeats 4000000 in
theorem parse_short (A : Option Addr) (n c : Nat) (text : List UInt8) (m : Int) (w : World) (hm : w.cell? ⟨0, 0, none⟩ = some (.int .i64 m)) (h0 : 0 < w.heap.size) (hl : text.length = n) (hn : n ≤ 5000)
    (hcv : ∀ W', Below w.heap.size w W' → (convert 22 9 (.slice A n c)).run Tryd.prog W' = .ok (.string (bs text)) W') : Calls Tryd.prog 3 #[.slice A n c] w fun e w' => e = .returned (.bool true) ∧ Below w.heap.size w w' := by
  have hc1 := hcv w (Below.refl _ _)
  have hc2 := conv_run text w
  have HERR := Lib.hid (parse_errs text)
  have hNM : (parseL text).found.length ≤ 1000001 ∧ (parseL text).wrong.length ≤ 1000001 := by
    have h1 := pfold_len (wholesL (linesL text) 0 0 [])
    have h2 := wholes_len (linesL text) 0 0 []
    have h3 := tot_lines text (by omega)
    have h4 : ∀ l : List (List UInt8), l.length ≤ tot l := fun l => by
      induction l with
      | nil => exact Nat.le_refl _
      | cons a l ih => show l.length + 1 ≤ a.length + 1 + tot l; omega
    have h5 := h4 (linesL text)
    unfold parseL
    omega
  have HPA : Hid (Calls Tryd.prog 9 #[cV w text] (cW w text) fun e W' => ∃ p1 k1 p2 k2, e = .returned (.tuple #[.slice p1 (parseL text).found.length k1, .slice p2 (parseL text).wrong.length k2]) ∧ RowAt W' p1 4 ((parseL text).found.map lineC) ∧ RowAt W' p2 2 ((parseL text).wrong.map diagC) ∧ Below w.heap.size w W' ∧ Below (cW w text).heap.size (cW w text) W') := Lib.hid ((parse_lit text m w hm h0 (by omega)).mono fun e W' h => by
    obtain ⟨v1, v2, rfl, o1, o2, hb⟩ := h
    obtain ⟨p1, k1, rfl, r1⟩ := lines_at_row o1
    obtain ⟨p2, k2, rfl, r2⟩ := diags_at_row o2
    have hb2 : Below (cW w text).heap.size (cW w text) W' := by rw [cW_size]; exact hb
    exact ⟨p1, k1, p2, k2, rfl, r1, r2, (cW_below text w).trans (hb.mono (by omega)), hb2⟩)
  have HPR : Hid (∀ V, Calls Tryd.prog 10 #[.string (bs text)] V fun e W' => ∃ p1 k1 p2 k2, e = .returned (.tuple #[.slice p1 (parseL text).found.length k1, .slice p2 (parseL text).wrong.length k2]) ∧ RowAt W' p1 4 ((parseL text).found.map lineC) ∧ RowAt W' p2 2 ((parseL text).wrong.map diagR) ∧ Below V.heap.size V W') := Lib.hid fun V => (rparse_any text (by omega) V).mono fun e W' h => by
    obtain ⟨v1, v2, rfl, o1, o2, hb⟩ := h
    obtain ⟨p1, k1, e1, r1⟩ := own_at_row o1
    obtain ⟨p2, k2, e2, r2⟩ := own_at_row o2
    rw [List.length_map] at e1 e2
    subst e1
    subst e2
    exact ⟨p1, k1, p2, k2, rfl, r1, r2, hb⟩
  have HCV := Lib.hid hcv
  have HCB := Lib.hid (conv_back text w)
  have HM := Lib.hid hm
  have H0 := Lib.hid h0
  have hn2 : ¬ (5000 : Int) < (n : Int) := by omega
  clear hm h0 hcv hl hn
  generalize bs text = TX at *
  obtain ⟨fd, hfd⟩ : ∃ fd, (parseL text).found = fd := ⟨_, rfl⟩
  obtain ⟨wr', hwr⟩ : ∃ wr, (parseL text).wrong = wr := ⟨_, rfl⟩
  rw [hfd, hwr] at HPA HPR
  rw [hwr] at HERR
  rw [hfd, hwr] at hNM
  clear hfd hwr
  obtain ⟨N, hN⟩ : ∃ N, fd.length = N := ⟨_, rfl⟩
  obtain ⟨M, hM⟩ : ∃ M, wr'.length = M := ⟨_, rfl⟩
  have HNB : Hid (N ≤ 1000001 ∧ M ≤ 1000001) := Lib.hid (by rw [hN, hM] at hNM; exact hNM)
  rw [hN, hM] at HPA HPR
  have HN := Lib.hid hN
  have HMM := Lib.hid hM
  clear hN hM hNM
  obtain ⟨CV, hCV⟩ : ∃ v, cV w text = v := ⟨_, rfl⟩
  obtain ⟨CW, hCW⟩ : ∃ v, cW w text = v := ⟨_, rfl⟩
  rw [hCV, hCW] at HPA hc2 HCB
  clear hCV hCW
  go_enter Tryd.func3, Tryd.ntmps3
  go_wp2_with (first
    | (go_at_call 9; refine (HPA.out).mono ?_; clear HPA; rintro e W1 ⟨p1, k1, p2, k2, rfl, hr1, hr2, hb1, hb2⟩; have R1 := Lib.hid hr1; have R2 := Lib.hid hr2; have B1 := Lib.hid hb1; have B1' := Lib.hid hb2; have hc3 := HCV.out W1 hb1; clear hr1 hr2 hb1 hb2)
    | (go_at_call 10; refine (HPR.out W1).mono ?_; clear HPR; rintro e W2 ⟨q1, j1, q2, j2, rfl, hr3, hr4, hb3⟩; have R3 := Lib.hid hr3; have R4 := Lib.hid hr4; have R1' := Lib.hid (R1.out.keep hb3); have R2' := Lib.hid (R2.out.keep hb3); have B2 := Lib.hid (B1.out.trans (hb3.mono B1.out.size)); have hc4 := HCV.out W2 B2.out; have hc5 := HCB.out W2 (B1'.out.trans (hb3.mono B1'.out.size)); clear hr3 hr4 hb3 R1 R2)
    | fail)
  clear hc1 hc2 hc3 hc4 hc5 HCV HCB B1'
  have HS2 : Hid (w.heap.size ≤ W2.heap.size) := Lib.hid B2.out.size
  go_loopw [8] (fun i wr => ∃ k : Nat, k ≤ N ∧ i = .int .i64 k ∧ Below W2.heap.size W2 wr) (fun i _ => N - (intOf i).toNat)
  case atStart => exact ⟨0, Nat.zero_le _, rfl, Below.refl _ _⟩
  case round =>
    obtain ⟨k, hk, rfl, hb⟩ := hrel
    by_cases hlt : k < N
    · obtain ⟨x, hx⟩ : ∃ x, fd[k]? = some x := ⟨_, List.getElem?_eq_getElem (by have := HN.out; omega)⟩
      have hx2 : (fd.map lineC)[k]? = some (lineC x) := by rw [List.getElem?_map, hx]; rfl
      obtain ⟨g1, e1, _, hq1⟩ := (R1'.out.keep hb) k _ hx2
      obtain ⟨g3, e3, _, hq3⟩ := (R3.out.keep hb) k _ hx2
      obtain ⟨x0, x1, x2, x3⟩ := x
      have a0 : wr.cell? ⟨g1, k * 4, none⟩ = some (.int .i64 x0) := hq1 0 _ rfl
      have a1 : wr.cell? ⟨g1, k * 4 + 1, none⟩ = some (.string (bs x1)) := hq1 1 _ rfl
      have a2 : wr.cell? ⟨g1, k * 4 + 2, none⟩ = some (.string (bs x2)) := hq1 2 _ rfl
      have a3 : wr.cell? ⟨g1, k * 4 + 3, none⟩ = some (.string (bs x3)) := hq1 3 _ rfl
      have b0 : wr.cell? ⟨g3, k * 4, none⟩ = some (.int .i64 x0) := hq3 0 _ rfl
      have b1 : wr.cell? ⟨g3, k * 4 + 1, none⟩ = some (.string (bs x1)) := hq3 1 _ rfl
      have b2 : wr.cell? ⟨g3, k * 4 + 2, none⟩ = some (.string (bs x2)) := hq3 2 _ rfl
      have b3 : wr.cell? ⟨g3, k * 4 + 3, none⟩ = some (.string (bs x3)) := hq3 3 _ rfl
      subst e1
      subst e3
      clear hq1 hq3 hx hx2 R1' R2' R3 R4 HERR
      have HB := Lib.hid hb
      clear hb
      generalize bs x1 = X1 at *
      generalize bs x2 = X2 at *
      generalize bs x3 = X3 at *
      have hNb := HNB.out.1
      go_wp2_with fail
      go_quiet (fail)
      go_wp2
      go_roundw
      case rel => exact ⟨k + 1, by omega, by go_num, bl_drewN HB.out _⟩
      case measure => simp only [intOf]; omega
    · obtain rfl : k = N := by omega
      have R2'' := Lib.hid (R2'.out.keep hb)
      have R4'' := Lib.hid (R4.out.keep hb)
      have B3 := Lib.hid (B2.out.trans (hb.mono B2.out.size))
      have hkk : ¬ (k : Int) < (k : Int) := by omega
      have HWK : Hid (∀ V, Below wr.heap.size wr V → Calls Tryd.prog 8 #[] V fun e w' => e = .returned (.bool true) ∧ Below w.heap.size w w') := Lib.hid fun V hV => by
        have b := B3.out.trans (hV.mono B3.out.size)
        refine (works_any m V ((b.cell (p := ⟨0, 0, none⟩) H0.out).trans HM.out) (by have := b.size; have := H0.out; omega)).mono ?_
        rintro e w' ⟨he, hb'⟩
        exact ⟨he, b.trans (hb'.mono b.size)⟩
      clear R1' R2' R3 R4 hb
      go_wp2_with fail
      go_loopw [9] (fun i wx => ∃ j : Nat, j ≤ M ∧ i = .int .i64 j ∧ Below wr.heap.size wr wx) (fun i _ => M - (intOf i).toNat)
      case atStart => exact ⟨0, Nat.zero_le _, rfl, Below.refl _ _⟩
      case round =>
        obtain ⟨j, hj, rfl, hb⟩ := hrel
        by_cases hjm : j < M
        · obtain ⟨d, hd⟩ : ∃ d, wr'[j]? = some d := ⟨_, List.getElem?_eq_getElem (by have := HMM.out; omega)⟩
          obtain ⟨g2, e2, _, hq2⟩ := (R2''.out.keep hb) j (diagC d) (by rw [List.getElem?_map, hd]; rfl)
          obtain ⟨g4, e4, _, hq4⟩ := (R4''.out.keep hb) j (diagR d) (by rw [List.getElem?_map, hd]; rfl)
          have herr := HERR.out d (List.mem_of_getElem? hd)
          obtain ⟨d0, d1⟩ := d
          have a0 : wr.cell? ⟨g2, j * 2, none⟩ = some (.int .i64 d0) := hq2 0 _ rfl
          have a1 : wr.cell? ⟨g2, j * 2 + 1, none⟩ = some (.int .i64 d1) := hq2 1 _ rfl
          have b0 : wr.cell? ⟨g4, j * 2, none⟩ = some (.int .i64 d0) := hq4 0 _ rfl
          have b1 : wr.cell? ⟨g4, j * 2 + 1, none⟩ = some (.bool (d1 == 3)) := hq4 1 _ rfl
          subst e2
          subst e4
          have HB := Lib.hid hb
          have hMb := HNB.out.2
          clear hq2 hq4 hd HERR hb R2'' R4''
          rcases herr with h | h
          · have h : d1 = 3 := h
            subst h
            have b1 : wr.cell? ⟨g4, j * 2 + 1, none⟩ = some (.bool true) := b1
            go_wp2_with fail
            go_quiet (fail)
            go_wp2
            go_roundw
            case rel => exact ⟨j + 1, by omega, by go_num, bl_drewN HB.out _⟩
            case measure => simp only [intOf]; omega
          · have h : d1 = 110 := h
            subst h
            have b1 : wr.cell? ⟨g4, j * 2 + 1, none⟩ = some (.bool false) := b1
            go_wp2_with fail
            go_quiet (fail)
            go_wp2
            go_roundw
            case rel => exact ⟨j + 1, by omega, by go_num, bl_drewN HB.out _⟩
            case measure => simp only [intOf]; omega
        · obtain rfl : j = M := by omega
          have hjj : ¬ (j : Int) < (j : Int) := by omega
          have HB := Lib.hid hb
          clear hb R2'' R4''
          go_wp2_with (first | (go_at_call 8; refine (HWK.out _ HB.out).mono ?_; rintro e V ⟨rfl, hb9⟩; have HB9 := Lib.hid hb9; clear hb9) | fail)
          go_ret
          exact ⟨rfl, HB9.out⟩
/-- The law. -/
theorem linesParse_any (A : Option Addr) (n c : Nat) (text : List UInt8) (m : Int) (w : World) (hm : w.cell? ⟨0, 0, none⟩ = some (.int .i64 m)) (h0 : 0 < w.heap.size) (hl : text.length = n)
    (hcv : ∀ W', Below w.heap.size w W' → (convert 22 9 (.slice A n c)).run Tryd.prog W' = .ok (.string (bs text)) W') : Calls Tryd.prog 3 #[.slice A n c] w fun e w' => e = .returned (.bool true) ∧ Below w.heap.size w w' := by
  by_cases h : 5000 < n
  · exact parse_long A n c m w hm h0 h
  · exact parse_short A n c text m w hm h0 hl (by omega) hcv
end Go.Proofs.YtokeepmlibolfaaDoor.Ln
