/-
  Layer 12 (words): what stands behind a backslash, as the document says: the x.
-/
import Derived.Test.YtffmchbcpihjhaaWdResc
import Derived.Test.YtffmchbcpihjhaaWdTx
import Derived.BigQuiet
import Derived.Deep.QuietTactic
namespace Go.Proofs.Ytffmchbcpihjhaa.Wd
open Go.RowKit
set_option maxRecDepth 100000

theorem quiet_mine {P : Program} {f : Nat} {args : Array Value} {w : World} {n : Nat} {v : Value} (h : Calls P f args (w.drewN n) fun e w' => e = .returned v ∧ w.drewN n = w') : Calls P f args (w.drewN n) fun e w'' => e = .returned v ∧ ∃ m, w'' = w.drewN m := h.mono fun _ _ h => ⟨h.1, n, h.2.symm⟩
theorem drop_two {s : List UInt8} {i : Nat} (h : i + 1 < s.length) : s.drop i = s.getD i 0 :: s.getD (i + 1) 0 :: s.drop (i + 2) := by
  rw [List.drop_eq_getElem_cons (by omega), List.drop_eq_getElem_cons (by omega), List.getD_eq_getElem?_getD, List.getD_eq_getElem?_getD, List.getElem?_eq_getElem (by omega), List.getElem?_eq_getElem (by omega)]; rfl
theorem drop_three {s : List UInt8} {i : Nat} (h : i + 2 < s.length) : s.drop i = s.getD i 0 :: s.getD (i + 1) 0 :: s.getD (i + 2) 0 :: s.drop (i + 3) := by
  rw [drop_two (by omega), List.drop_eq_getElem_cons h, List.getD_eq_getElem?_getD (i := i + 2), List.getElem?_eq_getElem h]; rfl
theorem drop_one {s : List UInt8} {i : Nat} (h : i < s.length) : s.drop i = s.getD i 0 :: s.drop (i + 1) := by
  rw [List.drop_eq_getElem_cons h, List.getD_eq_getElem?_getD, List.getElem?_eq_getElem h]; rfl
theorem rx_short {s : List UInt8} {i : Nat} (h : i < s.length) (hx : s.getD i 0 = 120) (h2 : s.length ≤ i + 2) : REsc s i 0 0 := by
  refine .inl ⟨rfl, fun q ws cur => ?_⟩
  rw [drop_one h, hx, run_x]
  rcases Nat.lt_or_ge (i + 1) s.length with h3 | h3
  · rw [drop_one h3, List.drop_eq_nil_of_le (by omega), run_xa]
    cases hexN (s.getD (i + 1) 0) <;> rfl
  · rw [List.drop_eq_nil_of_le h3]; rfl
theorem rx_bad {s : List UInt8} {i : Nat} (hx : s.getD i 0 = 120) (h2 : i + 2 < s.length) (hb : hexN (s.getD (i + 1) 0) = none ∨ hexN (s.getD (i + 2) 0) = none) : REsc s i 0 0 := by
  refine .inl ⟨rfl, fun q ws cur => ?_⟩
  rw [drop_three h2, hx, run_x, run_xa]
  rcases hb with h | h
  · rw [h]; rfl
  · cases hexN (s.getD (i + 1) 0) with
    | none => rfl
    | some d => simp only; rw [run_yb, h]; rfl
theorem rx_good {s : List UInt8} {i : Nat} {d f : Nat} (hx : s.getD i 0 = 120) (h2 : i + 2 < s.length) (ha : hexN (s.getD (i + 1) 0) = some d) (hb : hexN (s.getD (i + 2) 0) = some f) : REsc s i ((UInt8.ofNat (d * 16 + f)).toNat : Int) 3 := by
  refine .inr ⟨UInt8.ofNat (d * 16 + f), 3, rfl, rfl, by omega, by omega, fun q ws cur => ?_⟩
  rw [drop_three h2, hx, run_x, run_xa, ha]
  simp only
  rw [run_yb, hb]
theorem hexZ_some {b : UInt8} {d : Nat} (h : hexN b = some d) : hexZ b = (d : Int) := by unfold hexZ; rw [h]
theorem hexZ_none {b : UInt8} (h : hexN b = none) : hexZ b = -1 := by unfold hexZ; rw [h]
theorem sum_u8 (d f : Nat) (hd : d < 16) (hf : f < 16) : (d : Int) * 16 + (f : Int) = ((UInt8.ofNat (d * 16 + f)).toNat : Int) := by
  rw [UInt8.toNat_ofNat', Nat.mod_eq_of_lt (by omega)]
  omega
set_option maxHeartbeats 4000000 in
theorem resc_x (s : List UInt8) (i : Nat) (hi : i < s.length) (hx120 : s.getD i 0 = 120) (hl : s.length ≤ 1000000) (w : World) : Calls Try.prog 19 #[.string (bs s), .int .i64 i] w fun e w' => ∃ v n, e = .returned (.tuple #[.int .u8 v, .int .i64 n]) ∧ Below w.heap.size w w' ∧ REsc s i v n := by
  have hsz : (bs s).size = s.length := rfl
  have h1 : ¬ ((bs s).size : Int) ≤ (i : Int) := by omega
  have hz : i < (bs s).size := hi
  have hb : (bs s)[i] = 120 := (at_list hz).trans hx120
  have hsb : ((bs s).size : Int) ≤ 1000000 := by omega
  have hip : (i : Int) ≤ 1000000 := by omega
  rcases Nat.lt_or_ge (i + 2) s.length with h2 | h2
  · have hlt : (i : Int) + 2 < ((bs s).size : Int) := by omega
    have hz2 : i + 2 < (bs s).size := h2
    have hz1 : i + 1 < (bs s).size := by omega
    have b1 := at_list hz1
    have b2 := at_list hz2
    have HA := Lib.hid (rhex_at (s.getD (i + 1) 0))
    have HB := Lib.hid (rhex_at (s.getD (i + 2) 0))
    cases ha : hexN (s.getD (i + 1) 0) with
    | none =>
      have HR := Lib.hid (rx_bad hx120 h2 (.inl ha))
      rw [hexZ_none ha] at HA
      generalize s.getD (i + 1) 0 = A at *
      generalize s.getD (i + 2) 0 = B at *
      clear h2 hl hx120 hsz hi HB ha
      generalize bs s = S at *
      go_enter Try.func19, Try.ntmps19
      go_wp2_with (first
        | (go_at_call 29; (try rw [b1]); refine (HA.out _).mono ?_; clear HA; rintro e W ⟨rfl, rfl⟩)
        | fail)
      go_ret2
      exact ⟨0, 0, rfl, Below.refl _ _, HR.out⟩
    | some d =>
      have hd := hex_lt ha
      cases hb' : hexN (s.getD (i + 2) 0) with
      | none =>
        have HR := Lib.hid (rx_bad hx120 h2 (.inr hb'))
        rw [hexZ_some ha] at HA
        rw [hexZ_none hb'] at HB
        generalize s.getD (i + 1) 0 = A at *
        generalize s.getD (i + 2) 0 = B at *
        clear h2 hl hx120 hsz hi ha hb'
        have hdp : (0 : Int) ≤ (d : Int) := by omega
        generalize bs s = S at *
        go_enter Try.func19, Try.ntmps19
        go_wp2_with (first
          | (go_at_call 29; (try rw [b1]); refine (HA.out _).mono ?_; clear HA; rintro e W ⟨rfl, rfl⟩)
          | (go_at_call 29; (try rw [b2]); refine (HB.out _).mono ?_; clear HB; rintro e W ⟨rfl, rfl⟩)
          | fail)
        go_ret2
        exact ⟨0, 0, rfl, Below.refl _ _, HR.out⟩
      | some f =>
        have hf := hex_lt hb'
        have HR := Lib.hid (rx_good hx120 h2 ha hb')
        have HW := Lib.hid (sum_u8 d f hd hf)
        have HEA := Lib.hid (hexZ_some ha)
        have HEB := Lib.hid (hexZ_some hb')
        rw [hexZ_some ha] at HA
        rw [hexZ_some hb'] at HB
        generalize s.getD (i + 1) 0 = A at *
        generalize s.getD (i + 2) 0 = B at *
        clear h2 hl hx120 hsz hi ha hb'
        have hdp : (0 : Int) ≤ (d : Int) := by omega
        have hfp : (0 : Int) ≤ (f : Int) := by omega
        have hd2 : (d : Int) ≤ 15 := by omega
        have hf2 : (f : Int) ≤ 15 := by omega
        generalize bs s = S at *
        go_enter Try.func19, Try.ntmps19
        go_wp2_with (first
          | (go_at_call 29; (try rw [b1]); refine (HA.out _).mono ?_; clear HA; rintro e W ⟨rfl, rfl⟩)
          | (go_at_call 29; (try rw [b2]); refine (HB.out _).mono ?_; clear HB; rintro e W ⟨rfl, rfl⟩)
          | fail)
        have ea := HEA.out
        have eb := HEB.out
        go_quiet ((go_at_call 29; exact quiet_mine (rhex_at _ _)))
        go_wp2
        go_ret2
        exact ⟨(d : Int) * 16 + (f : Int), 3, rfl, bl_drewN (Below.refl _ _) _, by rw [HW.out]; exact HR.out⟩
  · have hlt : ¬ (i : Int) + 2 < ((bs s).size : Int) := by omega
    have HR := Lib.hid (rx_short hi hx120 h2)
    clear h2 hl hx120 hsz hi
    generalize bs s = S at *
    go_enter Try.func19, Try.ntmps19
    go_wp2
    go_ret2
    exact ⟨0, 0, rfl, Below.refl _ _, HR.out⟩
theorem resc_any (s : List UInt8) (i : Nat) (hi : i ≤ s.length) (hl : s.length ≤ 1000000) (w : World) : Calls Try.prog 19 #[.string (bs s), .int .i64 i] w fun e w' => ∃ v n, e = .returned (.tuple #[.int .u8 v, .int .i64 n]) ∧ Below w.heap.size w w' ∧ REsc s i v n := by
  by_cases h : i < s.length ∧ s.getD i 0 = 120
  · exact resc_x s i h.1 h.2 hl w
  · exact (resc_plain s i hi (fun h1 h2 => h ⟨h1, h2⟩) w).mono fun e w' ⟨v, n, h1, h2, h3⟩ => ⟨v, n, h1, by rw [← h2]; exact Below.refl _ _, h3⟩
end Go.Proofs.Ytffmchbcpihjhaa.Wd
