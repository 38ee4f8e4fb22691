/-
  Layer 6 (tzif): the program's Right.
-/
import Derived.Test.YtljkcnoicdhchaaTzA
namespace Go.Proofs.Ytljkcnoicdhchaa.Tz
open Go.RowKit

theorem Sl.one {w : World} {B : Nat} {v : Value} {l : List Int} (h : Sl w B 1 v (l.map intCells)) {k : Nat} {x : Int} (hk : l[k]? = some x) : ∃ g off c, v = .slice (some ⟨g, off, none⟩) l.length c ∧ g < B ∧ w.cell? ⟨g, off + k, none⟩ = some (.int .i64 x) := by
  obtain ⟨g, off, c, hv, hg, hc⟩ := h.at_ k (intCells x) (by rw [List.getElem?_map, hk]; rfl)
  rw [List.length_map] at hv
  exact ⟨g, off, c, hv, hg, by have := hc 0 _ rfl; simpa using this⟩
theorem Sl.ty {w : World} {B : Nat} {v : Value} {l : List Ty} (h : Sl w B 3 v (l.map tyCells)) {k : Nat} {x : Ty} (hk : l[k]? = some x) : ∃ g off c, v = .slice (some ⟨g, off, none⟩) l.length c ∧ g < B ∧ w.cell? ⟨g, off + k * 3, none⟩ = some (.int .i64 x.off) ∧ w.cell? ⟨g, off + k * 3 + 1, none⟩ = some (.bool x.dst) ∧ w.cell? ⟨g, off + k * 3 + 2, none⟩ = some (.string x.abbr) := by
  obtain ⟨g, off, c, hv, hg, hc⟩ := h.at_ k (tyCells x) (by rw [List.getElem?_map, hk]; rfl)
  rw [List.length_map] at hv
  exact ⟨g, off, c, hv, hg, hc 0 _ rfl, hc 1 _ rfl, hc 2 _ rfl⟩
theorem Sl.len {w : World} {B sz : Nat} {v : Value} {α : Type} {f : α → List Value} {l : List α} (h : Sl w B sz v (l.map f)) : ∃ A c, v = .slice A l.length c := by
  obtain ⟨A, c, e⟩ := h.form
  rw [List.length_map] at e
  exact ⟨A, c, e⟩
set_option maxHeartbeats 1000000 in
theorem rightIdx_any (v : Value) (l : List Int) (n : Int) (B : Nat) (w : World) (h : Sl w B 1 v (l.map intCells)) (hl : l.length ≤ 1000000) (hn : 0 ≤ n ∧ n ≤ 1000000) : Calls Try.prog 28 #[v, .int .i64 n] w fun e w' => e = .returned (.bool (rightIdx l n)) ∧ w = w' := by
  obtain ⟨A, c, rfl⟩ := h.len
  have H := Lib.hid h
  obtain ⟨b, hb⟩ : ∃ b, rightIdx l n = b := ⟨_, rfl⟩
  rw [hb]
  have HB := Lib.hid hb
  clear hb h
  obtain ⟨hn0, hn1⟩ := hn
  go_enter Try.func28, Try.ntmps28
  go_wp2_with fail
  go_loopw [9] (fun i wr => ∃ k : Nat, k ≤ l.length ∧ i = .int .i64 k ∧ (∀ x ∈ l.take k, inI x 0 (n - 1) = true) ∧ wr = w) (fun i _ => l.length - (intOf i).toNat)
  case atStart => exact ⟨0, Nat.zero_le _, rfl, fun x hx => by simp at hx, rfl⟩
  case round =>
    obtain ⟨k, hk, rfl, hall, rfl⟩ := hrel
    have HALL := Lib.hid hall
    clear hall
    by_cases hlt : k < l.length
    · have hk0 : (0 : Int) ≤ (k : Int) := by omega
      have hk1 : (k : Int) < (l.length : Int) := by omega
      obtain ⟨x, hx⟩ : ∃ x, l[k]? = some x := ⟨_, List.getElem?_eq_getElem hlt⟩
      obtain ⟨g, off, c', hv, hg, c0⟩ := H.out.one hx
      injection hv with e1 _ e3
      subst e1; subst e3
      obtain ⟨q, hq⟩ : ∃ q, inI x 0 (n - 1) = q := ⟨_, rfl⟩
      have HW := Lib.hid (within_int x 0 (n - 1) wr)
      rw [hq] at HW
      have HQ := Lib.hid hq; have HX := Lib.hid hx
      clear hq hx
      cases q with
      | true =>
        go_wp2_with (first
          | (go_at_call 42; refine HW.out.mono ?_; clear HW; rintro e w1 ⟨rfl, rfl⟩)
          | fail)
        refine ⟨⟨k + 1, hlt, by go_num, fun y hy => ?_, by first | rfl | trivial⟩, by simp [intOf]; omega⟩
        rw [take_one HX.out] at hy
        rcases List.mem_append.1 hy with hy | hy
        · exact HALL.out y hy
        · rw [List.mem_singleton.1 hy]; exact HQ.out
      | false =>
        go_wp2_with (first
          | (go_at_call 42; refine HW.out.mono ?_; clear HW; rintro e w1 ⟨rfl, rfl⟩)
          | fail)
        go_ret
        refine ⟨?_, rfl⟩
        have : b = false := by
          rw [← HB.out]
          unfold rightIdx
          rw [List.all_eq_false]
          exact ⟨_, List.mem_of_getElem? HX.out, by rw [HQ.out]; simp⟩
        rw [this]; rfl
    · have hk1 : ¬ (k : Int) < (l.length : Int) := by omega
      go_wp2_with fail
      go_ret
      refine ⟨?_, rfl⟩
      have : b = true := by
        rw [← HB.out]
        unfold rightIdx
        rw [List.all_eq_true]
        intro x hx
        refine HALL.out x ?_
        rw [List.take_of_length_le (by omega)]
        exact hx
      rw [this]; rfl
set_option maxHeartbeats 1000000 in
theorem rightTms_any (v : Value) (l : List Int) (B : Nat) (w : World) (h : Sl w B 1 v (l.map intCells)) (hl : l.length ≤ 1000000) : Calls Try.prog 27 #[v] w fun e w' => e = .returned (.bool (rightTms l)) ∧ ∃ m, w' = w.drewN m := by
  obtain ⟨A, c, rfl⟩ := h.len
  have H := Lib.hid h
  clear h
  by_cases h4 : 4000 < l.length
  · have e : rightTms l = false := by
      unfold rightTms
      have : ¬ l.length ≤ 4000 := by omega
      simp [this]
    rw [e]
    have h5 : (4000 : Int) < (l.length : Int) := by omega
    clear e
    go_enter Try.func27, Try.ntmps27
    go_wp2_with fail
    go_ret
    exact ⟨rfl, 0, rfl⟩
  · obtain ⟨b, hb⟩ : ∃ b, rightTms l = b := ⟨_, rfl⟩
    have hb2 : rises l = b := by
      rw [← hb]; unfold rightTms
      have : l.length ≤ 4000 := by omega
      simp [this]
    rw [hb]
    have HB := Lib.hid hb2
    have h5 : ¬ (4000 : Int) < (l.length : Int) := by omega
    clear hb hb2
    go_enter Try.func27, Try.ntmps27
    go_wp2_with fail
    go_loopw [3] (fun i wr => ∃ k m : Nat, 1 ≤ k ∧ (k ≤ l.length ∨ k = 1) ∧ i = .int .i64 k ∧ (∀ (j : Nat) (a c : Int), j + 1 < k → l[j]? = some a → l[j + 1]? = some c → a < c) ∧ wr = w.drewN m) (fun i _ => l.length - (intOf i).toNat)
    case atStart => exact ⟨1, 0, Nat.le_refl _, .inr rfl, rfl, fun j a c hj => absurd hj (by omega), rfl⟩
    case round =>
      obtain ⟨k, m, hk1, hk, rfl, hall, rfl⟩ := hrel
      have HALL := Lib.hid hall
      clear hall
      by_cases hlt : k < l.length
      · have hk0 : (0 : Int) ≤ (k : Int) := by omega
        have hk2 : (k : Int) < (l.length : Int) := by omega
        obtain ⟨x, hx⟩ : ∃ x, l[k]? = some x := ⟨_, List.getElem?_eq_getElem hlt⟩
        obtain ⟨j, rfl⟩ : ∃ j, k = j + 1 := ⟨k - 1, by omega⟩
        obtain ⟨y, hy⟩ : ∃ y, l[j]? = some y := ⟨_, List.getElem?_eq_getElem (by omega)⟩
        obtain ⟨g, off, c', hv, hg, c0⟩ := H.out.one hx
        obtain ⟨g2, off2, c2', hv2, hg2, c1⟩ := H.out.one hy
        injection hv with e1 _ e3
        subst e1; subst e3
        injection hv2 with e1 _ e3
        injection e1 with e1
        injection e1 with e4 e5 _
        subst e4; subst e5
        have e6 : ((j + 1 : Nat) : Int) - 1 = (j : Int) := by omega
        have hj0 : (0 : Int) ≤ (j : Int) := by omega
        have hj1 : (j : Int) < (l.length : Int) := by omega
        have HX := Lib.hid hx; have HY := Lib.hid hy
        clear hx hy e3
        by_cases hxy : x ≤ y
        · go_wp2_with fail
          go_quiet (fail)
          go_wp2_with fail
          go_ret
          refine ⟨?_, m + nq, by simp [World.drewN, Nat.add_assoc]⟩
          have : b = false := by
            rw [← HB.out]
            cases hr : rises l with
            | false => rfl
            | true =>
              have := rises_of hr j y x HY.out HX.out
              omega
          rw [this]; rfl
        · go_wp2_with fail
          go_quiet (fail)
          go_wp2_with fail
          refine ⟨⟨j + 1 + 1, _, by omega, .inl hlt, by go_num, fun i a d hi ha hd => ?_, rfl⟩, by simp [intOf]; omega⟩
          by_cases e : i = j
          · subst e
            rw [HY.out] at ha
            rw [HX.out] at hd
            injection ha with ha
            injection hd with hd
            omega
          · exact HALL.out i a d (by omega) ha hd
      · have hk2 : ¬ (k : Int) < (l.length : Int) := by omega
        go_wp2_with fail
        go_ret
        refine ⟨?_, m, rfl⟩
        have : b = true := by
          rw [← HB.out]
          exact rises_at fun j a d ha hd => HALL.out j a d (by
            have : j + 1 < l.length := by
              rcases Nat.lt_or_ge (j + 1) l.length with h | h
              · exact h
              · rw [List.getElem?_eq_none h] at hd; cases hd
            omega) ha hd
        rw [this]; rfl
end Go.Proofs.Ytljkcnoicdhchaa.Tz
