/-
  Layer 12 (words): rows of texts, wherever they lie; are two of them the same?
-/
import Derived.Test.YtffmchbcpihjhaaWdSplit
import Derived.BigQuiet
import Derived.Deep.QuietTactic
namespace Go.Proofs.Ytffmchbcpihjhaa.Wd
open Go.RowKit
set_option maxRecDepth 100000

/-- A row of texts. -/
def StrRow (W : World) (A : Option Addr) (os : List (List UInt8)) : Prop := ∀ i o, os[i]? = some o → ∃ a, A = some a ∧ a.block < W.heap.size ∧ W.cell? (a.add i) = some (.string (bs o))
theorem block_add (a : Addr) (j : Nat) : (a.add j).block = a.block := by unfold Addr.add; split <;> rfl
theorem StrRow.keep {W W' : World} {A : Option Addr} {os : List (List UInt8)} (h : StrRow W A os) (hb : Below W.heap.size W W') : StrRow W' A os := fun i o hi => by
  obtain ⟨a, h1, h2, h3⟩ := h i o hi
  exact ⟨a, h1, Nat.lt_of_lt_of_le h2 hb.size, (hb.cell (by rw [block_add]; exact h2)).trans h3⟩
theorem StrRow.nil (W : World) (A : Option Addr) : StrRow W A [] := fun i o hi => by simp at hi
theorem flat_t : ∀ l : List (List UInt8), (l.map cellT).flatten = l.map fun b => Value.string (bs b)
  | [] => rfl
  | b :: l => by rw [List.map_cons, List.flatten_cons, flat_t l]; rfl
/-- A row of texts that is a call's own. -/
theorem own_str {W : World} {base : Nat} {v : Value} {l : List (List UInt8)} (h : OwnR W base 9 1 v (l.map cellT)) : ∃ A c, v = .slice A l.length c ∧ StrRow W A l := by
  have h1 := h.1
  rw [List.length_map, flat_t] at h1
  rcases Nat.eq_zero_or_pos l.length with h0 | h0
  · rw [h0] at h1 ⊢
    obtain ⟨p, c, rfl⟩ := row_none h1
    obtain rfl := List.length_eq_zero_iff.mp h0
    exact ⟨p, c, rfl, StrRow.nil _ _⟩
  · obtain ⟨g, cap, rfl, _, hg, hc⟩ := row_some h1 h0
    refine ⟨some ⟨g, 0, none⟩, cap, rfl, fun i b hi => ⟨_, rfl, hg, ?_⟩⟩
    have hadd : (⟨g, 0, none⟩ : Addr).add i = ⟨g, i, none⟩ := by unfold Addr.add; split <;> simp_all
    rw [hadd]
    exact hc i _ (by rw [List.getElem?_map, hi]; rfl)
theorem bl_drewN {B : Nat} {a w : World} (h : Below B a w) (n : Nat) : Below B a (w.drewN n) := ⟨h.os, h.tape, h.output, h.size, h.block⟩
theorem bs_inj {a b : List UInt8} (h : bs a = bs b) : a = b := by
  have := congrArg (fun s => s.data.toList) h
  simpa using this
theorem bs_ne {a b : List UInt8} : ((bs a).toList != (bs b).toList) = (a != b) := by
  rw [Lib.toList_data, Lib.toList_data]
theorem bs_eq {a b : List UInt8} : ((bs a).toList == (bs b).toList) = (a == b) := by
  rw [Lib.toList_data, Lib.toList_data]
theorem meas (N k : Nat) (v : Value) (h : v = .int .i64 ((k : Int) + 1)) (hk : k < N) : N - (intOf v).toNat < N - (intOf (.int .i64 (k : Int))).toNat := by
  subst h
  simp only [intOf]
  omega
set_option maxHeartbeats 2000000 in
theorem same_any (A B : Option Addr) (c d : Nat) (l m : List (List UInt8)) (V : World) (hA : StrRow V A l) (hB : StrRow V B m) (hl : l.length ≤ 1000000) : Calls Try.prog 12 #[.slice A l.length c, .slice B m.length d] V fun e V' => e = .returned (.bool (decide (l = m))) ∧ Below V.heap.size V V' := by
  obtain ⟨n, hn⟩ : ∃ n, l.length = n := ⟨_, rfl⟩
  obtain ⟨k0, hk0⟩ : ∃ n, m.length = n := ⟨_, rfl⟩
  rw [hn, hk0]
  by_cases hlm : n = k0
  · subst hlm
    have HN : Hid (l.length = n ∧ m.length = n) := Lib.hid ⟨hn, hk0⟩
    have HNB : Hid (n ≤ 1000000) := Lib.hid (by omega)
    have HA := Lib.hid hA
    have HB := Lib.hid hB
    clear hA hB hl hn hk0
    go_enter Try.func12, Try.ntmps12
    go_wp2_with fail
    go_loopw [5] (fun i wr => ∃ k : Nat, k ≤ n ∧ i = .int .i64 k ∧ Below V.heap.size V wr ∧ l.take k = m.take k) (fun i _ => n - (intOf i).toNat)
    case atStart => exact ⟨0, Nat.zero_le _, rfl, Below.refl _ _, rfl⟩
    case round =>
      obtain ⟨k, hk, rfl, hb, htk⟩ := hrel
      have HBW := Lib.hid hb
      have HTK := Lib.hid htk
      by_cases hlt : k < n
      · obtain ⟨x, hx⟩ : ∃ x, l[k]? = some x := ⟨_, List.getElem?_eq_getElem (by have := HN.out; omega)⟩
        obtain ⟨y, hy⟩ : ∃ y, m[k]? = some y := ⟨_, List.getElem?_eq_getElem (by have := HN.out; omega)⟩
        obtain ⟨a, e1, _, a1⟩ := (HA.out.keep hb) k x hx
        obtain ⟨b, e2, _, b1⟩ := (HB.out.keep hb) k y hy
        subst e1
        subst e2
        have HX := Lib.hid (And.intro hx hy)
        have hnb := HNB.out
        cases hxy : (x != y) with
        | true =>
          have hne : ((bs x).toList == (bs y).toList) = false := bs_eq.trans (by simpa using hxy)
          have HR : Hid (decide (l = m) = false) := Lib.hid (decide_eq_false fun e => by
            have h1 := HX.out.1
            have h2 := HX.out.2
            rw [e, h2] at h1
            injection h1 with h1
            rw [h1] at hxy
            simp at hxy)
          clear hb htk hx hy hxy
          generalize bs x = X at *
          generalize bs y = Y at *
          go_wp2_with fail
          go_quiet (fail)
          go_wp2
          go_ret
          rw [HR.out]
          exact ⟨rfl, bl_drewN HBW.out _⟩
        | false =>
          have hne : ((bs x).toList == (bs y).toList) = true := bs_eq.trans (by simpa using hxy)
          have HT2 : Hid (l.take (k + 1) = m.take (k + 1)) := Lib.hid (by
            have h1 := HX.out.1
            have h2 := HX.out.2
            have e : x = y := by simpa using hxy
            rw [List.take_add_one, List.take_add_one, h1, h2, e, HTK.out])
          clear hb htk hx hy hxy
          generalize bs x = X at *
          generalize bs y = Y at *
          go_wp2_with fail
          go_quiet (fail)
          go_wp2
          go_roundw
          case rel => exact ⟨k + 1, by omega, by go_num, bl_drewN HBW.out _, HT2.out⟩
          case measure => exact meas _ _ _ (by go_num) hlt
      · have hkk : ¬ (k : Int) < (n : Int) := by omega
        have HR : Hid (decide (l = m) = true) := Lib.hid (decide_eq_true (by
          have h1 := HN.out
          have h2 := HTK.out
          rw [List.take_of_length_le (by omega), List.take_of_length_le (by omega)] at h2
          exact h2))
        clear hb htk hk
        go_wp2
        go_ret
        rw [HR.out]
        exact ⟨rfl, HBW.out⟩
  · have hne : ((n : Int) == (k0 : Int)) = false := by simp; omega
    have hne2 : ((n : Int) != (k0 : Int)) = true := by simp; omega
    have HR : Hid (decide (l = m) = false) := Lib.hid (decide_eq_false fun e => hlm (by rw [← hn, ← hk0, e]))
    clear hA hB hl hn hk0 hlm
    go_enter Try.func12, Try.ntmps12
    go_wp2
    go_ret
    rw [HR.out]
    exact ⟨rfl, Below.refl _ _⟩
end Go.Proofs.Ytffmchbcpihjhaa.Wd
