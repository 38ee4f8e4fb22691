/-
  Layer 6 (tzif): the law TzifMore, whole.
-/
import Derived.Test.YtohpdpcjhmopbaaTzU
import Derived.Test.YtohpdpcjhmopbaaTzRow
namespace Go.Proofs.Ytohpdpcjhmopbaa.Tz
open Go.RowKit

theorem ok_of_few {z : Zn} (hi : ZnIn z) {n : Int} (hn : n ≤ 1000000) (h : fewZ z n = true) : ZnOk z := by
  unfold fewZ at h
  simp only [Bool.and_eq_true, decide_eq_true_eq] at h
  exact ⟨by omega, by omega, by omega, fun t ht => (hi.types t ht).abbr, hi.footer⟩
theorem tzifMore_any (z : Zn) (vt vs vi : Value) (sec more idx : Int) (w : World) (h : ZnAt w w.heap.size z vt vs vi) (hi : ZnIn z) (hm : 0 ≤ more ∧ more ≤ 4294967295) :
    Calls Try.prog 6 #[.agg #[vt, vs, vi, .string z.footer], .int .i64 sec, .int .u32 more, .int .i64 idx] w fun e w' => e = .returned (.bool true) ∧ Below w.heap.size w w' := by
  cases hf : fewZ z 500 with
  | false => exact more_a z vt vs vi w.heap.size sec more idx w h (Nat.le_refl _) hf
  | true =>
    have ho := ok_of_few hi (by decide) hf
    cases hr : rightZ z with
    | false => exact more_b z vt vs vi w.heap.size sec more idx w h (Nat.le_refl _) hf ho hr
    | true =>
      by_cases h1 : 499 ≤ z.times.length
      · exact more_c z vt vs vi w.heap.size sec more idx w h (Nat.le_refl _) hf ho hr h1
      · by_cases h2 : idx < 0
        · exact more_d z vt vs vi w.heap.size sec more idx w h (Nat.le_refl _) hf ho hr (by omega) h2
        · by_cases h3 : (z.types.length : Int) ≤ idx
          · exact more_e z vt vs vi w.heap.size sec more idx w h (Nat.le_refl _) hf ho hr (by omega) (by omega) h3
          · cases hl : z.times.length with
            | zero =>
              by_cases hs : 1 + more ≤ sec
              · exact more_n z vt vs vi w.heap.size sec more idx w h (Nat.le_refl _) hf ho hr (by omega) (by omega) (by omega) hm.1 hm.2 hl hs
              · exact more_m z vt vs vi w.heap.size sec more idx w h (Nat.le_refl _) hf ho hr (by omega) (by omega) (by omega) hm.1 hm.2 hl hs
            | succ j =>
              obtain ⟨last, hx⟩ : ∃ x, z.times[j]? = some x := ⟨_, List.getElem?_eq_getElem (by omega)⟩
              have hb := hi.times last (List.mem_of_getElem? hx)
              by_cases hq : 4611686018427387904 < last
              · exact more_f z vt vs vi w.heap.size sec more idx w h (Nat.le_refl _) hf ho hr (by omega) (by omega) (by omega) j hl last hx hq
              · by_cases hs : last + 1 + more ≤ sec
                · exact more_s z vt vs vi w.heap.size sec more idx w h (Nat.le_refl _) hf ho hr (by omega) (by omega) (by omega) hm.1 hm.2 j hl last hx (by omega) hb.lo hs
                · exact more_t z vt vs vi w.heap.size sec more idx w h (Nat.le_refl _) hf ho hr (by omega) (by omega) (by omega) hm.1 hm.2 j hl last hx (by omega) hb.lo hs
end Go.Proofs.Ytohpdpcjhmopbaa.Tz
