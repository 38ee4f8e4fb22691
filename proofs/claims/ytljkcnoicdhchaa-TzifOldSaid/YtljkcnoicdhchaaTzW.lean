/-
  Layer 6 (tzif): the document's At.
-/
import Derived.Test.YtljkcnoicdhchaaTzV
namespace Go.Proofs.Ytljkcnoicdhchaa.Tz
open Go.RowKit

theorem rises_le2 : ∀ {l : List Int}, rises l = true → ∀ (i j : Nat) (a b : Int), i ≤ j → l[i]? = some a → l[j]? = some b → a ≤ b := fun {l} hr i j a b hij ha hb => by
  induction j generalizing b with
  | zero => obtain rfl : i = 0 := by omega
            rw [ha] at hb; injection hb with hb; omega
  | succ j ih =>
    by_cases e : i = j + 1
    · subst e; rw [ha] at hb; injection hb with hb; omega
    · obtain ⟨c, hc⟩ : ∃ c, l[j]? = some c := ⟨_, List.getElem?_eq_getElem (by have := (List.getElem?_eq_some_iff.1 hb).1; omega)⟩
      have h1 := ih c (by omega) hc
      have h2 := rises_of hr j c b hc hb
      omega
set_option maxRecDepth 100000 in
set_option maxHeartbeats 2000000 in
theorem rat_any (z : Zn) (vt vs vi : Value) (B : Nat) (sec : Int) (w : World) (h : ZnAt w B z vt vs vi) (ho : ZnOk z) (hB : B ≤ w.heap.size) : Calls Try.prog 16 #[.agg #[vt, vs, vi, .string z.footer], .int .i64 sec] w fun e w' => e = .returned (.int .i64 (atZ z sec)) ∧ Below w.heap.size w w' := by
  obtain ⟨At, ct, rfl⟩ := h.types.len
  obtain ⟨As, cs, rfl⟩ := h.times.len
  obtain ⟨Ai, ci, rfl⟩ := h.index.len
  obtain ⟨W0, hW0⟩ : ∃ W0, w.alloc (.cells #[.slice At z.types.length ct, .slice As z.times.length cs, .slice Ai z.index.length ci, .string z.footer] 31) = W0 := ⟨_, rfl⟩
  have HB0 : Hid (Below w.heap.size w W0) := Lib.hid (by rw [← hW0]; exact (Below.refl _ _).alloc (Nat.le_refl _) _)
  have HSZ : Hid (W0.heap.size = w.heap.size + 1) := Lib.hid (by rw [← hW0]; simp)
  have HC : Hid (∀ V, Below W0.heap.size W0 V → ∀ i u, (#[.slice At z.types.length ct, .slice As z.times.length cs, .slice Ai z.index.length ci, .string z.footer] : Array Value)[i]? = some u → V.cell? ⟨w.heap.size, i, none⟩ = some u) := Lib.hid fun V hb i u hu => cells_at w.heap.size hb (by rw [HSZ.out]; omega) (by rw [← hW0]; exact cell_new w _ _ _ i u rfl hu)
  have HZ : Hid (∀ V, Below W0.heap.size W0 V → ZnAt V B z (.slice At z.types.length ct) (.slice As z.times.length cs) (.slice Ai z.index.length ci)) := Lib.hid fun V hb => (h.below HB0.out hB).below hb (by rw [HSZ.out]; omega)
  have HB : Hid (Below W0.heap.size W0 W0) := Lib.hid (Below.refl _ _)
  obtain ⟨r, hr⟩ : ∃ r, rightZ z = r := ⟨_, rfl⟩
  have HRT : Hid (Calls Try.prog 12 #[.agg #[.slice At z.types.length ct, .slice As z.times.length cs, .slice Ai z.index.length ci, .string z.footer]] W0 fun e V => e = .returned (.bool r) ∧ Below W0.heap.size W0 V) := by
    have := rright_any z _ _ _ B W0 (HZ.out W0 HB.out) ho (by rw [HSZ.out]; omega)
    rw [hr] at this
    exact Lib.hid this
  obtain ⟨a, ha⟩ : ∃ a, atZ z sec = a := ⟨_, rfl⟩
  rw [ha]
  have HA := Lib.hid ha; have HR := Lib.hid hr
  have q0 := HC.out _ HB.out 0 _ rfl; have q1 := HC.out _ HB.out 1 _ rfl; have q2 := HC.out _ HB.out 2 _ rfl; have q3 := HC.out _ HB.out 3 _ rfl
  obtain ⟨l1, l2, l3, _, l5⟩ := ho
  clear ha hr h
  cases r with
  | false =>
    have e : a = 0 := by rw [← HA.out]; unfold atZ; rw [HR.out, if_neg (by simp)]
    subst e
    go_enter Try.func16, Try.ntmps16
    go_wp2_with (first
      | (go_at_call 12; refine HRT.out.mono ?_; clear HRT; rintro e V ⟨rfl, hb⟩; have HV := Lib.hid (HB0.out.trans (hb.mono HB0.out.size)); clear hb)
      | fail)
    go_ret
    exact ⟨rfl, HV.out⟩
  | true =>
    obtain ⟨hri, hle⟩ := right_parts HR.out
    have HRI := Lib.hid hri; have HLE := Lib.hid hle
    clear hri hle
    go_enter Try.func16, Try.ntmps16
    go_wp2_with (first
      | (go_at_call 12; refine HRT.out.mono ?_; clear HRT; rintro e V ⟨rfl, hb⟩; have HV := Lib.hid hb; clear hb q0 q1 q2 q3; have q0 := HC.out _ HV.out 0 _ rfl; have q1 := HC.out _ HV.out 1 _ rfl; have q2 := HC.out _ HV.out 2 _ rfl; have q3 := HC.out _ HV.out 3 _ rfl)
      | fail)
    go_loopw [5] (fun i wr => ∃ k : Nat, k ≤ z.times.length ∧ i = .int .i64 ((k : Int) - 1) ∧ (∀ j x, k ≤ j → z.times[j]? = some x → sec < x) ∧ wr = V) (fun i _ => (intOf i + 1).toNat)
    case atStart => exact ⟨z.times.length, Nat.le_refl _, rfl, fun j x hj hx => absurd (List.getElem?_eq_some_iff.1 hx).1 (by omega), rfl⟩
    case round =>
      obtain ⟨k, hk, rfl, hall, rfl⟩ := hrel
      have HALL := Lib.hid hall
      clear hall
      match k, hk, HALL with
      | 0, hk, HALL =>
        have hb0 : begun z.times sec = 0 := begun_is (Nat.zero_le _) (fun t x ht => absurd ht (by omega)) HALL.out
        have hav : a = max (firstStd z.types) 0 := by rw [← HA.out]; unfold atZ; rw [HR.out, if_pos rfl, hb0, if_neg (by omega)]
        have HAV := Lib.hid hav
        clear hav hb0
        go_wp2_with fail
        obtain ⟨wA, hwA⟩ : ∃ wA : World, wr = wA := ⟨_, rfl⟩
        rw [hwA] at HV q0 q1 q2 q3 ⊢
        clear hwA
        go_loopw [6] (fun i wr => ∃ k : Nat, k ≤ z.types.length ∧ i = .int .i64 k ∧ (∀ j x, j < k → z.types[j]? = some x → x.dst = true) ∧ wr = wA) (fun i _ => z.types.length - (intOf i).toNat)
        case atStart => exact ⟨0, Nat.zero_le _, rfl, fun j x hj => absurd hj (by omega), rfl⟩
        case round =>
          obtain ⟨k, hk, rfl, hall, rfl⟩ := hrel
          have HDL := Lib.hid hall
          clear hall
          by_cases hlt : k < z.types.length
          · have hk0 : (0 : Int) ≤ (k : Int) := by omega
            have hk1 : (k : Int) < (z.types.length : Int) := by omega
            obtain ⟨x, hx⟩ : ∃ x, z.types[k]? = some x := ⟨_, List.getElem?_eq_getElem hlt⟩
            obtain ⟨g, off, c', hv, hg, c0, c1, c2⟩ := (HZ.out _ HV.out).types.ty hx
            injection hv with ea _ ec
            subst ea; subst ec
            have HX := Lib.hid hx
            obtain ⟨d, hd⟩ : ∃ d, x.dst = d := ⟨_, rfl⟩
            rw [hd] at c1
            have HD := Lib.hid hd
            clear hx hd
            cases d with
            | false =>
              go_wp2_with fail
              go_ret
              exact ⟨by rw [HAV.out, firstStd_is HDL.out HX.out HD.out, show max (k : Int) 0 = (k : Int) by omega]; rfl, HB0.out.trans (HV.out.mono HB0.out.size)⟩
            | true =>
              go_wp2_with fail
              refine ⟨⟨k + 1, hlt, by go_num, fun j y hj hy => ?_, by first | rfl | trivial⟩, by simp [intOf]; omega⟩
              by_cases e : j = k
              · subst e
                rw [HX.out] at hy; injection hy with hy
                rw [← hy]; exact HD.out
              · exact HDL.out j y (by omega) hy
          · have hk1 : ¬ (k : Int) < (z.types.length : Int) := by omega
            go_wp2_with fail
            go_ret
            exact ⟨by rw [HAV.out, firstStd_no (fun x hx => by obtain ⟨j, hj⟩ := List.getElem?_of_mem hx; exact HDL.out j x (by have := (List.getElem?_eq_some_iff.1 hj).1; omega) hj)]; rfl, HB0.out.trans (HV.out.mono HB0.out.size)⟩
      | j + 1, hk, HALL =>
        have hj0 : (0 : Int) ≤ (j : Int) := by omega
        have hj1 : (j : Int) < (z.times.length : Int) := by omega
        have hj2 : (j : Int) < (z.index.length : Int) := by have := HLE.out; omega
        rw [show ((j + 1 : Nat) : Int) - 1 = (j : Int) by omega]
        obtain ⟨x, hx⟩ : ∃ x, z.times[j]? = some x := ⟨_, List.getElem?_eq_getElem (by omega)⟩
        obtain ⟨y, hy⟩ : ∃ y, z.index[j]? = some y := ⟨_, List.getElem?_eq_getElem (by have := HLE.out; omega)⟩
        obtain ⟨g, off, c', hv, hg, c0⟩ := (HZ.out _ HV.out).times.one hx
        injection hv with ea _ ec
        subst ea; subst ec
        obtain ⟨g2, off2, c2', hv2, hg2, c2⟩ := (HZ.out _ HV.out).index.one hy
        injection hv2 with ea _ ec
        subst ea; subst ec
        have HX := Lib.hid hx; have HY := Lib.hid hy
        clear hx hy
        by_cases hs : x ≤ sec
        · have hbg : begun z.times sec = j + 1 := begun_is hk (fun t u ht hu => by have := rises_le2 HRI.out t j u x (by omega) hu HX.out; omega) HALL.out
          have hav : a = y := by rw [← HA.out]; unfold atZ; rw [HR.out, if_pos rfl, hbg, if_pos (by omega), Nat.add_sub_cancel, HY.out]; rfl
          subst hav
          clear hbg
          go_wp2_with fail
          go_ret
          exact ⟨rfl, HB0.out.trans (HV.out.mono HB0.out.size)⟩
        · go_wp2_with fail
          refine ⟨⟨j, by omega, by first | rfl | go_num, fun i u hi hu => ?_, by first | rfl | trivial⟩, by simp [intOf]⟩
          by_cases e : i = j
          · subst e
            rw [HX.out] at hu; injection hu with hu; omega
          · exact HALL.out i u (by omega) hu
end Go.Proofs.Ytljkcnoicdhchaa.Tz
