/-
  Layer 12 (words): what stands behind a backslash, as the machine takes it.
-/
import Derived.Test.YtffmchbcpihjhaaWdEsc
namespace Go.Proofs.Ytffmchbcpihjhaa.Wd
open Go.RowKit
set_option maxRecDepth 100000

/-- What escaped answers. -/
def Esc (r : List UInt8) (v : Int) (ok : Bool) (r' : List UInt8) : Prop := r'.length ≤ r.length ∧
  ((ok = true ∧ ∃ x : UInt8, v = (x.toNat : Int) ∧ ∀ q ws cur, run (some ⟨.E q, ws, cur⟩) r = run (some ⟨.Q q, ws, cur ++ [x]⟩) r') ∨ (ok = false ∧ ∀ q ws cur, fin (run (some ⟨.E q, ws, cur⟩) r) = none))
theorem run_x (t : List UInt8) (q : UInt8) (ws : List (List UInt8)) (cur : List UInt8) : run (some ⟨.E q, ws, cur⟩) (120 :: t) = run (some ⟨.X q, ws, cur⟩) t := by
  rw [run_cons]; unfold step; simp only [if_true]
theorem run_xa (a : UInt8) (t : List UInt8) (q : UInt8) (ws : List (List UInt8)) (cur : List UInt8) : run (some ⟨.X q, ws, cur⟩) (a :: t) = match hexN a with
    | some d => run (some ⟨.Y q d, ws, cur⟩) t
    | none => none := by
  rw [run_cons]; unfold step; simp only
  cases hexN a with
  | none => exact run_none t
  | some d => rfl
theorem run_yb (d : Nat) (b : UInt8) (t : List UInt8) (q : UInt8) (ws : List (List UInt8)) (cur : List UInt8) : run (some ⟨.Y q d, ws, cur⟩) (b :: t) = match hexN b with
    | some f => run (some ⟨.Q q, ws, cur ++ [UInt8.ofNat (d * 16 + f)]⟩) t
    | none => none := by
  rw [run_cons]; unfold step; simp only
  cases hexN b with
  | none => exact run_none t
  | some d => rfl
theorem run_e (c : UInt8) (hc : c ≠ 120) (t : List UInt8) (q : UInt8) (ws : List (List UInt8)) (cur : List UInt8) : run (some ⟨.E q, ws, cur⟩) (c :: t) = match esc1 c with
    | some x => run (some ⟨.Q q, ws, cur ++ [x]⟩) t
    | none => none := by
  rw [run_cons]; unfold step; simp only; rw [if_neg hc]
  cases esc1 c with
  | none => exact run_none t
  | some d => rfl
set_option maxHeartbeats 1600000 in
theorem escaped_any (r : List UInt8) (rb mb : Nat) (V : World) (h : Rd V rb mb r) : Calls Try.prog 28 #[.pointer (some ⟨rb, 0, none⟩)] V fun e V' => ∃ v ok r', e = .returned (.tuple #[.int .u8 v, .bool ok]) ∧ Rd V' rb mb r' ∧ V.grownBy V' (some rb) ∧ Esc r v ok r' := by
  have c0 := h.c0
  have H := Lib.hid h
  clear h
  cases r with
  | nil =>
    have hem : (bs ([] : List UInt8)).toList.isEmpty = true := bs_empty []
    generalize bs ([] : List UInt8) = S at *
    go_enter Try.func28, Try.ntmps28
    go_wp2
    go_ret2
    exact ⟨0, false, [], rfl, H.out, grown_refl _ _, Nat.le_refl _, .inr ⟨rfl, fun q ws cur => rfl⟩⟩
  | cons c t =>
    have hem : (bs (c :: t)).toList.isEmpty = false := bs_empty _
    generalize bs (c :: t) = S at *
    by_cases hc : c = 120
    · subst hc
      have HTW : Hid (∀ W, Rd W rb mb t → Calls Try.prog 32 #[.pointer (some ⟨rb, 0, none⟩)] W fun e V' => ∃ v ok r', e = .returned (.tuple #[.int .u8 v, .bool ok]) ∧ Rd V' rb mb r' ∧ W.grownBy V' (some rb) ∧ Esc (120 :: t) v ok r') := Lib.hid fun W hW => by
        match t, hW with
        | [], hW =>
          refine (two_short [] rb mb W hW (by decide)).mono ?_
          rintro e V' ⟨rfl, rfl⟩
          exact ⟨0, false, [], rfl, hW, grown_refl _ _, Nat.zero_le _, .inr ⟨rfl, fun q ws cur => by rw [run_x]; rfl⟩⟩
        | [a], hW =>
          refine (two_short [a] rb mb W hW (by show 1 < 2; decide)).mono ?_
          rintro e V' ⟨rfl, rfl⟩
          refine ⟨0, false, [a], rfl, hW, grown_refl _ _, by simp, .inr ⟨rfl, fun q ws cur => ?_⟩⟩
          rw [run_x, run_xa]
          cases hexN a <;> rfl
        | a :: b :: t', hW =>
          cases ha : hexN a with
          | none =>
            refine (two_no a b t' (.inl ha) rb mb W hW).mono ?_
            rintro e V' ⟨v, rfl, hR, hG⟩
            refine ⟨v, false, t', rfl, hR, hG, by simp only [List.length_cons]; omega, .inr ⟨rfl, fun q ws cur => ?_⟩⟩
            rw [run_x, run_xa, ha]; rfl
          | some d =>
            cases hb : hexN b with
            | none =>
              refine (two_no a b t' (.inr hb) rb mb W hW).mono ?_
              rintro e V' ⟨v, rfl, hR, hG⟩
              refine ⟨v, false, t', rfl, hR, hG, by simp only [List.length_cons]; omega, .inr ⟨rfl, fun q ws cur => ?_⟩⟩
              rw [run_x, run_xa, ha]
              simp only
              rw [run_yb, hb]; rfl
            | some f =>
              refine (two_yes a b t' d f ha hb rb mb W hW).mono ?_
              rintro e V' ⟨rfl, hR, hG⟩
              refine ⟨_, true, t', rfl, hR, hG, by simp only [List.length_cons]; omega, .inl ⟨rfl, _, rfl, fun q ws cur => ?_⟩⟩
              rw [run_x, run_xa, ha]
              simp only
              rw [run_yb, hb]
      have h120 : (((120 : UInt8).toNat : Int) == 120) = true := rfl
      go_enter Try.func28, Try.ntmps28
      go_wp2_with (first
        | (go_at_call 26; refine (next_at 120 t rb mb V H.out).mono ?_; rintro e W1 ⟨rfl, hR, hG⟩; have H1 := Lib.hid hR; have G1 := Lib.hid hG; clear hR hG H)
        | (go_at_call 32; refine (HTW.out W1 H1.out).mono ?_; rintro e W2 ⟨v, ok, r', rfl, hR, hG, hE⟩; have H2 := Lib.hid hR; have G2 := Lib.hid (grown_trans G1.out hG); have HE := Lib.hid hE; clear hR hG hE)
        | fail)
      go_ret2
      exact ⟨v, ok, r', rfl, H2.out, G2.out, HE.out⟩
    · have e1 : ((c.toNat : Int) == 120) = false := (u8_is c 120 (by decide)).trans (beq_eq_false_iff_ne.mpr hc)
      have HE : Hid ((∃ x : UInt8, escV c = .tuple #[.int .u8 x.toNat, .bool true] ∧ Esc (c :: t) (x.toNat : Int) true t) ∨ (escV c = .tuple #[.int .u8 0, .bool false] ∧ Esc (c :: t) 0 false t)) := Lib.hid (by
        unfold escV
        cases he : esc1 c with
        | none => exact .inr ⟨rfl, by simp, .inr ⟨rfl, fun q ws cur => by rw [run_e c hc, he]; rfl⟩⟩
        | some x => exact .inl ⟨x, rfl, by simp, .inl ⟨rfl, x, rfl, fun q ws cur => by rw [run_e c hc, he]⟩⟩)
      clear hc
      rcases HE.out with ⟨x, hv, hE⟩ | ⟨hv, hE⟩
      all_goals
        have HES := Lib.hid hE
        have HV := Lib.hid hv
        clear hE hv HE
        go_enter Try.func28, Try.ntmps28
        go_wp2_with (first
          | (go_at_call 26; refine (next_at c t rb mb V H.out).mono ?_; rintro e W1 ⟨rfl, hR, hG⟩; have H1 := Lib.hid hR; have G1 := Lib.hid hG; have c1 := hR.c1; have lk := hR.lk W1 rfl c; rw [HV.out] at lk; clear hR hG H)
          | fail)
        go_ret2
        exact ⟨_, _, t, rfl, H1.out, G1.out, HES.out⟩
end Go.Proofs.Ytffmchbcpihjhaa.Wd
