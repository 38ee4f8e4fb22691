/-
  Layer 11 (lines): the document's own trim.
-/
import Derived.Test.YtokeepmlibolfaaDoorLnKey
namespace Go.Proofs.YtokeepmlibolfaaDoor.Ln
open Go.RowKit
set_option maxRecDepth 100000

/-- A blank. -/
def blk (b : UInt8) : Bool := ([9, 32] : List UInt8).contains b
theorem blk_eq (b : UInt8) : blk b = (b == 32 || b == 9) := by
  unfold blk
  simp only [List.contains_cons, List.contains_nil, Bool.or_false]
  exact Bool.or_comm _ _
theorem u8_is (b : UInt8) (c : Nat) (hc : c < 256) : ((b.toNat : Int) == (c : Int)) = (b == UInt8.ofNat c) := by
  have h : (UInt8.ofNat c).toNat = c := by rw [UInt8.toNat_ofNat']; omega
  by_cases e : b = UInt8.ofNat c
  · subst e
    rw [h]; simp
  · have h1 : b.toNat ≠ c := fun e2 => e (UInt8.toNat_inj.mp (by rw [h]; exact e2))
    rw [beq_eq_false_iff_ne.mpr e, beq_eq_false_iff_ne.mpr (by omega)]
theorem rblank_at (b : UInt8) (r : Bool) (w : World) (hr : blk b = r) : Calls Tryd.prog 32 #[.int .u8 (b.toNat : Int)] w fun e w' => e = .returned (.bool r) ∧ w = w' := by
  rw [blk_eq] at hr
  have e1 := u8_is b 32 (by decide)
  have e2 := u8_is b 9 (by decide)
  have hr2 : (((b.toNat : Int) == 32) || ((b.toNat : Int) == 9)) = r := by rw [← hr]; exact congr (congrArg or e1) e2
  clear e1 e2 hr
  generalize (b.toNat : Int) = x at *
  cases h1 : (x == 32) with
  | true =>
    rw [h1] at hr2
    have hr3 : true = r := hr2
    subst hr3
    clear hr2
    go_enter Tryd.func32, Tryd.ntmps32
    go_wp2
    go_ret
    exact ⟨rfl, rfl⟩
  | false =>
    rw [h1, Bool.false_or] at hr2
    go_enter Tryd.func32, Tryd.ntmps32
    go_wp2
    go_ret
    exact ⟨rfl, rfl⟩
/-- Where a text without blanks at its ends begins, and where it ends. -/
theorem trim_cut (l : List UInt8) (a b : Nat) (hab : a ≤ b) (hb : b ≤ l.length) (h1 : ∀ j, j < a → blk (l.getD j 0) = true) (h2 : a < b → blk (l.getD a 0) = false) (h3 : ∀ j, b ≤ j → j < l.length → blk (l.getD j 0) = true) (h4 : a < b → blk (l.getD (b - 1) 0) = false) (h5 : a = b → a = l.length) : trimL l = (l.take b).drop a := by
  have at' : ∀ {j : Nat} {x : UInt8}, l[j]? = some x → j < l.length ∧ l.getD j 0 = x := fun {j x} h => ⟨(List.getElem?_eq_some_iff.1 h).1, by rw [List.getD_eq_getElem?_getD, h]; rfl⟩
  unfold trimL Lib.trimS
  rcases Nat.lt_or_ge a b with h | h
  · rw [Lib.trimRightS_take l [9, 32] b hb (fun j x hj hx => by obtain ⟨p, q⟩ := at' hx; have := h3 j hj p; rw [q] at this; exact this) (fun x _ hx => by obtain ⟨p, q⟩ := at' hx; have := h4 h; rw [q] at this; exact this)]
    refine Lib.trimLeftS_drop _ [9, 32] a (by rw [List.length_take]; omega) (fun j x hj hx => ?_) (fun x hx => ?_)
    · rw [List.getElem?_take, if_pos (by omega)] at hx
      obtain ⟨p, q⟩ := at' hx; have := h1 j hj; rw [q] at this; exact this
    · rw [List.getElem?_take, if_pos (by omega)] at hx
      obtain ⟨p, q⟩ := at' hx; have := h2 h; rw [q] at this; exact this
  · have e : a = b := by omega
    subst e
    have hl := h5 rfl
    rw [Lib.trimRightS_take l [9, 32] 0 (by omega) (fun j x _ hx => by obtain ⟨p, q⟩ := at' hx; have := h1 j (by omega); rw [q] at this; exact this) (fun x h0 => by omega)]
    rw [List.take_zero]
    simp [hl, Lib.trimLeftS]
/-- The first place that is no blank; behind the last one. -/
theorem ends_of (l : List UInt8) : ∃ a b, a ≤ b ∧ b ≤ l.length ∧ (∀ j, j < a → blk (l.getD j 0) = true) ∧ (a < b → blk (l.getD a 0) = false) ∧ (∀ j, b ≤ j → j < l.length → blk (l.getD j 0) = true) ∧ (a < b → blk (l.getD (b - 1) 0) = false) ∧ (a = b → a = l.length) := by
  rcases range_all (fun k => blk (l.getD k 0)) l.length with ⟨_, h⟩ | ⟨_, a, ha, h1, h2⟩
  · exact ⟨l.length, l.length, Nat.le_refl _, Nat.le_refl _, h, fun h => by omega, fun j h1 h2 => by omega, fun h => by omega, fun _ => rfl⟩
  · rcases range_all (fun k => blk (l.getD (l.length - 1 - k) 0)) l.length with ⟨_, h⟩ | ⟨_, c, hc, h3, h4⟩
    · have := h (l.length - 1 - a) (by omega)
      rw [show l.length - 1 - (l.length - 1 - a) = a by omega, h2] at this
      cases this
    · have hca : c ≤ l.length - 1 - a := by
        rcases Nat.lt_or_ge (l.length - 1 - a) c with h | h
        · have := h3 _ h
          rw [show l.length - 1 - (l.length - 1 - a) = a by omega, h2] at this
          cases this
        · exact h
      refine ⟨a, l.length - c, by omega, by omega, h1, fun _ => h2, fun j q1 q2 => ?_, fun _ => ?_, fun e => by omega⟩
      · have := h3 (l.length - 1 - j) (by omega)
        rwa [show l.length - 1 - (l.length - 1 - j) = j by omega] at this
      · rwa [show l.length - c - 1 = l.length - 1 - c by omega]
end Go.Proofs.YtokeepmlibolfaaDoor.Ln
