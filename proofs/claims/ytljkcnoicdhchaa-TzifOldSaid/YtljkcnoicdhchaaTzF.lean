/-
  Layer 6 (tzif): the program's At.
-/
import Derived.Test.YtljkcnoicdhchaaTzE
namespace Go.Proofs.Ytljkcnoicdhchaa.Tz
open Go.RowKit

/-! ### Plainly -/
/-- The first type that is not summer's; -1: there is none. -/
def firstStd : List Ty → Int
  | [] => -1
  | t :: l => if t.dst = false then 0 else if firstStd l < 0 then -1 else firstStd l + 1
/-- How many times have begun. -/
def begun (l : List Int) (sec : Int) : Nat := (l.takeWhile fun x => decide (x ≤ sec)).length
def atZ (z : Zn) (sec : Int) : Int := if rightZ z = true then (if 0 < begun z.times sec then (z.index[begun z.times sec - 1]?).getD 0 else max (firstStd z.types) 0) else 0
theorem begun_is {sec : Int} : ∀ {l : List Int} {k : Nat}, k ≤ l.length → (∀ t x, t < k → l[t]? = some x → x ≤ sec) → (∀ t x, k ≤ t → l[t]? = some x → sec < x) → begun l sec = k
  | [], k, hk, _, _ => by simp at hk; subst hk; rfl
  | a :: l, 0, _, _, h => by
    have h1 := h 0 a (Nat.zero_le _) rfl
    unfold begun
    rw [List.takeWhile_cons, if_neg (by simp; omega)]; rfl
  | a :: l, k + 1, hk, h1, h2 => by
    have h3 := h1 0 a (by omega) rfl
    have ih := begun_is (l := l) (k := k) (by simpa using hk) (fun t x ht hx => h1 (t + 1) x (by omega) (by simpa using hx)) (fun t x ht hx => h2 (t + 1) x (by omega) (by simpa using hx))
    unfold begun at *
    rw [List.takeWhile_cons, if_pos (by simpa using h3), List.length_cons, ih]
theorem firstStd_is : ∀ {l : List Ty} {k : Nat} {t : Ty}, (∀ j x, j < k → l[j]? = some x → x.dst = true) → l[k]? = some t → t.dst = false → firstStd l = k
  | [], _, _, _, h, _ => by simp at h
  | a :: l, 0, t, _, h, hd => by
    simp at h; subst h
    unfold firstStd; rw [if_pos hd]; rfl
  | a :: l, k + 1, t, hb, h, hd => by
    have ha := hb 0 a (by omega) rfl
    have ih := firstStd_is (l := l) (k := k) (fun j x hj hx => hb (j + 1) x (by omega) (by simpa using hx)) (by simpa using h) hd
    unfold firstStd
    rw [if_neg (by rw [ha]; simp), ih, if_neg (by omega)]
    omega
theorem firstStd_no : ∀ {l : List Ty}, (∀ x ∈ l, x.dst = true) → firstStd l = -1
  | [], _ => rfl
  | a :: l, h => by
    have ih := firstStd_no (l := l) fun x hx => h x (List.mem_cons_of_mem _ hx)
    unfold firstStd
    rw [if_neg (by rw [h a (List.mem_cons_self ..)]; simp), ih, if_pos (by omega)]

/-! ### In memory -/
theorem at2_any (t : Ty) (w : World) : Calls Try.prog 35 #[.agg #[.int .i64 t.off, .bool t.dst, .string t.abbr]] w fun e w' => e = .returned (.bool (!t.dst)) ∧ Below w.heap.size w w' := by
  obtain ⟨off, dst, abbr⟩ := t
  dsimp only
  go_enter Try.func35, Try.ntmps35
  go_wp2_with fail
  go_ret
  exact ⟨rfl, (Below.refl _ _).alloc (Nat.le_refl _) _⟩
set_option maxHeartbeats 1000000 in
theorem index_any (v : Value) (l : List Ty) (B : Nat) (w : World) (h : Sl w B 3 v (l.map tyCells)) (hB : B ≤ w.heap.size) (hl : l.length ≤ 1000000) : Calls Try.prog 34 #[v, .func (.func 35) #[] #[]] w fun e w' => e = .returned (.int .i64 (firstStd l)) ∧ Below w.heap.size w w' := by
  obtain ⟨A, c, rfl⟩ := h.len
  have H := Lib.hid h
  obtain ⟨r, hr⟩ : ∃ r, firstStd l = r := ⟨_, rfl⟩
  rw [hr]
  have HR := Lib.hid hr
  clear h hr
  go_enter Try.func34, Try.ntmps34
  go_wp2_with fail
  go_loopw [8] (fun i wr => ∃ k : Nat, k ≤ l.length ∧ i = .int .i64 k ∧ (∀ j x, j < k → l[j]? = some x → x.dst = true) ∧ Below w.heap.size w wr) (fun i _ => l.length - (intOf i).toNat)
  case atStart => exact ⟨0, Nat.zero_le _, rfl, fun j x hj => absurd hj (by omega), Below.refl _ _⟩
  case round =>
    obtain ⟨k, hk, rfl, hall, hbl⟩ := hrel
    have HALL := Lib.hid hall; have HBL := Lib.hid hbl
    clear hall hbl
    by_cases hlt : k < l.length
    · have hk0 : (0 : Int) ≤ (k : Int) := by omega
      have hk1 : (k : Int) < (l.length : Int) := by omega
      obtain ⟨x, hx⟩ : ∃ x, l[k]? = some x := ⟨_, List.getElem?_eq_getElem hlt⟩
      obtain ⟨g, off, c', hv, hg, c0, c1, c2⟩ := H.out.ty hx
      injection hv with e1 _ e3
      subst e1; subst e3
      have k0 := (HBL.out.cell (p := ⟨g, off + k * 3, none⟩) (Nat.lt_of_lt_of_le hg hB)).trans c0
      have k1 := (HBL.out.cell (p := ⟨g, off + k * 3 + 1, none⟩) (Nat.lt_of_lt_of_le hg hB)).trans c1
      have k2 := (HBL.out.cell (p := ⟨g, off + k * 3 + 2, none⟩) (Nat.lt_of_lt_of_le hg hB)).trans c2
      have HA := Lib.hid (at2_any x wr)
      have HX := Lib.hid hx
      clear hx c0 c1 c2
      obtain ⟨d, hd⟩ : ∃ d, x.dst = d := ⟨_, rfl⟩
      rw [hd] at HA k1
      have HD := Lib.hid hd
      clear hd
      cases d with
      | true =>
        go_wp2_with (first
          | (go_at_call 35; refine HA.out.mono ?_; clear HA; rintro e w1 ⟨rfl, hb⟩; have HB1 := Lib.hid hb; clear hb)
          | fail)
        refine ⟨⟨k + 1, hlt, by go_num, fun j y hj hy => ?_, HBL.out.trans (HB1.out.mono HBL.out.size)⟩, by simp [intOf]; omega⟩
        by_cases e : j = k
        · subst e
          rw [HX.out] at hy
          injection hy with hy
          rw [← hy]; exact HD.out
        · exact HALL.out j y (by omega) hy
      | false =>
        go_wp2_with (first
          | (go_at_call 35; refine HA.out.mono ?_; clear HA; rintro e w1 ⟨rfl, hb⟩; have HB1 := Lib.hid hb; clear hb)
          | fail)
        go_ret
        have : r = k := by rw [← HR.out]; exact firstStd_is HALL.out HX.out HD.out
        exact ⟨by rw [this]; rfl, HBL.out.trans (HB1.out.mono HBL.out.size)⟩
    · have hk1 : ¬ (k : Int) < (l.length : Int) := by omega
      go_wp2_with fail
      go_ret
      have : r = -1 := by
        rw [← HR.out]
        refine firstStd_no fun x hx => ?_
        obtain ⟨j, hj⟩ := List.mem_iff_getElem?.1 hx
        refine HALL.out j x ?_ hj
        have : j < l.length := by
          rcases Nat.lt_or_ge j l.length with h | h
          · exact h
          · rw [List.getElem?_eq_none h] at hj; cases hj
        omega
      exact ⟨by rw [this]; rfl, HBL.out⟩
end Go.Proofs.Ytljkcnoicdhchaa.Tz
