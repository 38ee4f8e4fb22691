/-
  Layer 7 (footer): times, offsets and names are read back.
-/
import Derived.Test.YtakmnjlcnjkflaaDoorFoBack
namespace Go.Proofs.YtakmnjlcnjkflaaDoor.Fo
open Go.RowKit

/-- What follows does not begin with the byte c. -/
def Nx (c : Nat) (l : List UInt8) : Prop := ∀ b t, l = b :: t → b.toNat ≠ c
theorem Nx.nil (c : Nat) : Nx c [] := fun _ _ h => by cases h
theorem Nx.cons {c : Nat} {b : UInt8} (h : b.toNat ≠ c) (t : List UInt8) : Nx c (b :: t) := fun _ _ e => by cases e; exact h
theorem Nx.no {c : Nat} {l : List UInt8} (h : Nx c l) (w : Bool) : nextB c ⟨l, w⟩ = false := by
  cases l with
  | nil => rfl
  | cons b t => exact decide_eq_false (h b t rfl)
theorem Hd.nx {p : Nat → Bool} {l : List UInt8} (c : Nat) (h : ∀ b t, l = b :: t → p b.toNat = true) (hc : p c = false) : Nx c l := fun b t e hb => by
  have := h b t e
  rw [hb, hc] at this
  cases this
theorem w64_id {x : Int} (h1 : -1000000000 ≤ x) (h2 : x ≤ 1000000000) : w64 x = x := w_id (by omega) (by omega)
theorem hour_parts (n : Nat) (hn : n ≤ 700000) : n / 3600 < 1000 ∧ n % 3600 / 60 < 60 ∧ n % 60 < 60 ∧ (n : Int) = ((n / 3600 : Nat) : Int) * 3600 + ((n % 3600 / 60 : Nat) : Int) * 60 + ((n % 60 : Nat) : Int) := by
  refine ⟨?_, ?_, ?_, ?_⟩ <;> omega
theorem abs_a {n : Nat} (h1 : n % 3600 = 0) : absL n = dec (n / 3600) := by unfold absL; rw [if_pos h1, if_pos (by omega)]; simp
theorem abs_b {n : Nat} (h1 : n % 3600 ≠ 0) (h2 : n % 60 = 0) : absL n = dec (n / 3600) ++ sixL (n % 3600 / 60) := by unfold absL; rw [if_neg h1, if_pos h2]; simp
theorem abs_c {n : Nat} (h2 : n % 60 ≠ 0) : absL n = (dec (n / 3600) ++ sixL (n % 3600 / 60)) ++ sixL (n % 60) := by unfold absL; rw [if_neg (tm_zero h2), if_neg h2]; simp
theorem six_hd (n : Nat) (rest : List UInt8) : Hd dgt (sixL n ++ rest) := Hd.cons (by decide) _
theorem tim_app (n : Nat) (hn : n ≤ 700000) (rest : List UInt8) (w : Bool) (hd : Hd dgt rest) (hc : Nx 58 rest) :
    timV ⟨absL n ++ rest, w⟩ = (n : Int) ∧ timS ⟨absL n ++ rest, w⟩ = ⟨rest, w⟩ := by
  obtain ⟨p1, p2, p3, p4⟩ := hour_parts n hn
  have z1 : w64 (((n / 3600 : Nat) : Int) * 3600) = ((n / 3600 : Nat) : Int) * 3600 := w64_id (by omega) (by omega)
  have z2 : w64 (((n % 3600 / 60 : Nat) : Int) * 60) = ((n % 3600 / 60 : Nat) : Int) * 60 := w64_id (by omega) (by omega)
  have z3 : w64 (((n / 3600 : Nat) : Int) * 3600 + ((n % 3600 / 60 : Nat) : Int) * 60) = ((n / 3600 : Nat) : Int) * 3600 + ((n % 3600 / 60 : Nat) : Int) * 60 := w64_id (by omega) (by omega)
  have z4 : w64 (((n / 3600 : Nat) : Int) * 3600 + ((n % 3600 / 60 : Nat) : Int) * 60 + ((n % 60 : Nat) : Int)) = (n : Int) := by rw [← p4]; exact w64_id (by omega) (by omega)
  by_cases h1 : n % 3600 = 0
  · rw [abs_a h1]
    obtain ⟨v, s⟩ := num_1 (n / 3600) p1 rest w hd
    unfold timV timS
    simp only [v, s, hc.no, Bool.false_eq_true, if_false, z1]
    exact ⟨by omega, trivial⟩
  · by_cases h2 : n % 60 = 0
    · rw [abs_b h1 h2, List.append_assoc]
      obtain ⟨v, s⟩ := num_1 (n / 3600) p1 (sixL (n % 3600 / 60) ++ rest) w (six_hd _ _)
      obtain ⟨b1, v1, s1⟩ := six_app (n % 3600 / 60) p2 rest w hd
      unfold timV timS
      simp only [v, s, b1, v1, s1, hc.no, Bool.false_eq_true, if_false, if_true, z1, z2, z3]
      exact ⟨by omega, trivial⟩
    · rw [abs_c h2, List.append_assoc, List.append_assoc]
      obtain ⟨v, s⟩ := num_1 (n / 3600) p1 (sixL (n % 3600 / 60) ++ (sixL (n % 60) ++ rest)) w (six_hd _ _)
      obtain ⟨b1, v1, s1⟩ := six_app (n % 3600 / 60) p2 (sixL (n % 60) ++ rest) w (six_hd _ _)
      obtain ⟨b2, v2, s2⟩ := six_app (n % 60) p3 rest w hd
      unfold timV timS
      simp only [v, s, b1, v1, s1, b2, v2, s2, if_true, z1, z2, z3, z4]
      exact ⟨trivial, trivial⟩
theorem dec_head (n : Nat) (hn : n < 1000) : ∃ b t, dec n = b :: t ∧ dgt b.toNat = true := by
  obtain ⟨h1, h2, h3, h4⟩ := dec3_all ⟨n, hn⟩
  simp only [← dec_is n hn] at h1 h2 h3 h4
  cases hd : dec n with
  | nil => rw [hd] at h3; simp at h3
  | cons b t => rw [hd, List.all_cons, Bool.and_eq_true] at h2; exact ⟨b, t, rfl, h2.1⟩
theorem abs_head (n : Nat) (hn : n ≤ 700000) : ∃ b t, absL n = b :: t ∧ dgt b.toNat = true := by
  obtain ⟨b, t, h, hb⟩ := dec_head (n / 3600) (hour_parts n hn).1
  unfold absL
  rw [h]
  exact ⟨b, _, rfl, hb⟩
theorem dgt_ne {b : Nat} (h : dgt b = true) : b ≠ 43 ∧ b ≠ 45 ∧ b ≠ 60 ∧ b ≠ 44 ∧ b ≠ 74 ∧ b ≠ 77 ∧ ltr b = false := by
  unfold dgt at h
  simp only [decide_eq_true_eq] at h
  unfold ltr
  refine ⟨by omega, by omega, by omega, by omega, by omega, by omega, ?_⟩
  rw [decide_eq_false (by omega), decide_eq_false (by omega)]; rfl
theorem need_true (s : St) : s.need true = s := by unfold St.need; simp
theorem sgn_app (t : Int) (h1 : -700000 ≤ t) (h2 : t ≤ 700000) (rest : List UInt8) (w : Bool) (hd : Hd dgt rest) (hc : Nx 58 rest) :
    sgnV ⟨timL t ++ rest, w⟩ = t ∧ sgnS ⟨timL t ++ rest, w⟩ = ⟨rest, w⟩ := by
  have hn : t.natAbs ≤ 700000 := by omega
  obtain ⟨v, s⟩ := tim_app t.natAbs hn rest w hd hc
  unfold timL
  by_cases h : t < 0
  · rw [if_pos h]
    have b1 : nextB 45 ⟨45 :: absL t.natAbs ++ rest, w⟩ = true := rfl
    have e1 : nextS 45 ⟨45 :: absL t.natAbs ++ rest, w⟩ = ⟨absL t.natAbs ++ rest, w⟩ := rfl
    unfold sgnV sgnS
    rw [b1, e1, v, s]
    simp only [if_true]
    have ne : (((t.natAbs : Nat) : Int) != 0) = true := bne_iff_ne.mpr (by omega)
    rw [ne, need_true]
    exact ⟨(w64_id (by omega) (by omega)).trans (by omega), rfl⟩
  · rw [if_neg h]
    obtain ⟨b, l, hb, hg⟩ := abs_head _ hn
    have b1 : nextB 45 ⟨absL t.natAbs ++ rest, w⟩ = false := by rw [hb]; exact decide_eq_false (dgt_ne hg).2.1
    unfold sgnV sgnS
    rw [b1, v, s]
    simp only [Bool.false_eq_true, if_false]
    exact ⟨by omega, trivial⟩
theorem tim_head (t : Int) (h1 : -700000 ≤ t) (h2 : t ≤ 700000) : ∃ b l, timL t = b :: l ∧ (b.toNat = 45 ∨ dgt b.toNat = true) := by
  unfold timL
  by_cases h : t < 0
  · rw [if_pos h]; exact ⟨45, _, rfl, .inl rfl⟩
  · rw [if_neg h]
    obtain ⟨b, l, hb, hg⟩ := abs_head t.natAbs (by omega)
    exact ⟨b, l, hb, .inr hg⟩
theorem off_app (t : Int) (h1 : -700000 ≤ t) (h2 : t ≤ 700000) (rest : List UInt8) (w : Bool) (hd : Hd dgt rest) (hc : Nx 58 rest) :
    offV ⟨timL t ++ rest, w⟩ = -t ∧ offS ⟨timL t ++ rest, w⟩ = ⟨rest, w⟩ := by
  obtain ⟨v, s⟩ := sgn_app t h1 h2 rest w hd hc
  have b1 : nextB 43 ⟨timL t ++ rest, w⟩ = false := by
    obtain ⟨b, l, hb, hg⟩ := tim_head t h1 h2
    rw [hb]
    refine decide_eq_false ?_
    rcases hg with hg | hg
    · omega
    · exact (dgt_ne hg).1
  unfold offV offS
  rw [b1, v, s]
  simp only [Bool.false_eq_true, if_false]
  exact ⟨w64_id (by omega) (by omega), trivial⟩
/-! ### Names -/
theorem ltr_ne {b : Nat} (h : ltr b = true) : b ≠ 60 ∧ dgt b = false ∧ b ≠ 58 ∧ b ≠ 44 := by
  unfold ltr at h
  simp only [Bool.or_eq_true, decide_eq_true_eq] at h
  unfold dgt
  refine ⟨by omega, decide_eq_false (by omega), by omega, by omega⟩
theorem nam_app (l rest : List UInt8) (w : Bool) (hn : nameB l = true) (hr : Hd ltr rest) : namV ⟨namL l ++ rest, w⟩ = l ∧ namS ⟨namL l ++ rest, w⟩ = ⟨rest, w⟩ := by
  unfold nameB at hn
  rw [Bool.and_eq_true] at hn
  obtain ⟨hl, hm⟩ := hn
  unfold namL
  by_cases ha : (l.all fun b => ltr b.toNat) = true
  · rw [if_pos ha]
    obtain ⟨v, s⟩ := run_app w ha hr
    have b1 : nextB 60 ⟨l ++ rest, w⟩ = false := by
      cases l with
      | nil => unfold inB at hl; simp at hl
      | cons b t => rw [List.all_cons, Bool.and_eq_true] at ha; exact decide_eq_false (ltr_ne ha.1).1
    unfold namV namS
    rw [b1, v, s]
    simp only [Bool.false_eq_true, if_false]
    exact ⟨trivial, trivial⟩
  · rw [if_neg ha]
    have b1 : nextB 60 ⟨(60 :: l ++ [62]) ++ rest, w⟩ = true := rfl
    have e1 : nextS 60 ⟨(60 :: l ++ [62]) ++ rest, w⟩ = ⟨l ++ (62 :: rest), w⟩ := by
      show (⟨(l ++ [62]) ++ rest, w⟩ : St) = _
      rw [List.append_assoc]; rfl
    obtain ⟨v, s⟩ := run_app (rest := 62 :: rest) w hm (Hd.cons (by decide) _)
    unfold namV namS
    rw [b1, e1]
    simp only [if_true, v, s]
    have b2 : nextB 62 ⟨62 :: rest, w⟩ = true := rfl
    have e2 : nextS 62 ⟨62 :: rest, w⟩ = ⟨rest, w⟩ := rfl
    rw [b2, e2, need_true]
    exact ⟨trivial, rfl⟩
theorem nam_head (l : List UInt8) (hn : nameB l = true) : ∃ b t, namL l = b :: t ∧ (b.toNat = 60 ∨ ltr b.toNat = true) := by
  unfold nameB at hn
  rw [Bool.and_eq_true] at hn
  unfold namL
  by_cases ha : (l.all fun b => ltr b.toNat) = true
  · rw [if_pos ha]
    cases l with
    | nil => have := hn.1; unfold inB at this; simp at this
    | cons b t => rw [List.all_cons, Bool.and_eq_true] at ha; exact ⟨b, t, rfl, .inr ha.1⟩
  · rw [if_neg ha]; exact ⟨60, _, rfl, .inl rfl⟩
end Go.Proofs.YtakmnjlcnjkflaaDoor.Fo
