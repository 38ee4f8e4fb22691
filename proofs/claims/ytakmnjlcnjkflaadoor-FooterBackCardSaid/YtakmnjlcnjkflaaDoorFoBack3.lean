/-
  Layer 7 (footer): days and rules are read back.
-/
import Derived.Test.YtakmnjlcnjkflaaDoorFoBack2
namespace Go.Proofs.YtakmnjlcnjkflaaDoor.Fo
open Go.RowKit

/-- A day's time, as it is told. -/
def tlL (d : Dy) : List UInt8 := if d.time = 7200 then [] else 47 :: timL d.time
theorem dayL_app (d : Dy) (rest : List UInt8) : dayL d ++ rest = datL d ++ (tlL d ++ rest) := by
  unfold dayL tlL
  split
  · rfl
  · rw [List.append_assoc, List.append_assoc]; rfl
theorem tl_hd (d : Dy) {rest : List UInt8} (hr : Hd dgt rest) : Hd dgt (tlL d ++ rest) := by
  unfold tlL
  split
  · exact hr
  · exact Hd.cons (by decide) _
theorem tl_app (d : Dy) (h1 : -700000 ≤ d.time) (h2 : d.time ≤ 700000) (rest : List UInt8) (w : Bool) (hd : Hd dgt rest) (hc : Nx 58 rest) (hs : Nx 47 rest) :
    (if nextB 47 ⟨tlL d ++ rest, w⟩ then sgnV (nextS 47 ⟨tlL d ++ rest, w⟩) else 7200) = d.time ∧ (if nextB 47 ⟨tlL d ++ rest, w⟩ then sgnS (nextS 47 ⟨tlL d ++ rest, w⟩) else ⟨tlL d ++ rest, w⟩) = ⟨rest, w⟩ := by
  unfold tlL
  by_cases h : d.time = 7200
  · rw [if_pos h]
    simp only [List.nil_append, hs.no, Bool.false_eq_true, if_false]
    exact ⟨h.symm, trivial⟩
  · rw [if_neg h]
    have b1 : nextB 47 ⟨47 :: timL d.time ++ rest, w⟩ = true := rfl
    have e1 : nextS 47 ⟨47 :: timL d.time ++ rest, w⟩ = ⟨timL d.time ++ rest, w⟩ := rfl
    obtain ⟨v, s⟩ := sgn_app d.time h1 h2 rest w hd hc
    rw [b1, e1, v, s]
    exact ⟨rfl, rfl⟩
theorem day_fin {s s4 : St} {k m wk dd tt : Int} {rest : List UInt8} {w : Bool} (hh : dayHead s = (k, m, wk, s4)) (hv : numV s4 = dd) (hn : numS 1 3 s4 = ⟨tlL ⟨k, m, wk, dd, tt⟩ ++ rest, w⟩)
    (h1 : -700000 ≤ tt) (h2 : tt ≤ 700000) (hd : Hd dgt rest) (hc : Nx 58 rest) (hs : Nx 47 rest) : dayV s = ⟨k, m, wk, dd, tt⟩ ∧ dayS s = ⟨rest, w⟩ := by
  obtain ⟨a, b⟩ := tl_app ⟨k, m, wk, dd, tt⟩ h1 h2 rest w hd hc hs
  unfold dayV dayS
  rw [hh]
  simp only
  rw [hv, hn, a, b]
  exact ⟨rfl, rfl⟩
theorem day_app (d : Dy) (hb : dayB d = true) (rest : List UInt8) (w : Bool) (hd : Hd dgt rest) (hc : Nx 58 rest) (hs : Nx 47 rest) :
    dayV ⟨dayL d ++ rest, w⟩ = d ∧ dayS ⟨dayL d ++ rest, w⟩ = ⟨rest, w⟩ := by
  have cs := dayB_cases hb
  obtain ⟨t1, t2⟩ := dayB_time hb
  obtain ⟨k, mo, wk, dd, tt⟩ := d
  simp only at cs t1 t2
  rw [dayL_app]
  have ht := tl_hd ⟨k, mo, wk, dd, tt⟩ hd
  rcases cs with ⟨rfl, rfl, rfl, c1, c2⟩ | ⟨rfl, rfl, rfl, c1, c2⟩ | ⟨rfl, c1, c2, c3, c4, c5, c6⟩
  · have e : datL ⟨1, 0, 0, dd, tt⟩ = 74 :: dec dd.toNat := if_pos rfl
    rw [e]
    obtain ⟨v, s⟩ := num_1 dd.toNat (by omega) _ w ht
    exact day_fin (s4 := ⟨dec dd.toNat ++ (tlL ⟨1, 0, 0, dd, tt⟩ ++ rest), w⟩) rfl (v.trans (by omega)) s (by omega) (by omega) hd hc hs
  · have e : datL ⟨2, 0, 0, dd, tt⟩ = dec dd.toNat := (if_neg (show ¬ ((2 : Int) = 1) by decide)).trans (if_pos rfl)
    rw [e]
    obtain ⟨v, s⟩ := num_1 dd.toNat (by omega) _ w ht
    obtain ⟨b, l, hb1, hg⟩ := dec_head dd.toNat (by omega)
    refine day_fin (s4 := ⟨dec dd.toNat ++ (tlL ⟨2, 0, 0, dd, tt⟩ ++ rest), w⟩) ?_ (v.trans (by omega)) s (by omega) (by omega) hd hc hs
    have b1 : nextB 77 ⟨dec dd.toNat ++ (tlL ⟨2, 0, 0, dd, tt⟩ ++ rest), w⟩ = false := by rw [hb1]; exact decide_eq_false (dgt_ne hg).2.2.2.2.2.1
    have b2 : nextB 74 ⟨dec dd.toNat ++ (tlL ⟨2, 0, 0, dd, tt⟩ ++ rest), w⟩ = false := by rw [hb1]; exact decide_eq_false (dgt_ne hg).2.2.2.2.1
    unfold dayHead
    rw [b1, b2]
    rfl
  · have e : datL ⟨3, mo, wk, dd, tt⟩ = ((((77 :: dec mo.toNat) ++ [46]) ++ dec wk.toNat) ++ [46]) ++ dec dd.toNat := (if_neg (show ¬ ((3 : Int) = 1) by decide)).trans (if_neg (show ¬ ((3 : Int) = 2) by decide))
    have e2 : datL ⟨3, mo, wk, dd, tt⟩ ++ (tlL ⟨3, mo, wk, dd, tt⟩ ++ rest) = 77 :: (dec mo.toNat ++ (46 :: (dec wk.toNat ++ (46 :: (dec dd.toNat ++ (tlL ⟨3, mo, wk, dd, tt⟩ ++ rest)))))) := by rw [e]; simp
    rw [e2]
    obtain ⟨v, s⟩ := num_1 dd.toNat (by omega) _ w ht
    obtain ⟨v1, s1⟩ := num_1 mo.toNat (by omega) (46 :: (dec wk.toNat ++ (46 :: (dec dd.toNat ++ (tlL ⟨3, mo, wk, dd, tt⟩ ++ rest))))) w (Hd.cons (by decide) _)
    obtain ⟨v2, s2⟩ := num_w wk.toNat (by omega) (46 :: (dec dd.toNat ++ (tlL ⟨3, mo, wk, dd, tt⟩ ++ rest))) w (Hd.cons (by decide) _)
    refine day_fin (s4 := ⟨dec dd.toNat ++ (tlL ⟨3, mo, wk, dd, tt⟩ ++ rest), w⟩) ?_ (v.trans (by omega)) s (by omega) (by omega) hd hc hs
    have b0 : ∀ (c : UInt8) (l : List UInt8), nextB c.toNat ⟨c :: l, w⟩ = true := fun c l => decide_eq_true rfl
    have n0 : ∀ (c : UInt8) (l : List UInt8), nextS c.toNat ⟨c :: l, w⟩ = ⟨l, w⟩ := fun c l => by unfold nextS; rw [b0]; rfl
    have p1 := b0 77; have p2 := n0 77; have p3 := b0 46; have p4 := n0 46
    rw [show (77 : UInt8).toNat = 77 from rfl] at p1 p2
    rw [show (46 : UInt8).toNat = 46 from rfl] at p3 p4
    have m1 : ((mo.toNat : Nat) : Int) = mo := by omega
    have m2 : ((wk.toNat : Nat) : Int) = wk := by omega
    unfold dayHead
    simp only [p1, p2, v1, s1, p3, p4, need_true, v2, s2, if_true, m1, m2]
/-! ### Rules -/
theorem zero_dy {d : Dy} (h : dy0B d = true) : d = dy0 := by
  unfold dy0B at h
  simp only [Bool.and_eq_true, decide_eq_true_eq] at h
  obtain ⟨k, m, wk, dd, t⟩ := d
  simp only at h
  obtain ⟨rfl, rfl, rfl, rfl, rfl⟩ := h
  rfl
theorem off_range {n : Int} (h : offB n = true) : -89999 ≤ n ∧ n ≤ 89999 := by
  unfold offB inB at h
  simp only [Bool.and_eq_true, decide_eq_true_eq] at h
  exact h
theorem tim_hd_ltr (t : Int) (h1 : -700000 ≤ t) (h2 : t ≤ 700000) (rest : List UInt8) : Hd ltr (timL t ++ rest) ∧ Nx 44 (timL t ++ rest) := by
  obtain ⟨b, l, hb, hg⟩ := tim_head t h1 h2
  rw [hb]
  rcases hg with hg | hg
  · exact ⟨Hd.cons (by rw [hg]; decide) _, Nx.cons (by omega) _⟩
  · exact ⟨Hd.cons (dgt_ne hg).2.2.2.2.2.2 _, Nx.cons (dgt_ne hg).2.2.2.1 _⟩
theorem nam_hd (l : List UInt8) (hn : nameB l = true) (rest : List UInt8) : Hd dgt (namL l ++ rest) ∧ Nx 58 (namL l ++ rest) ∧ namL l ++ rest ≠ [] := by
  obtain ⟨b, t, hb, hg⟩ := nam_head l hn
  rw [hb]
  refine ⟨?_, ?_, by simp⟩
  · rcases hg with hg | hg
    · exact Hd.cons (by rw [hg]; decide) _
    · exact Hd.cons (ltr_ne hg).2.1 _
  · rcases hg with hg | hg
    · exact Nx.cons (by omega) _
    · exact Nx.cons (ltr_ne hg).2.2.1 _
end Go.Proofs.YtakmnjlcnjkflaaDoor.Fo
