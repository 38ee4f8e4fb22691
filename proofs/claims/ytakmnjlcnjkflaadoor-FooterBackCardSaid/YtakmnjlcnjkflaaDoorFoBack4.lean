/-
  Layer 7 (footer): a right rule's text is parsed as it; with a comma behind it is none.
-/
import Derived.Test.YtakmnjlcnjkflaaDoorFoBack3
namespace Go.Proofs.YtakmnjlcnjkflaaDoor.Fo
open Go.RowKit

theorem bytes_zero {s : ByteArray} (h : s.size = 0) : s = ⟨#[]⟩ := by
  rw [← bs_of s]
  have h2 : s.data.size = 0 := h
  have : s.data.toList = [] := by rw [← Array.length_toList] at h2; exact List.length_eq_zero_iff.mp h2
  rw [this]
structure RightF (r : Rl) : Prop where
  n1 : nameB r.std.data.toList = true
  o1 : offB r.off = true
  no : r.dst.size = 0 → r.dst = ⟨#[]⟩ ∧ r.dstOff = 0 ∧ r.start = dy0 ∧ r.end_ = dy0
  yes : ¬ r.dst.size = 0 → nameB r.dst.data.toList = true ∧ offB r.dstOff = true ∧ dayB r.start = true ∧ dayB r.end_ = true
theorem right_f {r : Rl} (hr : rightR r = true) : RightF r := by
  unfold rightR at hr
  rw [Bool.and_eq_true, Bool.and_eq_true] at hr
  obtain ⟨n1, o1, hq⟩ := hr
  refine ⟨n1, o1, fun hs => ?_, fun hs => ?_⟩
  · rw [if_pos hs, Bool.and_eq_true, Bool.and_eq_true, decide_eq_true_eq] at hq
    exact ⟨bytes_zero hs, hq.1, zero_dy hq.2.1, zero_dy hq.2.2⟩
  · rw [if_neg hs, Bool.and_eq_true, Bool.and_eq_true, Bool.and_eq_true] at hq
    exact hq
/-- Summer's offset, as it is told. -/
def dsL (r : Rl) : List UInt8 := if r.dstOff = r.off + 3600 then [] else timL (-r.dstOff)
theorem tx_yes {r : Rl} (hs : ¬ r.dst.size = 0) (tail : List UInt8) :
    txL r ++ tail = namL r.std.data.toList ++ (timL (-r.off) ++ (namL r.dst.data.toList ++ (dsL r ++ (44 :: (dayL r.start ++ (44 :: (dayL r.end_ ++ tail))))))) := by
  unfold txL txB dsL txA
  rw [if_neg hs]
  split <;> simp
theorem tx_no {r : Rl} (hs : r.dst.size = 0) (tail : List UInt8) : txL r ++ tail = namL r.std.data.toList ++ (timL (-r.off) ++ tail) := by
  unfold txL txA
  rw [if_pos hs, List.append_assoc]
theorem ds_app (r : Rl) (ho : offB r.off = true) (hd : offB r.dstOff = true) (rest : List UInt8) (w : Bool) :
    dstV r.off ⟨dsL r ++ 44 :: rest, w⟩ = r.dstOff ∧ dstS ⟨dsL r ++ 44 :: rest, w⟩ = ⟨rest, w⟩ ∧ Hd ltr (dsL r ++ 44 :: rest) := by
  have b2 : nextB 44 ⟨44 :: rest, w⟩ = true := rfl
  have e2 : nextS 44 ⟨44 :: rest, w⟩ = ⟨rest, w⟩ := rfl
  obtain ⟨o1, o2⟩ := off_range ho
  obtain ⟨d1, d2⟩ := off_range hd
  unfold dsL
  by_cases h : r.dstOff = r.off + 3600
  · rw [if_pos h]
    simp only [List.nil_append]
    unfold dstV dstS
    rw [b2, e2]
    exact ⟨(if_pos rfl).trans ((w64_id (by omega) (by omega)).trans h.symm), if_pos rfl, Hd.cons (by decide) _⟩
  · rw [if_neg h]
    obtain ⟨v, s⟩ := off_app (-r.dstOff) (by omega) (by omega) (44 :: rest) w (Hd.cons (by decide) _) (Nx.cons (by decide) _)
    obtain ⟨h1, h2⟩ := tim_hd_ltr (-r.dstOff) (by omega) (by omega) (44 :: rest)
    unfold dstV dstS
    rw [h2.no, v, s, b2, e2, need_true]
    simp only [Bool.false_eq_true, if_false]
    exact ⟨by omega, trivial, h1⟩
theorem rule_yes (r : Rl) (h : RightF r) (hs : ¬ r.dst.size = 0) (tail : List UInt8) (w : Bool) (hd : Hd dgt tail) (hc : Nx 58 tail) (h7 : Nx 47 tail) :
    ruleV ⟨txL r ++ tail, w⟩ = r ∧ ruleS ⟨txL r ++ tail, w⟩ = ⟨tail, w⟩ := by
  obtain ⟨n2, o2, b1, b2⟩ := h.yes hs
  obtain ⟨q1, q2⟩ := off_range h.o1
  rw [tx_yes hs]
  have g : Hd dgt (44 :: (dayL r.end_ ++ tail)) ∧ Nx 58 (44 :: (dayL r.end_ ++ tail)) ∧ Nx 47 (44 :: (dayL r.end_ ++ tail)) := ⟨Hd.cons (by decide) _, Nx.cons (by decide) _, Nx.cons (by decide) _⟩
  obtain ⟨v6, s6⟩ := day_app r.end_ b2 tail w hd hc h7
  obtain ⟨v5, s5⟩ := day_app r.start b1 (44 :: (dayL r.end_ ++ tail)) w g.1 g.2.1 g.2.2
  obtain ⟨v4, s4, g4⟩ := ds_app r h.o1 o2 (dayL r.start ++ (44 :: (dayL r.end_ ++ tail))) w
  obtain ⟨v3, s3⟩ := nam_app r.dst.data.toList _ w n2 g4
  obtain ⟨g2, g2', ne⟩ := nam_hd r.dst.data.toList n2 (dsL r ++ (44 :: (dayL r.start ++ (44 :: (dayL r.end_ ++ tail)))))
  obtain ⟨v2, s2⟩ := off_app (-r.off) (by omega) (by omega) _ w g2 g2'
  obtain ⟨g1, _⟩ := tim_hd_ltr (-r.off) (by omega) (by omega) (namL r.dst.data.toList ++ (dsL r ++ (44 :: (dayL r.start ++ (44 :: (dayL r.end_ ++ tail))))))
  obtain ⟨v1, s1⟩ := nam_app r.std.data.toList _ w h.n1 g1
  have b7 : nextB 44 ⟨44 :: (dayL r.end_ ++ tail), w⟩ = true := rfl
  have e7 : nextS 44 ⟨44 :: (dayL r.end_ ++ tail), w⟩ = ⟨dayL r.end_ ++ tail, w⟩ := rfl
  have v2' : offV ⟨timL (-r.off) ++ (namL r.dst.data.toList ++ (dsL r ++ (44 :: (dayL r.start ++ (44 :: (dayL r.end_ ++ tail)))))), w⟩ = r.off := v2.trans (by omega)
  unfold ruleV ruleS
  simp only [v1, s1, v2', s2, ne, if_false, v3, s3, v4, s4, v5, s5, b7, e7, need_true, v6, s6, bs_of]
  exact ⟨trivial, trivial⟩
theorem rule_no (r : Rl) (h : RightF r) (hs : r.dst.size = 0) (w : Bool) : ruleV ⟨txL r ++ [], w⟩ = r ∧ ruleS ⟨txL r ++ [], w⟩ = ⟨[], w⟩ := by
  obtain ⟨z1, z2, z3, z4⟩ := h.no hs
  obtain ⟨q1, q2⟩ := off_range h.o1
  rw [tx_no hs]
  obtain ⟨v2, s2⟩ := off_app (-r.off) (by omega) (by omega) [] w (Hd.nil _) (Nx.nil _)
  obtain ⟨g1, _⟩ := tim_hd_ltr (-r.off) (by omega) (by omega) []
  obtain ⟨v1, s1⟩ := nam_app r.std.data.toList _ w h.n1 g1
  have v2' : offV ⟨timL (-r.off) ++ [], w⟩ = r.off := v2.trans (by omega)
  unfold ruleV ruleS
  simp only [v1, s1, v2', s2, if_true, bs_of]
  refine ⟨?_, trivial⟩
  obtain ⟨std, dst, off, dstOff, st, en⟩ := r
  simp only at z1 z2 z3 z4
  subst z1; subst z2; subst z3; subst z4
  rfl
theorem rule_comma (r : Rl) (h : RightF r) (hs : r.dst.size = 0) : (ruleS ⟨txL r ++ [44], false⟩).wrong = true := by
  obtain ⟨q1, q2⟩ := off_range h.o1
  rw [tx_no hs]
  obtain ⟨v2, s2⟩ := off_app (-r.off) (by omega) (by omega) [44] false (Hd.cons (by decide) _) (Nx.cons (by decide) _)
  obtain ⟨g1, _⟩ := tim_hd_ltr (-r.off) (by omega) (by omega) [44]
  obtain ⟨v1, s1⟩ := nam_app r.std.data.toList _ false h.n1 g1
  have ne : ¬ ([44] : List UInt8) = [] := by decide
  unfold ruleS
  simp only [s1, s2, ne, if_false]
  show (dayS ((nextS 44 (dayS (dstS (namS ⟨[44], false⟩)))).need (nextB 44 (dayS (dstS (namS ⟨[44], false⟩)))))).wrong = true
  kernel_rfl
/-! ### Lengths -/
theorem dec_len2 {n : Nat} (h : n < 100) : (dec n).length ≤ 2 := dec_len 1 n (by omega)
theorem dec_len1 {n : Nat} (h : n < 10) : (dec n).length ≤ 1 := dec_len 0 n (by omega)
theorem six_len3 {n : Nat} (h : n < 60) : (sixL n).length = 3 := by rw [sixL_is n h]; rfl
theorem abs_len2 (n k : Nat) (hn : n ≤ 700000) (hk : (dec (n / 3600)).length ≤ k) : (absL n).length ≤ k + 6 := by
  obtain ⟨p1, p2, p3, p4⟩ := hour_parts n hn
  have l2 := six_len3 p2
  have l3 := six_len3 p3
  unfold absL
  rw [List.length_append, List.length_append]
  split <;> split <;> (try simp only [List.length_nil]) <;> omega
theorem off_len {n : Int} (h : offB n = true) : (timL (-n)).length ≤ 9 := by
  obtain ⟨q1, q2⟩ := off_range h
  have := abs_len2 (-n).natAbs 2 (by omega) (dec_len2 (by omega))
  unfold timL
  split
  · rw [List.length_cons]; omega
  · omega
theorem time_len {n : Int} (h1 : -604799 ≤ n) (h2 : n ≤ 604799) : (timL n).length ≤ 10 := by
  have := abs_len2 n.natAbs 3 (by omega) (dec_len 2 _ (by omega))
  unfold timL
  split
  · rw [List.length_cons]; omega
  · omega
theorem day_len2 {d : Dy} (hd : dayB d = true) : (dayL d).length ≤ 18 := by
  have hc := dayB_cases hd
  obtain ⟨t1, t2⟩ := dayB_time hd
  obtain ⟨kind, mo, wk, dd, tt⟩ := d
  simp only at hc t1 t2
  have L := time_len t1 t2
  have D : (datL ⟨kind, mo, wk, dd, tt⟩).length ≤ 7 := by
    unfold datL
    simp only
    rcases hc with hc | hc | hc
    · rw [if_pos hc.1]
      have := dec_len 2 dd.toNat (by omega)
      rw [List.length_cons]; omega
    · rw [if_neg (by omega), if_pos hc.1]
      have := dec_len 2 dd.toNat (by omega)
      omega
    · rw [if_neg (by omega), if_neg (by omega)]
      have a1 := dec_len2 (n := mo.toNat) (by omega)
      have a2 := dec_len1 (n := wk.toNat) (by omega)
      have a3 := dec_len1 (n := dd.toNat) (by omega)
      simp only [List.length_cons, List.length_append, List.length_nil]; omega
  unfold dayL
  simp only
  split
  · omega
  · simp only [List.length_cons, List.length_append, List.length_nil]; omega
theorem tx_len (r : Rl) (h : RightF r) : (txL r).length ≤ 100 := by
  have n1 := name_len h.n1
  have n2 := nam_len r.std.data.toList
  have o1 := off_len h.o1
  by_cases hs : r.dst.size = 0
  · have := congrArg List.length (tx_no hs [])
    simp only [List.length_append, List.length_nil] at this
    omega
  · obtain ⟨m1, m2, b1, b2⟩ := h.yes hs
    have k1 := name_len m1
    have k2 := nam_len r.dst.data.toList
    have k3 := off_len m2
    have k4 := day_len2 b1
    have k5 := day_len2 b2
    have k6 : (dsL r).length ≤ 9 := by
      unfold dsL
      split
      · simp
      · exact k3
    have := congrArg List.length (tx_yes hs [])
    simp only [List.length_append, List.length_nil, List.length_cons] at this
    omega
/-! ### Back -/
theorem parse_tx (r : Rl) (hr : rightR r = true) : parseR (bs (txL r)) = some r := by
  have h := right_f hr
  have hl := tx_len r h
  have hz : ¬ 100 < (bs (txL r)).size := by rw [bs_size]; omega
  unfold parseR
  rw [if_neg hz, bs_list]
  have e : ruleV ⟨txL r, false⟩ = r ∧ ruleS ⟨txL r, false⟩ = ⟨[], false⟩ := by
    have : txL r = txL r ++ [] := (List.append_nil _).symm
    rw [this]
    by_cases hs : r.dst.size = 0
    · have := rule_no r h hs false
      exact this
    · exact rule_yes r h hs [] false (Hd.nil _) (Nx.nil _) (Nx.nil _)
  simp only [e.1, e.2, Bool.false_eq_true, if_false, ne_eq, not_true, hr, if_true]
theorem parse_comma (r : Rl) (hr : rightR r = true) : parseR (bs (txL r ++ [44])) = none := by
  have h := right_f hr
  unfold parseR
  split
  · rfl
  · rw [bs_list]
    by_cases hs : r.dst.size = 0
    · rw [if_pos (rule_comma r h hs)]
    · have e := rule_yes r h hs [44] false (Hd.cons (by decide) _) (Nx.cons (by decide) _) (Nx.cons (by decide) _)
      simp only [e.2, Bool.false_eq_true, if_false, ne_eq]
      simp
end Go.Proofs.YtakmnjlcnjkflaaDoor.Fo
