/-
  Layer 11 (lines): the document's own names of sections.
-/
import Derived.Test.YtokeepmlibolfaaDoorLnRefK
namespace Go.Proofs.YtokeepmlibolfaaDoor.Ln
open Go.RowKit
set_option maxRecDepth 100000

def brk (b : UInt8) : Bool := b == 91 || b == 93
theorem has_any : ∀ m : List UInt8, Lib.indexAny m [91, 93] = -1 ∧ m.any brk = false ∨ 0 ≤ Lib.indexAny m [91, 93] ∧ m.any brk = true
  | [] => .inl ⟨rfl, rfl⟩
  | b :: m => by
    have hb : ([91, 93] : List UInt8).contains b = brk b := by unfold brk; simp only [List.contains_cons, List.contains_nil, Bool.or_false]
    rw [Lib.indexAny, List.any_cons, hb]
    cases h : brk b with
    | true => exact .inr ⟨by simp, rfl⟩
    | false =>
      rcases has_any m with ⟨h1, h2⟩ | ⟨h1, h2⟩
      · rw [h1, h2]; exact .inl ⟨by simp, rfl⟩
      · rw [h2]
        have : (Lib.indexAny m [91, 93] == -1) = false := beq_eq_false_iff_ne.mpr (by omega)
        rw [this]
        exact .inr ⟨by simp; omega, rfl⟩
theorem contains_brk (m : List UInt8) : Lib.containsAny m [91, 93] = m.any brk := by
  unfold Lib.containsAny
  rcases has_any m with ⟨h1, h2⟩ | ⟨h1, h2⟩
  · rw [h1, h2]; rfl
  · rw [h2, decide_eq_true h1]
theorem suf_snoc (m : List UInt8) (z : UInt8) : Lib.hasSuffix (m ++ [z]) [93] = (z == 93) := by
  unfold Lib.hasSuffix
  rw [Bool.eq_iff_iff, List.isSuffixOf_iff_suffix, beq_iff_eq]
  constructor
  · rintro ⟨t, ht⟩
    have := congrArg (fun l => l.reverse.head?) ht
    simp at this
    exact this.symm
  · rintro rfl; exact ⟨m, rfl⟩
theorem name_mid (c z : UInt8) (m : List UInt8) : nameL (c :: (m ++ [z])) = if z == 93 && !m.any brk then m else [] := by
  unfold nameL Lib.trimSuffix
  rw [List.drop_one, List.tail_cons, suf_snoc]
  cases h : (z == 93) with
  | false => simp
  | true =>
    have ht : (m ++ [z]).take ((m ++ [z]).length - [(93 : UInt8)].length) = m := by simp
    rw [if_pos rfl, ht, contains_brk]
theorem name_short {l : List UInt8} (h : l.length < 3) : nameL l = [] := by
  match l, h with
  | [], _ => rfl
  | [_], _ => rfl
  | [c, z], _ =>
    have := name_mid c z []
    rw [List.nil_append] at this
    rw [this]
    split <;> rfl
/-- What the document calls a section's name. -/
def secL (l : List UInt8) : List UInt8 := if Lib.hasPrefix l [91] then nameL l else []
theorem sec_short {l : List UInt8} (h : l.length < 3) : secL l = [] := by unfold secL; rw [name_short h]; split <;> rfl
theorem sec_mid (c z : UInt8) (m : List UInt8) : secL (c :: (m ++ [z])) = if c == 91 && (z == 93 && !m.any brk) then m else [] := by
  unfold secL
  rw [name_mid]
  have : Lib.hasPrefix (c :: (m ++ [z])) [91] = (c == 91) := by unfold Lib.hasPrefix; simp only [List.isPrefixOf, Bool.and_true]; exact Bool.beq_comm
  rw [this]
  cases (c == 91) <;> simp
theorem split3 {l : List UInt8} (h : 3 ≤ l.length) : ∃ c z m, l = c :: (m ++ [z]) := by
  match l, h with
  | c :: r, h =>
    have hr : r ≠ [] := by rintro rfl; simp at h
    exact ⟨c, r.getLast hr, r.dropLast, by rw [List.dropLast_concat_getLast]⟩
set_option maxHeartbeats 1600000 in
theorem rsec_short (l : List UInt8) (h : l.length < 3) (w : World) : Calls Tryd.prog 19 #[.string (bs l)] w fun e w' => e = .returned (.string ⟨#[]⟩) ∧ w = w' := by
  have hz : ((bs l).size : Int) < 3 := by rw [bs_size]; omega
  clear h
  generalize bs l = S at *
  go_enter Tryd.func19, Tryd.ntmps19
  go_wp2
  go_ret
  exact ⟨rfl, rfl⟩
set_option maxHeartbeats 1600000 in
theorem rsec_head (c z : UInt8) (m : List UInt8) (hm : m ≠ []) (hc : (c == 91) = false) (w : World) : Calls Tryd.prog 19 #[.string (bs (c :: (m ++ [z])))] w fun e w' => e = .returned (.string ⟨#[]⟩) ∧ w = w' := by
  have hl : 1 ≤ m.length := List.length_pos_iff.mpr hm
  have hz : ¬ ((bs (c :: (m ++ [z]))).size : Int) < 3 := by rw [bs_size]; simp only [List.length_cons, List.length_append, List.length_nil]; omega
  have hz0 : 0 < (bs (c :: (m ++ [z]))).size := by omega
  have HB : (bs (c :: (m ++ [z])))[0] = c := rfl
  have e1 : ((c.toNat : Int) != 91) = true := congrArg not ((u8_is c 91 (by decide)).trans hc)
  generalize bs (c :: (m ++ [z])) = S at *
  go_enter Tryd.func19, Tryd.ntmps19
  go_wp2
  go_ret
  exact ⟨rfl, rfl⟩
theorem last_at (c z : UInt8) (m : List UInt8) (h : m.length + 1 < (bs (c :: (m ++ [z]))).size) : (bs (c :: (m ++ [z])))[m.length + 1] = z := by
  rw [at_list h, List.getD_eq_getElem?_getD]
  simp
set_option maxHeartbeats 1600000 in
theorem rsec_last (c z : UInt8) (m : List UInt8) (hm : m ≠ []) (hc : (c == 91) = true) (hzz : (z == 93) = false) (hb : m.length ≤ 9000000000000000000) (w : World) : Calls Tryd.prog 19 #[.string (bs (c :: (m ++ [z])))] w fun e w' => e = .returned (.string ⟨#[]⟩) ∧ w = w' := by
  have hl : 1 ≤ m.length := List.length_pos_iff.mpr hm
  have hsz : (bs (c :: (m ++ [z]))).size = m.length + 1 + 1 := by rw [bs_size]; simp
  have hz1 : m.length + 1 < (bs (c :: (m ++ [z]))).size := by omega
  have hz0 : 0 < (bs (c :: (m ++ [z]))).size := by omega
  have HB : (bs (c :: (m ++ [z])))[0] = c := rfl
  have HL := last_at c z m hz1
  have e1 : ((c.toNat : Int) != 91) = false := congrArg not ((u8_is c 91 (by decide)).trans hc)
  have e2 : ((z.toNat : Int) != 93) = true := congrArg not ((u8_is z 93 (by decide)).trans hzz)
  generalize bs (c :: (m ++ [z])) = S at *
  obtain ⟨q, hq⟩ : ∃ q, m.length + 1 = q := ⟨_, rfl⟩
  simp only [hq] at hsz hz1 HL
  have hq2 : 2 ≤ q := by omega
  have hq3 : q ≤ 9000000000000000001 := by omega
  have hs3 : ¬ ((q : Int) + 1) < 3 := by omega
  clear hl hm hb hc hzz
  go_enter Tryd.func19, Tryd.ntmps19
  go_wp2
  go_ret
  exact ⟨rfl, rfl⟩
theorem mid_cut (c z : UInt8) (m : List UInt8) : (bs (c :: (m ++ [z]))).extract 1 (m.length + 1) = bs m := by
  rw [cut_bs]
  congr 1
  simp
set_option maxHeartbeats 1600000 in
theorem rsec_in (c z : UInt8) (m : List UInt8) (hm : m ≠ []) (hc : (c == 91) = true) (hzz : (z == 93) = true) (hb : m.length ≤ 9000000000000000000) (w : World) : Calls Tryd.prog 19 #[.string (bs (c :: (m ++ [z])))] w fun e w' => e = .returned (.string (bs (if m.any brk then [] else m))) ∧ w = w' := by
  have hl : 1 ≤ m.length := List.length_pos_iff.mpr hm
  have hsz : (bs (c :: (m ++ [z]))).size = m.length + 1 + 1 := by rw [bs_size]; simp
  have hz1 : m.length + 1 < (bs (c :: (m ++ [z]))).size := by omega
  have hz0 : 0 < (bs (c :: (m ++ [z]))).size := by omega
  have HB : (bs (c :: (m ++ [z])))[0] = c := rfl
  have HL := last_at c z m hz1
  have e1 : ((c.toNat : Int) != 91) = false := congrArg not ((u8_is c 91 (by decide)).trans hc)
  have e2 : ((z.toNat : Int) != 93) = false := congrArg not ((u8_is z 93 (by decide)).trans hzz)
  have hsl : ∀ V, (Instr.slice 9 (.string (bs (c :: (m ++ [z])))) (some (.int .i64 1)) (some (.int .i64 ((m.length + 1 : Nat) : Int))) none).run Tryd.prog V = .ok (.string (bs m)) V := fun V => (sl_run (bs (c :: (m ++ [z]))) 1 (m.length + 1) (by omega) (by omega) V).trans (by rw [mid_cut])
  have HS : Hid (∀ k (hk : k < (bs m).size), (bs m)[k] = m.getD k 0) := Lib.hid fun k hk => at_list hk
  have hms : (bs m).size = m.length := rfl
  have HA : Hid (m.any brk = true ∨ ∀ k, k < m.length → brk (m.getD k 0) = false) := Lib.hid (by
    cases h : m.any brk with
    | true => exact .inl rfl
    | false =>
      refine .inr fun k hk => ?_
      have h2 := List.any_eq_false.mp h (m.getD k 0) (by rw [List.getD_eq_getElem?_getD, List.getElem?_eq_getElem hk]; exact List.getElem_mem hk)
      simpa using h2)
  have HX : Hid (∃ a, a ≤ m.length ∧ (∀ k, k < a → brk (m.getD k 0) = false) ∧ (a < m.length → brk (m.getD a 0) = true) ∧ m.any brk = decide (a < m.length)) := Lib.hid (by
    rcases range_all (fun k => !brk (m.getD k 0)) m.length with ⟨_, h⟩ | ⟨_, a, ha, h1, h2⟩
    · refine ⟨m.length, Nat.le_refl _, fun k hk => by simpa using h k hk, fun h => by omega, ?_⟩
      rw [decide_eq_false (by omega)]
      rw [List.any_eq_false]
      intro x hx
      obtain ⟨k, hk, rfl⟩ := List.getElem_of_mem hx
      have := h k hk
      rw [List.getD_eq_getElem?_getD, List.getElem?_eq_getElem hk] at this
      simpa using this
    · have h3 : brk (m.getD a 0) = true := by simpa using h2
      refine ⟨a, by omega, fun k hk => by simpa using h1 k hk, fun _ => h3, ?_⟩
      rw [decide_eq_true ha, List.any_eq_true]
      rw [List.getD_eq_getElem?_getD, List.getElem?_eq_getElem ha] at h3
      exact ⟨m[a], List.getElem_mem ha, h3⟩)
  obtain ⟨a, ha, h1, h2, h3⟩ := HX.out
  rw [h3]
  have H1 := Lib.hid h1
  have H2 := Lib.hid h2
  clear HX HA h1 h2 h3
  generalize bs (c :: (m ++ [z])) = S at *
  obtain ⟨q, hq⟩ : ∃ q, m.length + 1 = q := ⟨_, rfl⟩
  simp only [hq] at hsz hz1 HL hsl
  have hq2 : 2 ≤ q := by omega
  have hq3 : q ≤ 9000000000000000001 := by omega
  have hs3 : ¬ ((q : Int) + 1) < 3 := by omega
  obtain ⟨n, hn⟩ : ∃ n, m.length = n := ⟨_, rfl⟩
  simp only [hn] at *
  generalize hM : bs m = M at *
  have hem : bs ([] : List UInt8) = ⟨#[]⟩ := rfl
  clear hl hc hzz
  go_enter Tryd.func19, Tryd.ntmps19
  go_wp2
  go_loop [4] (fun i => ∃ k : Nat, k ≤ a ∧ i = .int .i64 k) (fun i => n - (intOf i).toNat)
  case atStart => exact ⟨0, Nat.zero_le _, rfl⟩
  case round =>
    obtain ⟨k, hk, rfl⟩ := hrel
    by_cases hka : k < a
    · have hkz : k < M.size := by omega
      have HC := HS.out k hkz
      have hbr := H1.out k hka
      unfold brk at hbr
      rw [Bool.or_eq_false_iff] at hbr
      have f1 : ((M[k].toNat : Int) == 91) = false := by rw [HC]; exact (u8_is _ 91 (by decide)).trans hbr.1
      have f2 : ((M[k].toNat : Int) == 93) = false := by rw [HC]; exact (u8_is _ 93 (by decide)).trans hbr.2
      clear hbr HC
      go_wp2
      go_round
      case rel => exact ⟨k + 1, by omega, by go_num⟩
      case measure => simp only [intOf]; omega
    · obtain rfl : k = a := by omega
      by_cases hkn : k < n
      · have hkz : k < M.size := by omega
        have HC := HS.out k hkz
        have hbr := H2.out hkn
        unfold brk at hbr
        cases g1 : (m.getD k 0 == 91) with
        | true =>
          have f1 : ((M[k].toNat : Int) == 91) = true := by rw [HC]; exact (u8_is _ 91 (by decide)).trans g1
          clear hbr HC
          go_wp2
          go_ret
          exact ⟨by first | rfl | (rw [if_pos (decide_eq_true hkn)]; rfl), rfl⟩
        | false =>
          rw [g1, Bool.false_or] at hbr
          have f1 : ((M[k].toNat : Int) == 91) = false := by rw [HC]; exact (u8_is _ 91 (by decide)).trans g1
          have f2 : ((M[k].toNat : Int) == 93) = true := by rw [HC]; exact (u8_is _ 93 (by decide)).trans hbr
          clear hbr HC
          go_wp2
          go_ret
          exact ⟨by first | rfl | (rw [if_pos (decide_eq_true hkn)]; rfl), rfl⟩
      · have hkn2 : ¬ (k : Int) < (n : Int) := by omega
        go_wp2
        go_ret
        exact ⟨by first | rfl | (rw [hM]; rfl) | (rw [if_neg (by rw [decide_eq_false hkn]; decide), hM]; rfl), rfl⟩
theorem rsection_any (l : List UInt8) (hb : l.length ≤ 9000000000000000000) (w : World) : Calls Tryd.prog 19 #[.string (bs l)] w fun e w' => e = .returned (.string (bs (secL l))) ∧ w = w' := by
  rcases Nat.lt_or_ge l.length 3 with h | h
  · rw [sec_short h]; exact rsec_short l h w
  · obtain ⟨c, z, m, rfl⟩ := split3 h
    have hm : m ≠ [] := by rintro rfl; simp at h
    have hl : m.length ≤ 9000000000000000000 := by simp only [List.length_cons, List.length_append, List.length_nil] at hb; omega
    rw [sec_mid]
    cases hc : (c == 91) with
    | false => exact rsec_head c z m hm hc w
    | true =>
      cases hz : (z == 93) with
      | false => exact rsec_last c z m hm hc hz hl w
      | true =>
        have := rsec_in c z m hm hc hz hl w
        cases hbk : m.any brk with
        | true => rw [hbk] at this; exact this
        | false => rw [hbk] at this; exact this
end Go.Proofs.YtokeepmlibolfaaDoor.Ln
