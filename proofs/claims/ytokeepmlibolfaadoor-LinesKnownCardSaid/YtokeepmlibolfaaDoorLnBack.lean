/-
  Layer 11 (lines): assignments that are told again. Nothing of the program stands here.
-/
import Derived.Test.YtokeepmlibolfaaDoorLnRefRp
import Derived.Test.YtokeepmlibolfaaDoorLnRefP
namespace Go.Proofs.YtokeepmlibolfaaDoor.Ln

theorem trim_id {l : List UInt8} (h : l = [] ∨ (blk (l.getD 0 0) = false ∧ blk (l.getD (l.length - 1) 0) = false)) : trimL l = l := by
  rcases h with rfl | ⟨h1, h2⟩
  · rfl
  · rcases Nat.eq_zero_or_pos l.length with h0 | h0
    · rw [List.length_eq_zero_iff.mp h0]; rfl
    · have := trim_cut l 0 l.length (Nat.zero_le _) (Nat.le_refl _) (fun j hj => by omega) (fun _ => h1) (fun j a b => by omega) (fun _ => h2) (fun e => e)
      rw [this]; simp
theorem trim_ends (l : List UInt8) : trimL l = [] ∨ (blk ((trimL l).getD 0 0) = false ∧ blk ((trimL l).getD ((trimL l).length - 1) 0) = false) := by
  obtain ⟨a, b, hab, hb, h1, h2, h3, h4, h5⟩ := ends_of l
  rw [trim_cut l a b hab hb h1 h2 h3 h4 h5]
  rcases Nat.lt_or_ge a b with h | h
  · have hg : ∀ j, a + j < b → ((l.take b).drop a).getD j 0 = l.getD (a + j) 0 := fun j hj => by
      rw [List.getD_eq_getElem?_getD, List.getElem?_drop, List.getElem?_take, if_pos hj, List.getD_eq_getElem?_getD]
    have hl : ((l.take b).drop a).length = b - a := by rw [List.length_drop, List.length_take]; omega
    refine .inr ⟨?_, ?_⟩
    · rw [hg 0 (by omega)]; exact h2 h
    · rw [hl, hg (b - a - 1) (by omega), show a + (b - a - 1) = b - 1 by omega]; exact h4 h
  · exact .inl (List.drop_eq_nil_of_le (by rw [List.length_take]; omega))
theorem trim_trim (l : List UInt8) : trimL (trimL l) = trimL l := trim_id (trim_ends l)
theorem mem_trim {l : List UInt8} {x : UInt8} (h : x ∈ trimL l) : x ∈ l := by
  obtain ⟨a, b, hab, hb, h1, h2, h3, h4, h5⟩ := ends_of l
  rw [trim_cut l a b hab hb h1 h2 h3 h4 h5] at h
  exact List.mem_of_mem_take (List.mem_of_mem_drop h)
theorem getD_app (l : List UInt8) (c : UInt8) : (l ++ [c]).getD ((l ++ [c]).length - 1) 0 = c := by
  rw [List.getD_eq_getElem?_getD]; simp
theorem cr_last (w : List UInt8) (c : UInt8) (hc : (c == (13 : UInt8)) = false) : crL (w ++ [c]) = w ++ [c] := by
  rcases cr_cases (w ++ [c]) with ⟨h, _⟩ | ⟨Y, h, _⟩ | ⟨_, _, _, _, h⟩
  · simp at h
  · have := congrArg (fun l => l.reverse.head?) h
    simp at this
    subst this
    exact absurd hc (by decide)
  · exact h
/-- A line that is a whole line by itself. -/
theorem whole_one {x : List UInt8} (ls : List (List UInt8)) (i : Nat) (h1 : crL x = x) (h2 : skips 0 x = false) (h3 : onB x = false) (h4 : trimL x = x) : wholesL (x :: ls) i 0 [] = (i + 1, x) :: wholesL ls (i + 1) 0 [] := by
  rw [cont_begin ls i (by rw [h1]; exact h2), h1, cont_off _ _ _ h3, h4]
/-- Keys. -/
theorem key_all {k : List UInt8} (h : keyB k = true) : ∀ j, j < k.length → goes j (k.getD j 0) = true := by
  unfold keyB at h
  rw [Bool.and_eq_true] at h
  exact fun j hj => List.all_eq_true.mp h.1 j (List.mem_range.mpr hj)
theorem key_mem {k : List UInt8} (h : keyB k = true) {b : UInt8} (hb : b ∈ k) : (ltr b.toNat || dgt b.toNat) = true := by
  obtain ⟨j, hj, e⟩ := List.getElem_of_mem hb
  have := key_all h j hj
  rw [List.getD_eq_getElem?_getD, List.getElem?_eq_getElem hj, e] at this
  unfold goes at this
  simp only [Option.getD_some] at this
  cases hl : ltr b.toNat with
  | true => rfl
  | false =>
    rw [hl, Bool.false_or, Bool.and_eq_true] at this
    rw [this.2]; rfl
theorem let_no {b : UInt8} (h : (ltr b.toNat || dgt b.toNat) = true) : b ≠ 10 ∧ b ≠ 61 ∧ blk b = false := by
  refine ⟨?_, ?_, ?_⟩
  · rintro rfl; revert h; decide
  · rintro rfl; revert h; decide
  · cases hb : blk b with
    | false => rfl
    | true =>
      rw [blk_eq, Bool.or_eq_true, beq_iff_eq, beq_iff_eq] at hb
      rcases hb with rfl | rfl <;> (revert h; decide)
theorem key_first {k : List UInt8} (h : keyB k = true) : ∃ c r, k = c :: r ∧ ltr c.toNat = true := by
  cases k with
  | nil => exact absurd h (by decide)
  | cons c r =>
    refine ⟨c, r, rfl, ?_⟩
    have := key_all h 0 (by simp)
    unfold goes at this
    simpa using this
theorem ltr_no {c : UInt8} (h : ltr c.toNat = true) : ([9, 32, 35, 59] : List UInt8).contains c = false ∧ blk c = false := by
  have hx : ∀ b : UInt8, b ∈ ([9, 32, 35, 59] : List UInt8) → c ≠ b := fun b hb e => by
    subst e
    simp only [List.mem_cons, List.not_mem_nil, or_false] at hb
    rcases hb with rfl | rfl | rfl | rfl <;> (revert h; decide)
  refine ⟨?_, ?_⟩
  · cases hc : ([9, 32, 35, 59] : List UInt8).contains c with
    | false => rfl
    | true => exact absurd rfl (hx c (List.contains_iff_mem.mp hc))
  · exact (let_no (b := c) (by rw [h]; rfl)).2.2
theorem key_trim {k : List UInt8} (h : keyB k = true) : trimL k = k := by
  refine trim_id (.inr ⟨?_, ?_⟩)
  · obtain ⟨c, r, rfl, hc⟩ := key_first h
    exact (ltr_no hc).2
  · have h0 : 0 < k.length := by obtain ⟨c, r, rfl, _⟩ := key_first h; simp
    have : k.getD (k.length - 1) 0 ∈ k := by
      rw [List.getD_eq_getElem?_getD, List.getElem?_eq_getElem (by omega)]
      exact List.getElem_mem _
    exact (let_no (key_mem h this)).2.2
/-- An assignment that can be told again. -/
structure Gd (e : Nat × List UInt8 × List UInt8 × List UInt8) : Prop where
  s0 : e.2.1 ≠ []
  s10 : (10 : UInt8) ∉ e.2.1
  sb : e.2.1.any brk = false
  sl : e.2.1.length + 2 ≤ 4096
  k : keyB e.2.2.1 = true
  v10 : (10 : UInt8) ∉ e.2.2.2
  vt : trimL e.2.2.2 = e.2.2.2
  kl : e.2.2.1.length + 1 + e.2.2.2.length ≤ 4096
/-- A value that ends in neither a backslash nor 13. -/
def Ve (v : List UInt8) : Prop := v = [] ∨ ∃ v' c, v = v' ++ [c] ∧ (c == (92 : UInt8)) = false ∧ (c == (13 : UInt8)) = false
def kvL (e : Nat × List UInt8 × List UInt8 × List UInt8) : List UInt8 := e.2.2.1 ++ 61 :: e.2.2.2
theorem kv_ends {e : Nat × List UInt8 × List UInt8 × List UInt8} (hv : Ve e.2.2.2) (ht : trimL e.2.2.2 = e.2.2.2) : ∃ w c, kvL e = w ++ [c] ∧ (c == (92 : UInt8)) = false ∧ (c == (13 : UInt8)) = false ∧ blk c = false := by
  unfold kvL
  rcases hv with h | ⟨v', c, h, h1, h2⟩
  · rw [h]; exact ⟨e.2.2.1, 61, rfl, by decide, by decide, by decide⟩
  · refine ⟨e.2.2.1 ++ 61 :: v', c, by rw [h]; simp, h1, h2, ?_⟩
    have he := trim_ends e.2.2.2
    rw [ht] at he
    rcases he with he | ⟨_, he⟩
    · rw [he] at h; simp at h
    · rw [h, getD_app] at he; exact he
theorem kv_line {e : Nat × List UInt8 × List UInt8 × List UInt8} (h : Gd e) (hv : Ve e.2.2.2) (ls : List (List UInt8)) (i : Nat) : wholesL (kvL e :: ls) i 0 [] = (i + 1, kvL e) :: wholesL ls (i + 1) 0 [] := by
  obtain ⟨w, c, hw, h1, h2, h3⟩ := kv_ends hv h.vt
  obtain ⟨k0, r, hk, hk0⟩ := key_first h.k
  have hf : kvL e = k0 :: (r ++ 61 :: e.2.2.2) := by unfold kvL; rw [hk]; rfl
  refine whole_one ls i ?_ ?_ ?_ ?_
  · rw [hw]; exact cr_last w c h2
  · rw [hf]; exact skip_no 0 k0 _ (ltr_no hk0).1
  · rw [hw]; exact on_last w c h1
  · refine trim_id (.inr ⟨?_, ?_⟩)
    · rw [hf]; exact (ltr_no hk0).2
    · rw [hw, getD_app]; exact h3
theorem kv_no10 {e : Nat × List UInt8 × List UInt8 × List UInt8} (h : Gd e) : (10 : UInt8) ∉ kvL e := fun hm => by
  unfold kvL at hm
  rcases List.mem_append.mp hm with hm | hm
  · exact (let_no (key_mem h.k hm)).1 rfl
  · rcases List.mem_cons.mp hm with hm | hm
    · exact absurd hm (by decide)
    · exact h.v10 hm
theorem kv_step {e : Nat × List UInt8 × List UInt8 × List UInt8} (h : Gd e) (st : Fs) (hs : st.sec = e.2.1) (i : Nat) : pstep st (i, kvL e) = ⟨st.found ++ [(i, e.2)], st.wrong, st.sec⟩ := by
  have h61 : (61 : UInt8) ∉ e.2.2.1 := fun hm => (let_no (key_mem h.k hm)).2.1 rfl
  have hc : Lib.cut (kvL e) [61] = (e.2.2.1, e.2.2.2, true) := cut_at _ _ h61
  have hK : asgK (kvL e) = e.2.2.1 := by unfold asgK; rw [hc]; exact key_trim h.k
  have hV : asgV (kvL e) = e.2.2.2 := by unfold asgV; rw [hc]; exact h.vt
  have hL : ¬ 4096 < (i, kvL e).2.length := by
    show ¬ 4096 < (kvL e).length
    unfold kvL
    rw [List.length_append, List.length_cons]
    have := h.kl
    omega
  have := step_asg (s := st) (x := (i, kvL e)) hL (by show asgB (kvL e) = true; unfold asgB; rw [hK, hc, h.k]; rfl) (by rw [hs]; cases hx : e.2.1 with
    | nil => exact absurd hx h.s0
    | cons a b => rfl)
  rw [this, hs]
  show Fs.mk (st.found ++ [(i, e.2.1, asgK (kvL e), asgV (kvL e))]) _ _ = _
  rw [hK, hV]
def scL (s : List UInt8) : List UInt8 := 91 :: (s ++ [93])
theorem sc_line (s : List UInt8) (ls : List (List UInt8)) (i : Nat) : wholesL (scL s :: ls) i 0 [] = (i + 1, scL s) :: wholesL ls (i + 1) 0 [] := by
  have e : scL s = (91 :: s) ++ [93] := rfl
  refine whole_one ls i ?_ ?_ ?_ ?_
  · rw [e]; exact cr_last _ 93 (by decide)
  · exact skip_no 0 91 _ (by decide)
  · rw [e]; exact on_last _ 93 (by decide)
  · refine trim_id (.inr ⟨?_, ?_⟩)
    · show blk 91 = false; decide
    · rw [e, getD_app]; decide
theorem sc_step {s : List UInt8} (h0 : s ≠ []) (hb : s.any brk = false) (hl : s.length + 2 ≤ 4096) (st : Fs) (i : Nat) : pstep st (i, scL s) = ⟨st.found, st.wrong, s⟩ := by
  have hP : Lib.hasPrefix (scL s) [91] = true := by unfold scL Lib.hasPrefix; simp [List.isPrefixOf]
  have hN : nameL (scL s) = s := by
    unfold scL
    rw [name_mid, hb]; rfl
  have hL : ¬ 4096 < (i, scL s).2.length := by
    show ¬ 4096 < (scL s).length
    unfold scL
    rw [List.length_cons, List.length_append, List.length_singleton]
    omega
  have := step_name (s := st) (x := (i, scL s)) hL (by show (asgB (scL s) && _) = false; rw [asg_brk hP]; rfl) hP (by show (nameL (scL s)).isEmpty = false; rw [hN]; cases s with
    | nil => exact absurd rfl h0
    | cons a b => rfl)
  rw [this]
  show Fs.mk _ _ (nameL (scL s)) = _
  rw [hN]
theorem sc_no10 {s : List UInt8} (h : (10 : UInt8) ∉ s) : (10 : UInt8) ∉ scL s := fun hm => by
  unfold scL at hm
  rcases List.mem_cons.mp hm with hm | hm
  · exact absurd hm (by decide)
  · rcases List.mem_append.mp hm with hm | hm
    · exact h hm
    · exact absurd (List.mem_singleton.mp hm) (by decide)
/-- The text that is put. -/
def backL : List UInt8 → List (Nat × List UInt8 × List UInt8 × List UInt8) → List UInt8
  | _, [] => []
  | s, e :: r => (if e.2.1 = s then [] else scL e.2.1 ++ [10]) ++ (kvL e ++ 10 :: backL e.2.1 r)
theorem back_fold : ∀ (fd : List (Nat × List UInt8 × List UInt8 × List UInt8)) (i : Nat) (st : Fs), (∀ e ∈ fd, Gd e ∧ Ve e.2.2.2) →
    ∃ fd' s', (wholesL (linesL (backL st.sec fd)) i 0 []).foldl pstep st = ⟨st.found ++ fd', st.wrong, s'⟩ ∧ fd'.map (·.2) = fd.map (·.2)
  | [], i, st, _ => by
    refine ⟨[], st.sec, ?_, rfl⟩
    rw [backL, lines_nil, whole_skip _ _ _ _ (by kernel_rfl), wholesL]
    simp
  | e :: r, i, st, h => by
    obtain ⟨hg, hv⟩ := h e (by simp)
    have hr := fun x hx => h x (List.mem_cons_of_mem e hx)
    by_cases hs : e.2.1 = st.sec
    · obtain ⟨fd', s', h1, h2⟩ := back_fold r (i + 1) ⟨st.found ++ [(i + 1, e.2)], st.wrong, st.sec⟩ hr
      refine ⟨(i + 1, e.2) :: fd', s', ?_, by rw [List.map_cons, List.map_cons, h2]⟩
      rw [backL, if_pos hs, List.nil_append, lines_at _ _ (kv_no10 hg), kv_line hg hv, List.foldl_cons, kv_step hg st hs.symm, hs, h1]
      simp
    · obtain ⟨fd', s', h1, h2⟩ := back_fold r (i + 1 + 1) ⟨st.found ++ [(i + 1 + 1, e.2)], st.wrong, e.2.1⟩ hr
      refine ⟨(i + 1 + 1, e.2) :: fd', s', ?_, by rw [List.map_cons, List.map_cons, h2]⟩
      have e1 : backL st.sec (e :: r) = scL e.2.1 ++ 10 :: (kvL e ++ 10 :: backL e.2.1 r) := by rw [backL, if_neg hs]; simp
      rw [e1, lines_at _ _ (sc_no10 hg.s10), sc_line, List.foldl_cons, sc_step hg.s0 hg.sb hg.sl, lines_at _ _ (kv_no10 hg), kv_line hg hv, List.foldl_cons, kv_step hg ⟨st.found, st.wrong, e.2.1⟩ rfl, h1]
      simp
/-- What is put is parsed as it was, without numbers. -/
theorem parse_put (fd : List (Nat × List UInt8 × List UInt8 × List UInt8)) (h : ∀ e ∈ fd, Gd e ∧ Ve e.2.2.2) : (parseL (backL [] fd)).wrong = [] ∧ (parseL (backL [] fd)).found.map (·.2) = fd.map (·.2) := by
  obtain ⟨fd', s', h1, h2⟩ := back_fold fd 0 ⟨[], [], []⟩ h
  have : parseL (backL [] fd) = ⟨[] ++ fd', [], s'⟩ := h1
  rw [this]
  exact ⟨rfl, h2⟩
/-- Lines hold no 10. -/
theorem lines_no10 : ∀ (n : Nat) (l : List UInt8), l.length ≤ n → ∀ x ∈ linesL l, (10 : UInt8) ∉ x
  | n, l, hn, x, hx => by
    by_cases hm : (10 : UInt8) ∈ l
    · obtain ⟨a, b, e, ha⟩ := List.eq_append_cons_of_mem hm
      rw [e, lines_at a b ha] at hx
      rcases List.mem_cons.mp hx with rfl | hx
      · exact ha
      · have hl : b.length < l.length := by rw [e, List.length_append, List.length_cons]; omega
        match n, hn with
        | 0, hn => omega
        | n + 1, hn => exact lines_no10 n b (by omega) x hx
    · rw [lines_last hm, List.mem_singleton] at hx
      rw [hx]; exact hm
theorem mem_suf {l p : List UInt8} {x : UInt8} (h : x ∈ Lib.trimSuffix l p) : x ∈ l := by
  unfold Lib.trimSuffix at h
  split at h
  · exact List.mem_of_mem_take h
  · exact h
theorem wholes_no10 : ∀ (ls : List (List UInt8)) (i b : Nat) (w : List UInt8), (∀ x ∈ ls, (10 : UInt8) ∉ x) → (10 : UInt8) ∉ w → ∀ y ∈ wholesL ls i b w, (10 : UInt8) ∉ y.2 ∧ trimL y.2 = y.2
  | [], i, b, w, _, hw, y, hy => by
    rw [wholesL] at hy
    split at hy
    · cases hy
    · rw [List.mem_singleton.mp hy]; exact ⟨fun h => hw (mem_trim h), trim_trim w⟩
  | l :: ls, i, b, w, hl, hw, y, hy => by
    have hl1 := hl l (by simp)
    have hls := fun x hx => hl x (List.mem_cons_of_mem l hx)
    have hp : (10 : UInt8) ∉ w ++ partL (crL l) := fun h => by
      rcases List.mem_append.mp h with h | h
      · exact hw h
      · exact hl1 (mem_suf (mem_suf h))
    rw [wholesL] at hy
    split at hy
    · exact wholes_no10 ls _ _ _ hls hw y hy
    · split at hy
      · refine wholes_no10 ls _ _ _ hls (fun h => ?_) y hy
        rcases List.mem_append.mp h with h | h
        · exact hp h
        · exact absurd (List.mem_singleton.mp h) (by decide)
      · rcases List.mem_cons.mp hy with rfl | hy
        · exact ⟨fun h => hp (mem_trim h), trim_trim _⟩
        · exact wholes_no10 ls _ _ _ hls (by simp) y hy
/-- What is found can be told again. -/
structure Si (s : Fs) : Prop where
  sec : s.sec = [] ∨ ((10 : UInt8) ∉ s.sec ∧ s.sec.any brk = false ∧ s.sec.length + 2 ≤ 4096)
  all : ∀ e ∈ s.found, Gd e
theorem cut_parts {X : List UInt8} (h : (Lib.cut X [61]).2.2 = true) : X = (Lib.cut X [61]).1 ++ 61 :: (Lib.cut X [61]).2.1 := by
  by_cases hm : (61 : UInt8) ∈ X
  · obtain ⟨a, b, e, ha⟩ := List.eq_append_cons_of_mem hm
    rw [e, cut_at a b ha]
  · rw [cut_no hm] at h; cases h
theorem name_parts {X : List UInt8} (h : (nameL X).isEmpty = false) : ∃ c m, X = c :: (m ++ [93]) ∧ nameL X = m ∧ m.any brk = false := by
  match X with
  | [] => cases h
  | c :: Y =>
    rcases List.eq_nil_or_concat Y with rfl | ⟨m, z, hY⟩
    · rw [name_short (by simp)] at h; cases h
    · rw [List.concat_eq_append] at hY
      subst hY
      rw [name_mid] at h ⊢
      split at h
      · rename_i hc
        rw [Bool.and_eq_true] at hc
        rw [if_pos (by rw [hc.1, hc.2]; rfl)]
        exact ⟨c, m, by rw [beq_iff_eq.mp hc.1], rfl, by simpa using hc.2⟩
      · cases h
theorem si_step {s : Fs} (h : Si s) {x : Nat × List UInt8} (hx : (10 : UInt8) ∉ x.2 ∧ trimL x.2 = x.2) : Si (pstep s x) := by
  unfold pstep
  split
  · exact ⟨h.sec, h.all⟩
  · rename_i hL
    split
    · rename_i ha
      refine ⟨h.sec, fun e he => ?_⟩
      rcases List.mem_append.mp he with he | he
      · exact h.all e he
      · rw [List.mem_singleton.mp he]
        rw [Bool.and_eq_true] at ha
        obtain ⟨ha, hs⟩ := ha
        unfold asgB at ha
        rw [Bool.and_eq_true] at ha
        have hp := cut_parts ha.1
        have hne : s.sec ≠ [] := fun e => by rw [e] at hs; exact absurd hs (by decide)
        obtain ⟨q1, q2, q3⟩ := h.sec.resolve_left hne
        have hk := trim_len (Lib.cut x.2 [61]).1
        have hv := trim_len (Lib.cut x.2 [61]).2.1
        have hl := congrArg List.length hp
        rw [List.length_append, List.length_cons] at hl
        refine ⟨hne, q1, q2, q3, ha.2, fun hm => hx.1 ?_, trim_trim _, ?_⟩
        · rw [hp]
          exact List.mem_append.mpr (.inr (List.mem_cons_of_mem _ (mem_trim hm)))
        · show (asgK x.2).length + 1 + (asgV x.2).length ≤ 4096
          unfold asgK asgV
          omega
    · split
      · split
        · refine ⟨.inl ?_, h.all⟩
          rename_i hn
          exact List.isEmpty_iff.mp hn
        · rename_i hn
          obtain ⟨c, m, e1, e2, e3⟩ := name_parts (by simpa using hn)
          refine ⟨.inr ?_, h.all⟩
          show (10 : UInt8) ∉ nameL x.2 ∧ (nameL x.2).any brk = false ∧ (nameL x.2).length + 2 ≤ 4096
          rw [e2]
          refine ⟨fun hm => hx.1 ?_, e3, ?_⟩
          · rw [e1]; exact List.mem_cons_of_mem _ (List.mem_append.mpr (.inl hm))
          · have := congrArg List.length e1
            rw [List.length_cons, List.length_append, List.length_singleton] at this
            omega
      · exact ⟨h.sec, h.all⟩
theorem si_fold : ∀ (pre : List (Nat × List UInt8)) (s : Fs), Si s → (∀ y ∈ pre, (10 : UInt8) ∉ y.2 ∧ trimL y.2 = y.2) → Si (pre.foldl pstep s)
  | [], _, h, _ => h
  | x :: pre, s, h, hp => si_fold pre (pstep s x) (si_step h (hp x (by simp))) fun y hy => hp y (List.mem_cons_of_mem x hy)
theorem parse_good (text : List UInt8) : ∀ e ∈ (parseL text).found, Gd e := by
  have h := si_fold (wholesL (linesL text) 0 0 []) ⟨[], [], []⟩ ⟨.inl rfl, fun e he => by cases he⟩ (wholes_no10 _ 0 0 [] (lines_no10 _ text (Nat.le_refl _)) (by simp))
  exact h.all
end Go.Proofs.YtokeepmlibolfaaDoor.Ln
