/-
  Layer 5: VqC VqD VqE VqF VqG, one behind the other.
-/
import Derived.Test.YtdbcjiapbehacaaGreatDoorVqY
/-! Layer 5: Write, Rename, List: the answers are the same, and what links the two sides holds behind them. -/
namespace Go.Proofs.YtdbcjiapbehacaaGreatDoor.Vp
open Go.RowKit Go.Maps
open Go.Proofs.YtdbcjiapbehacaaGreatDoor.Vf (pathOf)

section
variable {s : Pf} {fs : Vf.Fs} {path dir : ByteArray}
theorem modify_set {l : List Vf.Fl} {n : Nat} {y : Vf.Fl} {f : Vf.Fl → Vf.Fl} (h : l[n]? = some y) : l.modify n f = l.set n (f y) := by
  refine List.ext_getElem? fun j => ?_
  rw [List.getElem?_modify, List.getElem?_set]
  by_cases e : n = j
  · subst e
    have hl := Vf.lt_of_get h
    rw [h, if_pos rfl, if_pos hl]
    show some (if n = n then f y else y) = _
    rw [if_pos rfl]
  · rw [if_neg e]
    cases l[j]? with
    | none => rfl
    | some z =>
      show some (if n = j then f z else z) = _
      rw [if_neg e]
theorem Link.new_ (h : Link s fs) (b : ByteArray) : Link { s with made := s.made + 1, files := putFile s.files (s.made + 1) ⟨b, ⟨#[]⟩⟩ } { fs with files := fs.files ++ [⟨b, ⟨#[]⟩⟩] } := by
  refine ⟨h.room, h.down, h.crash, h.pos, by show (fs.files ++ [_]).length = s.made + 1; rw [List.length_append, h.made]; rfl, fun f x hx => ?_, h.dirs, h.names, h.dur, h.steps, h.each, h.apart⟩
  show putFile s.files (s.made + 1) ⟨b, ⟨#[]⟩⟩ (f + 1) = _
  have hx2 : (fs.files ++ [(⟨b, ⟨#[]⟩⟩ : Vf.Fl)])[f]? = some x := hx
  have hl := Vf.lt_of_get hx2
  rw [List.length_append, List.length_singleton, h.made] at hl
  unfold putFile
  by_cases e : f = s.made
  · subst e
    rw [if_pos rfl]
    rw [List.getElem?_append_right (by rw [h.made]; exact Nat.le_refl _), h.made, Nat.sub_self] at hx2
    injection hx2 with hx2
    rw [← hx2]
  · rw [if_neg (by omega)]
    rw [List.getElem?_append_left (by rw [h.made]; omega)] at hx2
    exact h.files f x hx2
theorem Link.was (h : Link s fs) (hi : Inv s) (ho : okS path) (hn : hasName path.data.toList = true) : Vf.wasOf fs (Vf.findIn path fs.dirs) = longS s (fileOf s path) := by
  cases hf : fileOf s path with
  | none => rw [h.find_no ho hn hf]; rfl
  | some i =>
    obtain ⟨k, j, d, x, hF⟩ := h.found hi ho hn hf
    obtain ⟨y, hy, hfy⟩ := h.get (i := i) (by have := hF.num; omega) hF.made
    have hi1 : i - 1 = x.f := by have := hF.num; omega
    rw [hi1] at hy
    rw [hF.find]
    unfold Vf.wasOf Vf.fileAt longS
    simp [hF.dir, hF.nm, hy, hfy]
theorem Link.write (h : Link s fs) (hi : Inv s) (ho : okS path) (b : ByteArray) : writeRes s path b = Vf.writeRes fs path b ∧ Link (writeS s path b) (Vf.writeFs fs path b) := by
  have hb := h.begin_ path false
  rw [if_neg (by simp)] at hb
  have hres : writeRes s path b = Vf.writeRes fs path b := by
    unfold writeRes Vf.writeRes
    rw [hb]
    by_cases h0 : beginRes s (hasName path.data.toList) = 0
    · have hn := begin_zero h0
      have hbn : ¬ (beginRes s (hasName path.data.toList) ≠ 0) := by rw [h0]; simp
      rw [if_neg hbn, if_neg hbn, up_link hn (hb.trans h0), h.many hi, h.used hi, h.was hi ho hn, h.room]
      simp only [h.dir_neg, h.dir_pos]
      have hff : (Vf.findIn path fs.dirs = none) = (fileOf s path = none) := by
        cases hf : fileOf s path with
        | none => rw [h.find_no ho hn hf]; simp
        | some i =>
          obtain ⟨k, j, d, x, hF⟩ := h.found hi ho hn hf
          rw [hF.find]; simp
      simp only [hff]
      cases isDirS s (plcOf path).d <;> simp
    · rw [if_pos h0, if_pos h0]
  refine ⟨hres, ?_⟩
  unfold writeS Vf.writeFs
  rw [← hres]
  by_cases hr : writeRes s path b = 0
  · have hrn : ¬ (writeRes s path b ≠ 0) := by rw [hr]; simp
    obtain ⟨w1, w2, w3, _, _⟩ := writeRes_ok hr
    have hn := begin_zero w1
    rw [if_neg hrn, if_neg hrn]
    cases hf : fileOf s path with
    | some i =>
      obtain ⟨k, j, d, x, hF⟩ := h.found hi ho hn hf
      obtain ⟨y, hy, hfy⟩ := h.get (i := i) (by have := hF.num; omega) hF.made
      have hi1 : i - 1 = x.f := by have := hF.num; omega
      rw [hi1] at hy
      rw [hF.find]
      have hfa : Vf.fileAt fs (k, j) = x.f := by unfold Vf.fileAt; simp [hF.dir, hF.nm]
      dsimp only
      rw [hfa, modify_set hy]
      have := h.tick.put (n := x.f) ⟨b, y.d⟩
      rw [tick_files, Vf.beginFs_files, hF.num] at this
      rw [hfy]
      exact this
    | none =>
      rw [h.find_no ho hn hf]
      dsimp only
      rw [up_link hn (hb.trans w1)]
      obtain ⟨k, d, e1, e2, e3⟩ := h.dir_yes w2
      rw [e1]
      have hc := canon_plc ho hn
      have hst : StOk (plcOf path).d ⟨⟨#[]⟩, (plcOf path).n, some (s.made + 1)⟩ := ⟨fun i e => by
        injection e with e
        exact ⟨hc, by omega⟩, .inl rfl, fun e => by cases e⟩
      have ht := h.tick.new_ b
      rw [tick_made, tick_files, Vf.beginFs_files] at ht
      have hkk : ({ Vf.beginFs fs with files := fs.files ++ [⟨b, ⟨#[]⟩⟩] } : Vf.Fs).dirs[k]? = some d := by
        show (Vf.beginFs fs).dirs[k]? = _
        rw [Vf.beginFs_dirs]; exact e2
      have := ht.change hkk e3 hst
      have es : stP (plcOf path).d ⟨⟨#[]⟩, (plcOf path).n, some (s.made + 1)⟩ = ⟨path, (fs.files.length : Int), ⟨#[]⟩⟩ := by
        unfold stP goneP
        dsimp only
        rw [if_pos rfl, h.made]
        congr 1
        · exact path_back hn
        · omega
      rw [es] at this
      have ed : ({ Vf.beginFs fs with files := fs.files ++ [⟨b, ⟨#[]⟩⟩] } : Vf.Fs).dirs = fs.dirs := Vf.beginFs_dirs fs
      rw [ed] at this
      exact this
  · rw [if_pos hr, if_pos hr]; exact h.tick
theorem up_some (hn : hasName path.data.toList = true) : Vf.pathUp path.data.toList = (plcOf path).d.data.toList := by unfold Vf.pathUp; rw [path_yes hn]; rfl
theorem up_full (hn : hasName path.data.toList = true) : (plcOf path).d.data.toList ≠ [] := by
  intro e
  have hs := good_slashed hn
  have hl : (plcOf path).d.data.toList = path.data.toList.take (max (cutOf path) 1) := by
    show (path.extract 0 (max (cutOf path) 1)).data.toList = _
    rw [Lib.extract_data]; rfl
  rw [hl] at e
  have h3 := congrArg List.length e
  rw [List.length_take] at h3
  have h4 : path.size = path.data.toList.length := Lib.size_eq path
  have := hs.1
  simp only [List.length_nil] at h3
  omega
theorem up_none (hn : hasName path.data.toList = false) : Vf.pathUp path.data.toList = [] := by
  unfold Vf.pathUp
  by_cases e : path.data.toList = [47]
  · rw [e, path_root]; rfl
  · rw [path_no hn e]; rfl
theorem data_eq {a b : ByteArray} : a.data.toList = b.data.toList ↔ a = b := ⟨fun h => ByteArray.ext (Array.ext' h), fun h => by rw [h]⟩
theorem Link.rename (h : Link s fs) (hi : Inv s) {a b : ByteArray} (ha : okS a) (hb : okS b) : renameRes s a b = Vf.renameRes fs a b ∧ Link (renameS s a b) (Vf.renameFs fs a b) := by
  have hbg := h.begin_ a false
  rw [if_neg (by simp)] at hbg
  have hres : renameRes s a b = Vf.renameRes fs a b := by
    unfold renameRes Vf.renameRes
    rw [hbg]
    by_cases h0 : beginRes s (hasName a.data.toList) = 0
    · have hna := begin_zero h0
      have hbn : ¬ (beginRes s (hasName a.data.toList) ≠ 0) := by rw [h0]; simp
      rw [if_neg hbn]
      unfold Vf.renameEnd
      have hup : (Vf.beginRes fs a.data.toList false).1 = (plcOf a).d.data.toList := by
        have := up_link (fs := fs) hna (hbg.trans h0)
        unfold Vf.upB at this
        have h2 := congrArg (fun z : ByteArray => z.data.toList) this
        simpa using h2
      rw [hup, hna, Bool.true_and]
      cases hnb : hasName b.data.toList with
      | false =>
        have h2 : beginRes s false = 2 := by
          rw [hna] at h0
          unfold beginRes at h0 ⊢
          split at h0
          · cases h0
          · rename_i h1; rw [if_neg h1]; rfl
        rw [h2, if_pos (by decide), up_none hnb, if_pos rfl]
      | true =>
        rw [hna] at h0
        have hbn2 : ¬ (beginRes s true ≠ 0) := by rw [h0]; simp
        rw [if_neg hbn2, up_some hnb, if_neg (up_full hnb)]
        simp only [h.dir_pos]
        cases hda : isDirS s a with
        | true => simp
        | false =>
          cases hdb : isDirS s b with
          | true => simp
          | false =>
            simp only [Bool.or_false, Bool.false_eq_true, if_false]
            cases hf : fileOf s a with
            | none => rw [h.find_no ha hna hf]
            | some i =>
              obtain ⟨k, j, d, x, hF⟩ := h.found hi ha hna hf
              rw [hF.find]
              dsimp only
              by_cases e : (plcOf a).d = (plcOf b).d
              · rw [if_neg (by simp [e]), if_pos (by rw [e])]
              · rw [if_pos e, if_neg (fun e2 => e (data_eq.1 e2))]
    · rw [if_pos h0]
      have hd : (tickS s).down = true ∨ hasName a.data.toList = false := by
        cases hna : hasName a.data.toList with
        | false => exact .inr rfl
        | true =>
          left
          rw [hna] at h0
          unfold beginRes at h0
          cases hdn : (tickS s).down with
          | true => rfl
          | false => rw [hdn] at h0; simp at h0
      have he : beginRes s (hasName a.data.toList && hasName b.data.toList) = beginRes s (hasName a.data.toList) := by
        rcases hd with hd | hd
        · unfold beginRes; rw [if_pos hd, if_pos hd]
        · rw [hd]; rfl
      rw [he, if_pos h0]
  refine ⟨hres, ?_⟩
  unfold renameS Vf.renameFs
  rw [← hres]
  by_cases hr : renameRes s a b = 0
  · have hrn : ¬ (renameRes s a b ≠ 0) := by rw [hr]; simp
    have hr2 := hr
    unfold renameRes at hr2
    split at hr2
    · rename_i h1; exact absurd hr2 h1
    · rename_i h1
      have hab := begin_zero (Decidable.byContradiction h1)
      rw [Bool.and_eq_true] at hab
      obtain ⟨hna, hnb⟩ := hab
      split at hr2
      · cases hr2
      · cases hf : fileOf s a with
        | none => rw [hf] at hr2; cases hr2
        | some i =>
          rw [hf] at hr2
          dsimp only at hr2
          split at hr2
          · cases hr2
          · rename_i hdd
            have hdd : (plcOf a).d = (plcOf b).d := Decidable.byContradiction hdd
            obtain ⟨k, j, d, x, hF⟩ := h.found hi ha hna hf
            rw [if_neg hrn]
            by_cases e : a = b
            · rw [if_pos (.inr (by rw [e])), if_pos (by rw [e])]; exact h.tick
            · have e1 : ¬ (renameRes s a b ≠ 0 ∨ plcOf a = plcOf b) := by
                rintro (e2 | e2)
                · exact e2 hr
                · exact e (by rw [← path_back hna, e2, path_back hnb])
              have e3 : ¬ (a.data.toList = b.data.toList) := fun e2 => e (data_eq.1 e2)
              rw [if_neg e1, if_neg e3, hF.find]
              dsimp only
              have hca := canon_plc ha hna
              have hcb := canon_plc hb hnb
              have hst : StOk (plcOf a).d ⟨(plcOf a).n, (plcOf b).n, some i⟩ := ⟨fun i' e => by
                injection e with e
                subst e
                exact ⟨by rw [hdd]; exact hcb, by have := hF.num; omega⟩, .inr hca, fun e => by cases e⟩
              have hkk : (Vf.beginFs fs).dirs[k]? = some d := by rw [Vf.beginFs_dirs]; exact hF.dir
              have := h.tick.change hkk hF.at_ hst
              have es : stP (plcOf a).d ⟨(plcOf a).n, (plcOf b).n, some i⟩ = ⟨b, (x.f : Int), a⟩ := by
                unfold stP goneP
                dsimp only
                rw [if_neg (canon_full hca)]
                have e5 : pathOfP ⟨(plcOf a).d, (plcOf b).n⟩ = b := by rw [hdd]; exact path_back hnb
                have e6 : pathOfP ⟨(plcOf a).d, (plcOf a).n⟩ = a := path_back hna
                rw [e5, e6]
                congr 1
                have := hF.num
                omega
              rw [es, Vf.beginFs_dirs] at this
              have em : fs.dirs.modify k (fun d => Vf.stepD d ⟨b, (x.f : Int), a⟩) = fs.dirs.modify k (fun d => Vf.stepD d ⟨b, (((d.names[j]?).map fun x => (x.f : Int)).getD 0), a⟩) := by
                refine List.ext_getElem? fun m => ?_
                rw [List.getElem?_modify, List.getElem?_modify]
                cases hm : fs.dirs[m]? with
                | none => rfl
                | some d' =>
                  show some (if k = m then _ else d') = some (if k = m then _ else d')
                  by_cases ek : k = m
                  · subst ek
                    rw [hF.dir] at hm
                    injection hm with hm
                    subst hm
                    rw [if_pos rfl, if_pos rfl, hF.nm]
                    rfl
                  · rw [if_neg ek, if_neg ek]
              rw [← em]
              exact this
  · rw [if_pos (.inl hr), if_pos hr]; exact h.tick

/-! ### List -/
theorem less_lt : ∀ (x y : List UInt8), Op.bytesLess x y = decide (x < y)
  | [], [] => by simp [Op.bytesLess]
  | _ :: _, [] => by simp [Op.bytesLess]
  | [], _ :: _ => by simp [Op.bytesLess]
  | a :: x, b :: y => by
    rw [Op.bytesLess, less_lt x y]
    simp only [List.cons_lt_cons_iff]
    by_cases h1 : a < b <;> by_cases h2 : a = b <;> by_cases h3 : x < y <;> simp [h1, h2, h3]
theorem gt_is (a b : Vf.Nm) : Vf.gtN a b = false ↔ a.p.toList ≤ b.p.toList := by
  unfold Vf.gtN
  rw [less_lt]
  constructor
  · intro h
    have h2 : (decide (a.p.toList < b.p.toList) || a.p.toList == b.p.toList) = true := by rw [Bool.not_eq_false'] at h; exact h
    rw [Bool.or_eq_true, decide_eq_true_eq, beq_iff_eq] at h2
    rcases h2 with h2 | h2
    · exact List.le_of_lt h2
    · rw [h2]; exact List.le_refl _
  · intro h
    by_cases e : a.p.toList = b.p.toList
    · rw [e]; simp
    · have h3 : a.p.toList < b.p.toList := by
        refine Decidable.byContradiction fun hn => e ?_
        exact List.le_antisymm h (List.not_lt.1 hn)
      simp [h3]
theorem posR_zero {x : Vf.Nm} : ∀ {l : List Vf.Nm}, Vf.posR x l ≠ 0 → ∃ z ∈ l, Vf.gtN z x = false
  | [], h => absurd rfl h
  | y :: ys, h => by
    unfold Vf.posR at h
    split at h
    · exact absurd rfl h
    · rename_i hc
      by_cases h0 : Vf.posR x ys = 0
      · refine ⟨y, List.mem_cons_self .., ?_⟩
        cases hg : Vf.gtN y x with
        | false => rfl
        | true => exact absurd ⟨h0, hg⟩ hc
      · obtain ⟨z, hz, hg⟩ := posR_zero h0
        exact ⟨z, List.mem_cons_of_mem _ hz, hg⟩
def Up2 (l : List Vf.Nm) : Prop := l.Pairwise fun a b => a.p.toList ≤ b.p.toList
theorem ins_up {x : Vf.Nm} : ∀ {l : List Vf.Nm}, Up2 l → Up2 (Vf.insN x l)
  | [], _ => by unfold Up2 Vf.insN; simp
  | y :: ys, h => by
    obtain ⟨h1, h2⟩ := List.pairwise_cons.1 h
    have ih := ins_up (x := x) h2
    have hmem : ∀ z, z ∈ Vf.insN x ys → z = x ∨ z ∈ ys := fun z hz => List.mem_cons.1 ((Vf.insN_perm x ys).mem_iff.1 hz)
    by_cases hc : Vf.posR x ys = 0 ∧ Vf.gtN y x = true
    · have e : Vf.insN x (y :: ys) = x :: y :: ys := by unfold Vf.insN Vf.posR; rw [if_pos hc]; rfl
      rw [e]
      have hxy : x.p.toList ≤ y.p.toList := by
        rcases List.le_total x.p.toList y.p.toList with h3 | h3
        · exact h3
        · have := (gt_is y x).2 h3
          rw [this] at hc; cases hc.2
      refine List.pairwise_cons.2 ⟨fun z hz => ?_, h⟩
      rcases List.mem_cons.1 hz with rfl | hz
      · exact hxy
      · exact List.le_trans hxy (h1 z hz)
    · have e : Vf.insN x (y :: ys) = y :: Vf.insN x ys := by unfold Vf.insN; rw [Vf.posR, if_neg hc]; rfl
      rw [e]
      have hyx : y.p.toList ≤ x.p.toList := by
        cases hg : Vf.gtN y x with
        | false => exact (gt_is y x).1 hg
        | true =>
          obtain ⟨z, hz, hzx⟩ := posR_zero (fun h0 => hc ⟨h0, hg⟩)
          exact List.le_trans (h1 z hz) ((gt_is z x).1 hzx)
      refine List.pairwise_cons.2 ⟨fun z hz => ?_, ih⟩
      rcases hmem z hz with rfl | hz
      · exact hyx
      · exact h1 z hz
theorem sort_up : ∀ (l o : List Vf.Nm), Up2 o → Up2 (l.foldl (fun o x => Vf.insN x o) o)
  | [], _, h => h
  | x :: l, o, h => by rw [List.foldl_cons]; exact sort_up l _ (ins_up h)
theorem sortN_up (l : List Vf.Nm) : Up2 (Vf.sortN l) := sort_up l [] List.Pairwise.nil
end
end Go.Proofs.YtdbcjiapbehacaaGreatDoor.Vp

/-! Layer 5: List on both sides. -/
namespace Go.Proofs.YtdbcjiapbehacaaGreatDoor.Vp
open Go.RowKit Go.Maps
open Go.Proofs.YtdbcjiapbehacaaGreatDoor.Vf (pathOf)

section
variable {s : Pf} {fs : Vf.Fs} {path dir : ByteArray}
def preP (dir : ByteArray) : List UInt8 := Lib.trimSuffix dir.data.toList [47] ++ [47]
theorem path_pre (x : Plc) : (pathOfP x).data.toList = preP x.d ++ x.n.data.toList := by
  unfold pathOfP preP
  simp only [ByteArray.data_append, Array.toList_append]
  rfl
theorem n_list (path : ByteArray) (hn : hasName path.data.toList = true) : (plcOf path).n.data.toList = path.data.toList.drop (cutOf path + 1) := by
  show (path.extract (cutOf path + 1) path.size).data.toList = _
  rw [Lib.extract_data, List.take_of_length_le]
  have := (good_slashed hn).cut.2
  rw [List.length_drop, ← Lib.size_eq]; omega
theorem pre_len (hn : hasName path.data.toList = true) : (preP (plcOf path).d).length = cutOf path + 1 := by
  have e := congrArg (fun z : ByteArray => z.data.toList.length) (path_back hn)
  rw [path_pre, List.length_append, n_list path hn, List.length_drop, ← Lib.size_eq] at e
  have := (good_slashed hn).cut.2
  omega
theorem from_is (hn : hasName path.data.toList = true) : Vf.fromOf (plcOf path).d = cutOf path + 1 := by
  have hs := good_slashed hn
  have hcut := hs.cut.2
  have hd : (plcOf path).d.data.toList = path.data.toList.take (max (cutOf path) 1) := by
    show (path.extract 0 (max (cutOf path) 1)).data.toList = _
    rw [Lib.extract_data]; rfl
  have hsz : (plcOf path).d.size = max (cutOf path) 1 := by
    rw [Lib.size_eq, hd, List.length_take, ← Lib.size_eq]
    have := hs.1
    omega
  obtain ⟨t, ht⟩ := hs.2
  unfold Vf.fromOf
  rw [Lib.toList_data]
  by_cases h0 : cutOf path = 0
  · rw [hd, h0, ht]; rfl
  · rw [if_neg, hsz]
    · omega
    · intro e
      have e2 : (plcOf path).d.data.toList = [47] := by simpa using e
      have h1 : cutOf path = 1 := by
        have := congrArg List.length e2
        rw [hd, List.length_take, ← Lib.size_eq] at this
        simp at this
        omega
      have hpl := path_back hn
      have e3 : path.data.toList = preP (plcOf path).d ++ (plcOf path).n.data.toList := by rw [← path_pre, hpl]
      have e4 : preP (plcOf path).d = [47] := by unfold preP; rw [e2]; rfl
      have := pre_len hn
      rw [e4, h1] at this
      simp at this
theorem cut_is {q : Plc × Nat} (hq : Canon q.1) : (Vf.cutN (Vf.fromOf q.1.d) (toN q)).data.toList = q.1.n.data.toList := by
  obtain ⟨_, p, hp, he⟩ := hq
  have hb := path_back hp
  unfold Vf.cutN
  show ((pathOfP q.1).extract (Vf.fromOf q.1.d) (pathOfP q.1).size).data.toList = _
  rw [← he, from_is hp, hb]
  rfl
theorem le_of_pre {p a b : List UInt8} (h : p ++ a ≤ p ++ b) : a ≤ b := by
  refine Decidable.byContradiction fun hn => ?_
  have h1 : b < a := List.not_le.1 hn
  exact List.not_lt.2 h (List.append_left_lt h1)
theorem Link.list (h : Link s fs) (hi : Inv s) (ho : okS path) : findDirRes s path = (Vf.listRes fs path).2 ∧ listX s path = (Vf.listRes fs path).1 := by
  obtain ⟨hr, hf⟩ := h.dirR hi ho
  unfold listX Vf.listRes
  rw [hr]
  by_cases h0 : findDirRes s path = 0
  · obtain ⟨k, d, e1, e2, e3, _⟩ := hf h0
    have hbn : ¬ (findDirRes s path ≠ 0) := by rw [h0]; simp
    rw [if_pos h0, if_neg hbn, e1]
    have hkk : fs.dirs[((k : Int), (0 : Int)).1.toNat]? = some d := e2
    rw [hkk]
    refine ⟨h0, ?_⟩
    dsimp only
    have hd := (h.each d (List.mem_of_getElem? e2)).1
    rw [e3] at hd
    have hC : ∀ x ∈ Vf.sortN d.names, ∃ q ∈ s.names, q.1.d = path ∧ x = toN q := fun x hx => mem_nmD (hd.mem_iff.1 ((Vf.sortN_perm d.names).mem_iff.1 hx))
    have key : (Vf.sortN d.names).map (fun x => (Vf.cutN (Vf.fromOf path) x).data.toList) = listP s path := by
      unfold listP sortB
      refine List.Perm.eq_of_pairwise (le := fun x y => decide (x ≤ y) = true) ?_ ?_ (List.pairwise_mergeSort ?_ ?_ _) ?_
      · intro a b _ _ h1 h2; exact List.le_antisymm (by simpa using h1) (by simpa using h2)
      · rw [List.pairwise_map]
        refine (sortN_up d.names).imp_of_mem fun {a b} ha hb hab => ?_
        obtain ⟨q, hq, hqd, rfl⟩ := hC a ha
        obtain ⟨q', hq', hqd', rfl⟩ := hC b hb
        have h1 := cut_is (h.names.canon q hq)
        have h2 := cut_is (h.names.canon q' hq')
        rw [hqd] at h1
        rw [hqd'] at h2
        rw [h1, h2, decide_eq_true_eq]
        have hab2 : (pathOfP q.1).data.toList ≤ (pathOfP q'.1).data.toList := by
          rw [← Lib.toList_data, ← Lib.toList_data]; exact hab
        rw [path_pre, path_pre, hqd, hqd'] at hab2
        exact le_of_pre hab2
      · intro a b c h1 h2; simp at h1 h2 ⊢; exact List.le_trans h1 h2
      · intro a b; simp; exact List.le_total a b
      · refine ((Vf.sortN_perm d.names).map _).trans ((hd.map _).trans (.trans (.of_eq ?_) (List.mergeSort_perm _ _).symm))
        unfold nmD nmsOf
        rw [List.map_map]
        refine List.map_congr_left fun q hq => ?_
        obtain ⟨h1, h2⟩ := List.mem_filter.1 hq
        unfold inDir at h2
        rw [decide_eq_true_eq] at h2
        have := cut_is (h.names.canon q h1)
        rw [h2] at this
        exact this
    rw [← key, List.map_map]
    exact List.map_congr_left fun x _ => rfl
  · rw [if_neg h0, if_pos h0]; exact ⟨rfl, rfl⟩
end
end Go.Proofs.YtdbcjiapbehacaaGreatDoor.Vp

/-! Layer 5: Reboot on both sides. -/
namespace Go.Proofs.YtdbcjiapbehacaaGreatDoor.Vp
open Go.RowKit Go.Maps
open Go.Proofs.YtdbcjiapbehacaaGreatDoor.Vf (pathOf)

section
variable {s : Pf} {fs : Vf.Fs} {path dir : ByteArray}
/-! ### The order of directories -/
theorem idx_get (l : List Vf.Dr) (j : Nat) : (Vf.idxN l)[j]? = (l[j]?).map fun d => ⟨d.p, j⟩ := by
  unfold Vf.idxN
  rw [List.getElem?_map, List.getElem?_zipIdx]
  cases l[j]? with
  | none => rfl
  | some d => simp
theorem idx_map (l : List Vf.Dr) : (Vf.idxN l).map (·.p) = l.map (·.p) := by
  refine List.ext_getElem? fun j => ?_
  rw [List.getElem?_map, idx_get, List.getElem?_map]
  cases l[j]? <;> rfl
theorem idx_mem {l : List Vf.Dr} {x : Vf.Nm} (h : x ∈ Vf.idxN l) : ∃ d, l[x.f]? = some d ∧ d.p = x.p := by
  obtain ⟨j, hj⟩ := List.mem_iff_getElem?.1 h
  rw [idx_get] at hj
  obtain ⟨d, hd, rfl⟩ := Option.map_eq_some_iff.1 hj
  exact ⟨d, hd, rfl⟩
theorem Link.order (h : Link s fs) : dirB s = (Vf.dirsIn fs).map (·.p) := by
  have key : sortB (s.waits.map fun x => x.1.data.toList) = (Vf.dirsIn fs).map fun x => x.p.data.toList := by
    unfold sortB
    refine (List.Perm.eq_of_pairwise (le := fun x y => decide (x ≤ y) = true) ?_ ?_ (List.pairwise_mergeSort ?_ ?_ _) ?_).symm
    · intro a b _ _ h1 h2; exact List.le_antisymm (by simpa using h1) (by simpa using h2)
    · rw [List.pairwise_map]
      exact (sortN_up _).imp fun {a b} hab => by
        rw [decide_eq_true_eq, ← Lib.toList_data, ← Lib.toList_data]; exact hab
    · intro a b c h1 h2; simp at h1 h2 ⊢; exact List.le_trans h1 h2
    · intro a b; simp; exact List.le_total a b
    · refine ((Vf.sortN_perm _).map _).trans (.trans ?_ (List.mergeSort_perm _ _).symm)
      have e1 : (Vf.idxN fs.dirs).map (fun x => x.p.data.toList) = (fs.dirs.map (·.p)).map (fun b : ByteArray => b.data.toList) := by
        rw [← idx_map, List.map_map]; rfl
      have e2 : (s.waits.map fun x => x.1.data.toList) = (s.waits.map (·.1)).map (fun b : ByteArray => b.data.toList) := by rw [List.map_map]; rfl
      rw [e1, e2]
      exact h.dirs.map _
  unfold dirB
  have e3 : dirsOf s.waits = sortB (s.waits.map fun x => x.1.data.toList) := rfl
  rw [e3, key, List.map_map]
  exact List.map_congr_left fun x _ => rfl

/-! ### The directories' round -/
structure Rd (ps : List ByteArray) (x : Pf × Nat) (r : Vf.Rst) (done : List Vf.Nm) : Prop where
  c : r.c = x.2
  dirs : r.dirs.map (·.p) = ps
  keys : ps.Perm (x.1.waits.map (·.1))
  apart : WApart x.1
  dur : NsOk x.1.dur
  steps : ∀ y ∈ x.1.waits, ∀ st ∈ y.2, StOk y.1 st
  each : ∀ d ∈ r.dirs, d.dur.Perm (nmD d.p x.1.dur) ∧ d.waits = (waitsOf x.1 d.p).map (stP d.p)
  told : ∀ (j : Nat) (d : Vf.Dr), r.dirs[j]? = some d → (∃ y ∈ done, y.f = j) → d.names.Perm (nmD d.p x.1.dur)
  all : r.all.Perm (done.flatMap fun y => nmD y.p x.1.dur)
theorem Rd.step {ps : List ByteArray} (hps : ps.Nodup) {x : Pf × Nat} {r : Vf.Rst} {done : List Vf.Nm} (h : Rd ps x r done) {y : Vf.Nm} (hy : ps[y.f]? = some y.p) (hdone : ∀ z ∈ done, ps[z.f]? = some z.p ∧ z.f ≠ y.f) : Rd ps (stepD x y.p) (Vf.rbDir r y) (done ++ [y]) := by
  have hy2 : (r.dirs.map (·.p))[y.f]? = some y.p := by rw [h.dirs]; exact hy
  rw [List.getElem?_map] at hy2
  obtain ⟨d, hd, hp⟩ := Option.map_eq_some_iff.1 hy2
  obtain ⟨hdd, hdw⟩ := h.each d (List.mem_of_getElem? hd)
  have hlen : d.waits.length = (waitsOf x.1 y.p).length := by rw [hdw, hp, List.length_map]
  obtain ⟨m, hm⟩ : ∃ m, x.2 % ((waitsOf x.1 y.p).length + 1) = m := ⟨_, rfl⟩
  have hst : ∀ z ∈ (waitsOf x.1 y.p).take m, StOk y.p z := fun z hz => by
    obtain ⟨ys, h1, h2⟩ := mem_waitsOf (List.mem_of_mem_take hz)
    exact h.steps _ h1 z h2
  rw [hp] at hdd hdw
  obtain ⟨t1, t2, t3⟩ := takeAll_link hst h.dur hdd
  have hback : Vf.backNames d m = ((((waitsOf x.1 y.p).take m).map (stP y.p)).foldl Vf.takenOf d.dur) := by
    unfold Vf.backNames
    rw [hdw, List.map_take]
  obtain ⟨B, hB⟩ : ∃ B, Vf.backNames d m = B := ⟨_, rfl⟩
  rw [← hback, hB] at t1
  have hx : stepD x y.p = (keepS x.1 y.p m, x.2 / ((waitsOf x.1 y.p).length + 1)) := by unfold stepD; rw [hm]
  have hr : Vf.rbDir r y = ⟨r.dirs.set y.f ⟨d.p, B, B, []⟩, r.c / (d.waits.length + 1), r.all ++ B⟩ := by
    unfold Vf.rbDir
    rw [hd]
    dsimp only
    rw [h.c, hlen, hm, hB]
  have hdirk : (look x.1.waits y.p).isSome = true := by
    have h1 : y.p ∈ x.1.waits.map (·.1) := h.keys.mem_iff.1 (List.mem_of_getElem? hy)
    obtain ⟨p, hp2, e⟩ := List.mem_map.1 h1
    have h2 := look_of_mem h.apart (a := p.1) (v := p.2) hp2
    rw [e] at h2
    rw [h2]; rfl
  have hne : ∀ z ∈ done, z.p ≠ y.p := fun z hz e => by
    obtain ⟨h1, h2⟩ := hdone z hz
    rw [e] at h1
    exact h2 ((List.getElem?_inj (Vf.lt_of_get h1) hps).1 (h1.trans hy.symm))
  rw [hx, hr]
  refine ⟨by show r.c / _ = x.2 / _; rw [h.c, hlen], ?_, ?_, store_apart h.apart y.p [], t2, fun z hz st hst' => ?_, fun e he => ?_, fun j e he hj => ?_, ?_⟩
  · show (r.dirs.set y.f ⟨d.p, B, B, []⟩).map (·.p) = ps
    rw [← h.dirs]
    refine List.ext_getElem? fun j => ?_
    rw [List.getElem?_map, List.getElem?_set, List.getElem?_map]
    by_cases e : y.f = j
    · subst e
      rw [if_pos rfl, if_pos (Vf.lt_of_get hd), hd]; rfl
    · rw [if_neg e]
  · exact h.keys.trans (keys_store h.apart hdirk).symm
  · rcases List.mem_cons.1 hz with rfl | hz
    · cases hst'
    · exact h.steps z (mem_strike.1 hz).1 st hst'
  · obtain ⟨j, hj⟩ := List.mem_iff_getElem?.1 he
    have hj2 : (r.dirs.set y.f ⟨d.p, B, B, []⟩)[j]? = some e := hj
    rw [List.getElem?_set] at hj2
    show e.dur.Perm (nmD e.p (takeAll x.1.dur y.p ((waitsOf x.1 y.p).take m))) ∧ e.waits = (waitsOf (keepS x.1 y.p m) e.p).map _
    rw [keep_wait]
    by_cases ej : y.f = j
    · subst ej
      rw [if_pos rfl, if_pos (Vf.lt_of_get hd)] at hj2
      injection hj2 with hj2
      subst hj2
      dsimp only
      rw [hp, if_pos rfl]
      exact ⟨t1, rfl⟩
    · rw [if_neg ej] at hj2
      have hep : e.p ≠ y.p := fun e3 => ej (by
        have h1 : ps[j]? = some e.p := by rw [← h.dirs, List.getElem?_map, hj2]; rfl
        rw [e3] at h1
        exact ((List.getElem?_inj (Vf.lt_of_get h1) hps).1 (h1.trans hy.symm)).symm)
      rw [if_neg hep, t3 _ hep]
      exact h.each e (List.mem_of_getElem? hj2)
  · have hj2 : (r.dirs.set y.f ⟨d.p, B, B, []⟩)[j]? = some e := he
    rw [List.getElem?_set] at hj2
    show e.names.Perm (nmD e.p (takeAll x.1.dur y.p ((waitsOf x.1 y.p).take m)))
    by_cases ej : y.f = j
    · subst ej
      rw [if_pos rfl, if_pos (Vf.lt_of_get hd)] at hj2
      injection hj2 with hj2
      subst hj2
      dsimp only
      rw [hp]
      exact t1
    · rw [if_neg ej] at hj2
      have hep : e.p ≠ y.p := fun e3 => ej (by
        have h1 : ps[j]? = some e.p := by rw [← h.dirs, List.getElem?_map, hj2]; rfl
        rw [e3] at h1
        exact ((List.getElem?_inj (Vf.lt_of_get h1) hps).1 (h1.trans hy.symm)).symm)
      rw [t3 _ hep]
      obtain ⟨z, hz, hzj⟩ := hj
      rcases List.mem_append.1 hz with hz | hz
      · exact h.told j e hj2 ⟨z, hz, hzj⟩
      · rw [List.mem_singleton.1 hz] at hzj; exact absurd hzj ej
  · show (r.all ++ B).Perm ((done ++ [y]).flatMap fun z => nmD z.p (takeAll x.1.dur y.p ((waitsOf x.1 y.p).take m)))
    rw [List.flatMap_append]
    refine List.Perm.append (h.all.trans (.of_eq ?_)) ?_
    · have hfm : ∀ l : List Vf.Nm, (∀ z ∈ l, z.p ≠ y.p) → l.flatMap (fun z => nmD z.p x.1.dur) = l.flatMap (fun z => nmD z.p (takeAll x.1.dur y.p ((waitsOf x.1 y.p).take m))) := fun l => by
        induction l with
        | nil => intro _; rfl
        | cons a l ih =>
          intro hl
          rw [List.flatMap_cons, List.flatMap_cons, ih (fun z hz => hl z (List.mem_cons_of_mem _ hz)), t3 _ (hl a (List.mem_cons_self ..))]
      exact hfm done hne
    · rw [List.flatMap_cons, List.flatMap_nil, List.append_nil]
      exact t1
theorem Rd.run {ps : List ByteArray} (hps : ps.Nodup) : ∀ (L : List Vf.Nm) (x : Pf × Nat) (r : Vf.Rst) (done : List Vf.Nm), Rd ps x r done → (∀ z ∈ done ++ L, ps[z.f]? = some z.p) → (done ++ L).Pairwise (fun a b => a.f ≠ b.f) → Rd ps ((L.map (·.p)).foldl stepD x) (L.foldl Vf.rbDir r) (done ++ L)
  | [], x, r, done, h, _, _ => by rw [List.append_nil]; exact h
  | y :: L, x, r, done, h, hm, hp => by
    have h1 := h.step hps (hm y (by simp)) fun z hz => ⟨hm z (by simp [hz]), (List.pairwise_append.1 hp).2.2 z hz y (List.mem_cons_self ..)⟩
    have e : done ++ y :: L = (done ++ [y]) ++ L := by simp
    rw [e] at hm hp ⊢
    exact Rd.run hps L _ _ _ h1 hm hp

/-! ### The files' round -/
structure Fd (names : List (Plc × Nat)) (made : Nat) (x : Pf × Nat) (y : List Vf.Fl × Nat) : Prop where
  c : y.2 = x.2
  names : x.1.names = names
  made : y.1.length = made
  files : ∀ f z, y.1[f]? = some z → x.1.files (f + 1) = ⟨z.b, z.d⟩
theorem Fd.step {names : List (Plc × Nat)} {made : Nat} {x : Pf × Nat} {y : List Vf.Fl × Nat} (h : Fd names made x y) {q : Plc} {i : Nat} (hq : look names q = some i) (h1 : 1 ≤ i) (hi : i ≤ made) (p : ByteArray) : Fd names made (stepF x q) (Vf.rbFile y ⟨p, i - 1⟩) := by
  have hl : i - 1 < y.1.length := by rw [h.made]; omega
  obtain ⟨z, hz⟩ : ∃ z, y.1[i - 1]? = some z := ⟨_, List.getElem?_eq_getElem hl⟩
  have hf := h.files _ z hz
  rw [show i - 1 + 1 = i by omega] at hf
  have hx : stepF x q = ({ x.1 with files := putFile x.1.files i (comeS (x.1.files i) x.2).1 }, (comeS (x.1.files i) x.2).2) := by
    unfold stepF; rw [h.names, hq]
  have hy : Vf.rbFile y ⟨p, i - 1⟩ = if z.b.toList == z.d.toList then y else (y.1.set (i - 1) ⟨Vf.backText z (y.2 % (z.b.size + 2)), Vf.backText z (y.2 % (z.b.size + 2))⟩, y.2 / (z.b.size + 2)) := by
    unfold Vf.rbFile
    dsimp only
    rw [hz]
  rw [hx, hy, hf]
  by_cases e : z.b = z.d
  · have e1 : (z.b.toList == z.d.toList) = true := by rw [e]; simp
    rw [if_pos e1]
    have e2 : comeS ⟨z.b, z.d⟩ x.2 = (⟨z.b, z.d⟩, x.2) := comeS_same e _
    rw [e2]
    refine ⟨h.c, h.names, h.made, fun f z' hz' => ?_⟩
    show putFile x.1.files i ⟨z.b, z.d⟩ (f + 1) = _
    unfold putFile
    by_cases ei : f + 1 = i
    · rw [if_pos ei]
      have : f = i - 1 := by omega
      rw [this, hz] at hz'
      injection hz' with hz'
      rw [hz']
    · rw [if_neg ei]; exact h.files f z' hz'
  · have e1 : ¬ ((z.b.toList == z.d.toList) = true) := fun h2 => e (bytes_eq.1 (by simpa using h2))
    rw [if_neg e1]
    have e2 : comeS ⟨z.b, z.d⟩ x.2 = (⟨Vf.backText z (x.2 % (z.b.size + 2)), Vf.backText z (x.2 % (z.b.size + 2))⟩, x.2 / (z.b.size + 2)) := by
      unfold comeS
      rw [if_neg e]
      rfl
    rw [e2, h.c]
    refine ⟨rfl, h.names, by show (y.1.set _ _).length = _; rw [List.length_set]; exact h.made, fun f z' hz' => ?_⟩
    show putFile x.1.files i _ (f + 1) = _
    have hz2 : (y.1.set (i - 1) (⟨Vf.backText z (x.2 % (z.b.size + 2)), Vf.backText z (x.2 % (z.b.size + 2))⟩ : Vf.Fl))[f]? = some z' := hz'
    rw [List.getElem?_set] at hz2
    unfold putFile
    by_cases ei : f + 1 = i
    · have ef : i - 1 = f := by omega
      rw [if_pos ei]
      rw [if_pos ef, if_pos hl] at hz2
      injection hz2 with hz2
      rw [← hz2]
    · rw [if_neg ei]
      rw [if_neg (by omega)] at hz2
      exact h.files f z' hz2
theorem Fd.run {names : List (Plc × Nat)} {made : Nat} : ∀ (qs : List Plc) (x : Pf × Nat) (y : List Vf.Fl × Nat), Fd names made x y → (∀ q ∈ qs, ∃ i, look names q = some i ∧ 1 ≤ i ∧ i ≤ made) → Fd names made (qs.foldl stepF x) ((qs.map fun q => (⟨pathOfP q, (look names q).getD 0 - 1⟩ : Vf.Nm)).foldl Vf.rbFile y)
  | [], _, _, h, _ => h
  | q :: qs, x, y, h, hq => by
    obtain ⟨i, h1, h2, h3⟩ := hq q (List.mem_cons_self ..)
    rw [List.map_cons, List.foldl_cons, List.foldl_cons, h1]
    exact Fd.run qs _ _ (h.step h1 h2 h3 _) fun q' hq' => hq q' (List.mem_cons_of_mem _ hq')
/-- Names, directory by directory. -/
theorem flat_split : ∀ (ps : List ByteArray), ps.Nodup → ∀ m : List (Plc × Nat), (∀ q ∈ m, q.1.d ∈ ps) → (ps.flatMap fun p => m.filter (inDir p)).Perm m
  | [], _, m, h => by
    cases m with
    | nil => exact .refl _
    | cons q m => exact absurd (h q (List.mem_cons_self ..)) (by simp)
  | p :: ps, hn, m, h => by
    obtain ⟨n1, n2⟩ := List.nodup_cons.1 hn
    rw [List.flatMap_cons]
    have ih := flat_split ps n2 (m.filter fun q => !inDir p q) fun q hq => by
      obtain ⟨h1, h2⟩ := List.mem_filter.1 hq
      unfold inDir at h2
      have : q.1.d ≠ p := by simpa using h2
      exact (List.mem_cons.1 (h q h1)).resolve_left this
    have e : ∀ l : List ByteArray, p ∉ l → (l.flatMap fun p' => (m.filter fun q => !inDir p q).filter (inDir p')) = l.flatMap fun p' => m.filter (inDir p') := fun l => by
      induction l with
      | nil => intro _; rfl
      | cons a l ih =>
        intro hl
        rw [List.flatMap_cons, List.flatMap_cons, ih (fun e => hl (List.mem_cons_of_mem _ e))]
        congr 1
        rw [List.filter_filter]
        refine List.filter_congr fun q _ => ?_
        unfold inDir
        by_cases hd : q.1.d = a
        · have : a ≠ p := fun e => hl (by rw [e]; exact List.mem_cons_self ..)
          simp [hd, this]
        · simp [hd]
    rw [e ps n1] at ih
    exact (ih.append_left _).trans (List.filter_append_perm _ _)
end
end Go.Proofs.YtdbcjiapbehacaaGreatDoor.Vp

/-! Layer 5: what links the two sides holds behind any call of a script, and the answers are the same. -/
namespace Go.Proofs.YtdbcjiapbehacaaGreatDoor.Vp
open Go.RowKit Go.Maps
open Go.Proofs.YtdbcjiapbehacaaGreatDoor.Vf (pathOf)

section
variable {s : Pf} {fs : Vf.Fs} {path dir : ByteArray}
theorem idx_apart (l : List Vf.Dr) : (Vf.idxN l).Pairwise fun a b => a.f ≠ b.f := by
  rw [List.pairwise_iff_getElem]
  intro i j hi hj hij e
  have h1 := idx_get l i
  have h2 := idx_get l j
  rw [List.getElem?_eq_getElem hi] at h1
  rw [List.getElem?_eq_getElem hj] at h2
  obtain ⟨d1, _, e1⟩ := Option.map_eq_some_iff.1 h1.symm
  obtain ⟨d2, _, e2⟩ := Option.map_eq_some_iff.1 h2.symm
  rw [← e1, ← e2] at e
  have : i = j := e
  omega
theorem mid_made : ∀ (ds : List ByteArray) (x : Pf × Nat), (ds.foldl stepD x).1.made = x.1.made
  | [], _ => rfl
  | d :: ds, x => by rw [List.foldl_cons, mid_made ds (stepD x d)]; rfl
theorem leP_is (x y : Plc) : leP x y = true ↔ (pathOfP x).data.toList ≤ (pathOfP y).data.toList := by
  have e : leP x y = leBy (pathL x) (pathL y) := rfl
  rw [e, ← leBy_eq, decide_eq_true_eq]
  rfl
theorem Link.reboot (h : Link s fs) (hi : Inv s) (n : Int) : Link (rebootS s n) (Vf.rebootFs fs n) := by
  have hps := h.nodup
  obtain ⟨L, hL⟩ : ∃ L, Vf.dirsIn fs = L := ⟨_, rfl⟩
  have hLp : L.Perm (Vf.idxN fs.dirs) := by rw [← hL]; exact Vf.sortN_perm _
  have hLm : ∀ z ∈ ([] : List Vf.Nm) ++ L, (fs.dirs.map (·.p))[z.f]? = some z.p := fun z hz => by
    obtain ⟨d, h1, h2⟩ := idx_mem (hLp.mem_iff.1 (by simpa using hz))
    rw [List.getElem?_map, h1, ← h2]; rfl
  have hLa : (([] : List Vf.Nm) ++ L).Pairwise fun a b => a.f ≠ b.f := by
    rw [List.nil_append]
    exact (hLp.pairwise_iff (fun {_ _} h => Ne.symm h)).2 (idx_apart _)
  have R0 : Rd (fs.dirs.map (·.p)) (s, cntOf n) ⟨fs.dirs, Vf.u64 n, []⟩ [] := ⟨rfl, rfl, h.dirs, h.apart, h.dur, h.steps, fun d hd => (h.each d hd).2, fun j d _ hj => (by
    obtain ⟨_, hz, _⟩ := hj
    cases hz), .refl _⟩
  have R := Rd.run hps L _ _ [] R0 hLm hLa
  rw [List.nil_append] at R
  have hord := h.order
  rw [hL] at hord
  rw [← hord] at R
  have er : Vf.rbDirs fs n = L.foldl Vf.rbDir ⟨fs.dirs, Vf.u64 n, []⟩ := by unfold Vf.rbDirs; rw [hL]
  rw [← er] at R
  have em : (dirB s).foldl stepD (s, cntOf n) = midS s n := rfl
  rw [em] at R
  obtain ⟨m, hm⟩ : ∃ m, midS s n = m := ⟨_, rfl⟩
  obtain ⟨r, hr⟩ : ∃ r, Vf.rbDirs fs n = r := ⟨_, rfl⟩
  have mf : m.1.files = s.files := by rw [← hm]; exact mid_files _ _
  have mm : m.1.made = s.made := by rw [← hm]; exact mid_made _ _
  have mb : Base m.1 := by rw [← hm]; exact Base.mid _ _ hi.base
  have md : ∀ e, isDirS m.1 e = isDirS s e := fun e => by rw [← hm]; exact mid_dir (dirB s) (s, cntOf n) (fun d hd => dirB_dirs hd) e
  rw [hm, hr] at R
  have hLd : (L.map (·.p)).Perm (fs.dirs.map (·.p)) := by rw [← idx_map]; exact hLp.map _
  have hall : r.all.Perm (m.1.dur.map toN) := by
    refine R.all.trans ?_
    have e1 : (L.flatMap fun y => nmD y.p m.1.dur) = ((L.map (·.p)).flatMap fun p => m.1.dur.filter (inDir p)).map toN := by
      rw [List.map_flatMap, List.flatMap_map]; rfl
    rw [e1]
    refine (flat_split _ (hLd.nodup_iff.2 hps) _ fun q hq => ?_).map _
    have h1 := mb.dirs q.1 q.2 (look_of_mem R.dur.apart hq)
    rw [md] at h1
    obtain ⟨d, hd, e⟩ := h.isDir.1 h1
    exact hLd.mem_iff.2 (List.mem_map.2 ⟨d, hd, e⟩)
  obtain ⟨qs, hqs⟩ : ∃ qs, sortP (m.1.dur.map (·.1)) = qs := ⟨_, rfl⟩
  have hqp : qs.Perm (m.1.dur.map (·.1)) := by rw [← hqs]; exact sortP_perm _
  have hqm : ∀ q ∈ qs, ∃ i, (q, i) ∈ m.1.dur ∧ look m.1.dur q = some i := fun q hq => by
    obtain ⟨p, hp, rfl⟩ := List.mem_map.1 (hqp.mem_iff.1 hq)
    exact ⟨p.2, hp, look_of_mem R.dur.apart hp⟩
  have hsort : Vf.sortN r.all = qs.map fun q => (⟨pathOfP q, (look m.1.dur q).getD 0 - 1⟩ : Vf.Nm) := by
    refine List.Perm.eq_of_pairwise (le := fun (a b : Vf.Nm) => a.p.toList ≤ b.p.toList) ?_ (sortN_up _) ?_ ?_
    · intro a b ha hb h1 h2
      have e : a.p = b.p := bytes_eq.1 (List.le_antisymm h1 h2)
      obtain ⟨p, hp, rfl⟩ := List.mem_map.1 (hall.mem_iff.1 ((Vf.sortN_perm _).mem_iff.1 ha))
      obtain ⟨q, hq, rfl⟩ := List.mem_map.1 hb
      obtain ⟨i, hi1, hi2⟩ := hqm q hq
      have h3 : p.1 = q := (R.dur.canon p hp).inj (R.dur.canon _ hi1) e
      have h4 : look m.1.dur p.1 = some p.2 := look_of_mem R.dur.apart hp
      unfold toN
      rw [← h3, h4]; rfl
    · rw [List.pairwise_map, ← hqs]
      exact (List.pairwise_mergeSort leP_trans leP_total _).imp fun {a b} hab => by
        rw [Lib.toList_data, Lib.toList_data]
        exact (leP_is a b).1 hab
    · refine (Vf.sortN_perm _).trans (hall.trans ?_)
      have e1 : m.1.dur.map toN = (m.1.dur.map (·.1)).map fun q => (⟨pathOfP q, (look m.1.dur q).getD 0 - 1⟩ : Vf.Nm) := by
        rw [List.map_map]
        refine List.map_congr_left fun p hp => ?_
        have h4 : look m.1.dur p.1 = some p.2 := look_of_mem R.dur.apart hp
        show toN p = _
        unfold toN
        dsimp only [Function.comp]
        rw [h4]; rfl
      rw [e1]
      exact (hqp.map _).symm
  have F0 : Fd m.1.dur s.made (cloneS m.1, m.2) (fs.files, r.c) := ⟨R.c, rfl, h.made, fun f z hz => by
    show m.1.files (f + 1) = _
    rw [mf]; exact h.files f z hz⟩
  have F := Fd.run qs _ _ F0 fun q hq => by
    obtain ⟨i, h1, h2⟩ := hqm q hq
    exact ⟨i, h2, R.dur.one _ h1, by have := mb.made.1 q i h2; rw [mm] at this; exact this⟩
  rw [← hsort] at F
  have el : lateS s n = qs.foldl stepF (cloneS m.1, m.2) := by unfold lateS; rw [hm, hqs]
  have ef : Vf.rbFiles fs n = (Vf.sortN r.all).foldl Vf.rbFile (fs.files, r.c) := by unfold Vf.rbFiles; rw [hr]
  rw [← el, ← ef] at F
  obtain ⟨l1, l2, l3, l4, _⟩ := late_frame qs (cloneS m.1, m.2)
  rw [← el] at l1 l2 l3 l4
  have hw : ∀ d, waitsOf (rebootS s n) d = waitsOf m.1 d := fun d => by
    show (look (lateS s n).1.waits d).getD [] = _
    rw [l3]; rfl
  have hNm : (rebootS s n).names = m.1.dur := l1
  have hDr : (rebootS s n).dur = m.1.dur := l2
  refine ⟨?_, rfl, fun _ => rfl, Int.le_refl _, ?_, F.files, ?_, by rw [hNm]; exact R.dur, by rw [hDr]; exact R.dur, fun x hx => ?_, fun d hd => ?_, ?_⟩
  · exact h.room.trans (room_do s ⟨9, ⟨#[]⟩, ⟨#[]⟩, n⟩).symm
  · show (Vf.rbFiles fs n).1.length = (lateS s n).1.made
    rw [F.made, l4]
    exact mm.symm
  · show ((Vf.rbDirs fs n).dirs.map (·.p)).Perm ((lateS s n).1.waits.map (·.1))
    rw [hr, l3, R.dirs]
    exact R.keys
  · have hx2 : x ∈ (lateS s n).1.waits := hx
    rw [l3] at hx2
    exact R.steps x hx2
  · have hd2 : d ∈ r.dirs := by rw [← hr]; exact hd
    obtain ⟨j, hj⟩ := List.mem_iff_getElem?.1 hd2
    rw [hNm, hDr, hw]
    refine ⟨R.told j d hj ?_, R.each d hd2⟩
    have hl : j < (Vf.idxN fs.dirs).length := by
      have h1 := Vf.lt_of_get hj
      have h2 : r.dirs.length = fs.dirs.length := by
        have := congrArg List.length R.dirs
        rwa [List.length_map, List.length_map] at this
      have h3 : (Vf.idxN fs.dirs).length = fs.dirs.length := by
        have := congrArg List.length (idx_map fs.dirs)
        rwa [List.length_map, List.length_map] at this
      omega
    have h4 := idx_get fs.dirs j
    rw [List.getElem?_eq_getElem hl] at h4
    obtain ⟨d1, _, e1⟩ := Option.map_eq_some_iff.1 h4.symm
    exact ⟨_, hLp.mem_iff.2 (List.getElem_mem hl), by rw [← e1]⟩
  · show WApart _
    unfold WApart
    show ((lateS s n).1.waits).Pairwise _
    rw [l3]
    exact R.apart
theorem link_new (most : Int) : Link (newS (max most 0)) (Vf.newFs most) := by
  refine ⟨Int.max_comm _ _, rfl, fun _ => rfl, Int.le_refl _, rfl, fun f x hx => ?_, .refl _, ⟨fun q hq => ?_, fun q hq => ?_, List.Pairwise.nil⟩, ⟨fun q hq => ?_, fun q hq => ?_, List.Pairwise.nil⟩, fun x hx st hst => ?_, fun d hd => ?_, ?_⟩
  · have : ([] : List Vf.Fl)[f]? = some x := hx
    simp at this
  · cases hq
  · cases hq
  · cases hq
  · cases hq
  · have : x ∈ [(rootB, ([] : List Stp))] := hx
    rw [List.mem_singleton.1 this] at hst
    cases hst
  · have : d ∈ [(⟨⟨#[47]⟩, [], [], []⟩ : Vf.Dr)] := hd
    rw [List.mem_singleton.1 this]
    exact ⟨.refl _, .refl _, by
      have e : waitsOf (newS (max most 0)) ⟨#[47]⟩ = [] := by
        have := waits_store [] rootB ⟨#[47]⟩ []
        unfold waitsOf newS
        simp [look, rootB]
      rw [e]; rfl⟩
  · show List.Pairwise _ [(rootB, ([] : List Stp))]
    simp
/-- Any call of a script. -/
theorem play_link (h : Link s fs) (hi : Inv s) (o : Op) (ha : okS o.a) (hb : okS o.b) : doRes s fs o = true ∧ Link (doS s o) (doG fs o) := by
  unfold doRes doS doG
  obtain ⟨n, hn⟩ : ∃ n, (o.kind % 11).toNat = n := ⟨_, rfl⟩
  rw [hn]
  match n with
  | 0 =>
    obtain ⟨h1, h2⟩ := h.mkdir hi ha
    exact ⟨decide_eq_true h1, h2⟩
  | 1 =>
    obtain ⟨h1, h2⟩ := h.write hi ha o.b
    exact ⟨decide_eq_true h1, h2⟩
  | 2 =>
    obtain ⟨h1, h2⟩ := h.sync hi ha
    exact ⟨decide_eq_true h1, h2⟩
  | 3 =>
    obtain ⟨h1, h2⟩ := h.syncDir hi ha
    exact ⟨decide_eq_true h1, h2⟩
  | 4 =>
    obtain ⟨h1, h2⟩ := h.rename hi ha hb
    exact ⟨decide_eq_true h1, h2⟩
  | 5 =>
    obtain ⟨h1, h2⟩ := h.remove hi ha
    exact ⟨decide_eq_true h1, h2⟩
  | 6 =>
    obtain ⟨h1, h2⟩ := h.read hi ha
    refine ⟨?_, h.tick⟩
    show (decide ((findRes s o.a).2 = (Vf.readRes fs o.a).2) && ((readX s o.a).toList == (Vf.readRes fs o.a).1.toList)) = true
    rw [decide_eq_true h1, h2]; simp
  | 7 =>
    obtain ⟨h1, h2⟩ := h.list hi ha
    refine ⟨?_, h.tick⟩
    show (decide (findDirRes s o.a = (Vf.listRes fs o.a).2) && sameL (listX s o.a) (Vf.listRes fs o.a).1) = true
    rw [decide_eq_true h1, h2, sameL_self]; rfl
  | 8 => exact ⟨rfl, h.room, h.down, fun _ => rfl, Int.le_max_right _ _, h.made, h.files, h.dirs, h.names, h.dur, h.steps, h.each, h.apart⟩
  | 9 => exact ⟨rfl, h.reboot hi o.n⟩
  | _ + 10 => exact ⟨rfl, h⟩
end
end Go.Proofs.YtdbcjiapbehacaaGreatDoor.Vp

/-! Layer 5: the pair's looks. -/
namespace Go.Proofs.YtdbcjiapbehacaaGreatDoor.Vp
open Go.RowKit Go.Maps
open Go.Proofs.YtdbcjiapbehacaaGreatDoor.Vf (Hold OwnR Owns Fs FineD Moves bl_drewN wpMixG_free wpMixG_turn wpMixG_end permL)

/-- A file system, and one of the document's, in blocks from w's end on. -/
structure Both (w : World) (p : Nat) (s : Pf) (l : Loc) (q : Nat) (fs : Fs) (W : World) : Prop where
  one : One w p s l W
  doc : ∃ vf gd cd dv, Owns W q fs vf gd cd dv ∧ ∀ b, Vf.Foot q gd vf dv b → w.heap.size ≤ b
section
variable {w W W' V : World} {P p q pr : Nat} {s s' : Pf} {l : Loc} {fs fs' : Fs}
theorem Both.keep (h : Both w p s l q fs W) (hb : Below W.heap.size W W') : Both w p s l q fs W' := by
  obtain ⟨vf, gd, cd, dv, hO, hn⟩ := h.doc
  exact ⟨h.one.keep hb, ⟨vf, gd, cd, dv, hO.below hb, hn⟩⟩
theorem Both.onF (h : Both w p s l q fs W) (ha : After W p s s' l W') : ∃ l', Both w p s' l' q fs W' := by
  obtain ⟨l', h1⟩ := h.one.on ha
  obtain ⟨l2, hA, hm⟩ := ha
  obtain ⟨vf, gd, cd, dv, hO, hn⟩ := h.doc
  exact ⟨l', h1, ⟨vf, gd, cd, dv, owns_doc hO fun g hg => hm.stay g (doc_lt hg) fun hf => foot_not_doc h.one.f hf hg, hn⟩⟩
theorem copy_new {l' : Loc} (h : Duo w P p s l pr fs W) (hA : At V q s l') (hb : Below W.heap.size W V) (hn : ∀ b, Foot q s l' b → W.heap.size ≤ b) : One W q s l' V ∧ Duo w P p s l pr fs V := ⟨⟨hA, hn, hb⟩, h.keep hb⟩
theorem rebootB (h : Both w p s l q fs W) {t : Nat} (hf : FineD fs t) (ht : t ≤ 200) (n : Int) :
    Calls Tryz.prog 39 #[.pointer (some ⟨q, 0, none⟩), .int .i64 n] W fun e W' => (∃ r, e = .returned r) ∧ Both w p s l q (Vf.rebootFs fs n) W' := by
  obtain ⟨vf, gd, cd, dv, hO, hn⟩ := h.doc
  refine (Vf.reboot_any q gd cd fs vf dv n t W hO hf ht).mono ?_
  rintro e W' ⟨he, dv', hO', hm⟩
  refine ⟨he, ⟨h.one.f.keep fun g hg => hm.stay g (h.one.f.lt hg) fun hf => foot_not_doc h.one.f hg (foot_doc hO hf), h.one.fn, below_moves h.one.below hm hn⟩, ⟨vf, gd, cd, dv', hO', fun b hb => ?_⟩⟩
  rcases hm.new b hb with e | e
  · exact hn b e
  · exact Nat.le_trans h.one.below.size e
theorem usedB (h : Both w p s l q fs W) {t : Nat} (hf : FineD fs t) (ht : t ≤ 200) :
    Calls Tryz.prog 41 #[.pointer (some ⟨q, 0, none⟩)] W fun e W' => e = .returned (.int .i64 (Vf.usedD fs fs.dirs)) ∧ Both w p s l q fs W' := by
  obtain ⟨vf, gd, cd, dv, hO, hn⟩ := h.doc
  refine (Vf.rused_any q gd cd fs vf dv W hO.sees (hf.rfit ht).named (hf.rfit ht).used).mono ?_
  rintro e W' ⟨he, m, rfl⟩
  exact ⟨he, h.keep (bl_drewN (Below.refl _ _) _)⟩
theorem Both.down (h : Both w p s l q fs W) : W.cell? ⟨q, 3, none⟩ = some (.bool fs.down) := by
  obtain ⟨vf, gd, cd, dv, hO, hn⟩ := h.doc
  rw [hO.sees.top.cell]; rfl
set_option maxRecDepth 100000 in
set_option maxHeartbeats 4000000 in
theorem looks_any {T t : Nat} {room most : Int} (h : Run w P room most T t p s l pr fs W) (hl : Link s fs) (hT : T ≤ 90000) (ht : t ≤ 200) (hr : 0 ≤ room) :
    Calls Tryz.prog 14 #[.pointer (some ⟨P, 0, none⟩)] W fun e W' => e = .returned (.bool true) ∧ Below W.heap.size W W' := by
  have hfi := h.fine
  have hfd := h.fineD
  obtain ⟨U, hU⟩ : ∃ U, usedS s = U := ⟨_, rfl⟩
  have hU2 : Vf.usedD fs fs.dirs = U := (hl.used h.inv).trans hU
  have hUs : U ≤ 4294967296 := by rw [← hU2]; exact (hfd.rfit ht).used
  obtain ⟨s1, hs1⟩ : ∃ s1, rebootS s 0 = s1 := ⟨_, rfl⟩
  obtain ⟨fs1, hfs1⟩ : ∃ fs1, Vf.rebootFs fs 0 = fs1 := ⟨_, rfl⟩
  have hl1 : Link s1 fs1 := by rw [← hs1, ← hfs1]; exact hl.reboot h.inv 0
  have hi1 : Inv s1 := by rw [← hs1]; exact h.inv.reboot 0
  have hfd1 : FineD fs1 t := by rw [← hfs1]; exact hfd.reboot 0
  obtain ⟨U1, hU1⟩ : ∃ U1, usedS s1 = U1 := ⟨_, rfl⟩
  have hU3 : Vf.usedD fs1 fs1.dirs = U1 := (hl1.used hi1).trans hU1
  have hUs1 : U1 ≤ 4294967296 := by rw [← hU3]; exact (hfd1.rfit ht).used
  have hd1 : s1.down = false := by rw [← hs1]; rfl
  have hdn : fs.down = s.down := hl.down
  obtain ⟨dn, hdn2⟩ : ∃ dn, s.down = dn := ⟨_, rfl⟩
  rw [hdn2] at hdn
  have HCF : Hid (Calls Tryz.prog 25 #[.pointer (some ⟨p, 0, none⟩)] W.drew fun e V => ∃ f l', e = .returned (.pointer (some ⟨f, 0, none⟩)) ∧ One W.drew f s l' V ∧ Duo w P p s l pr fs V) := by
    have hD := h.duo.keep (Below.refl _ _).drew
    exact Lib.hid ((copy_any p s l T W.drew hD.one.f hfi.fits (by omega) (by rw [h.room]; exact hr)).mono fun e V ⟨f, l', he, hA, hb, hn⟩ => ⟨f, l', he, ⟨hA, hn, hb⟩, hD.keep hb⟩)
  have HCG : Hid (∀ V f l', One W.drew f s l' V → Duo w P p s l pr fs V → Calls Tryz.prog 40 #[.pointer (some ⟨pr, 0, none⟩)] V fun e V' => ∃ q, e = .returned (.pointer (some ⟨q, 0, none⟩)) ∧ Both W.drew f s l' q fs V' ∧ Duo w P p s l pr fs V') := Lib.hid fun V f l' h1 h2 => by
    obtain ⟨vf, gd, cd, dv, hO, hn⟩ := h2.doc
    refine (Vf.copy_any pr gd cd fs vf dv V hO (hfd.rfit ht).files (by have := hfd.nd; omega) hfd.pos (fun d hd => by
      have := hfd.each d hd
      exact ⟨by omega, by omega, by omega⟩)).mono ?_
    rintro e V' ⟨q, vF, gd', cd', dvs, he, hC⟩
    obtain ⟨k1, k2, k3⟩ := Vf.copied_owns hO hfd.pos hC
    exact ⟨q, he, ⟨h1.keep k2, ⟨vF, gd', cd', dvs, k1, fun b hb => Nat.le_trans h1.below.size (k3 b hb)⟩⟩, h2.keep k2⟩
  have HUF : Hid (∀ V f l' q, Both W.drew f s l' q fs V → Calls Tryz.prog 22 #[.pointer (some ⟨f, 0, none⟩)] V fun e V' => e = .returned (.int .i64 U) ∧ Both W.drew f s l' q fs V') := Lib.hid fun V f l' q hb => by
    have := used_any f s l' V hb.one.f (by rw [hU]; omega)
    rw [hU] at this
    exact this.mono fun e V' ⟨he, hbl⟩ => ⟨he, hb.keep hbl⟩
  have HUG : Hid (∀ V f l' q, Both W.drew f s l' q fs V → Calls Tryz.prog 41 #[.pointer (some ⟨q, 0, none⟩)] V fun e V' => e = .returned (.int .i64 U) ∧ Both W.drew f s l' q fs V') := Lib.hid fun V f l' q hb => by
    have := usedB hb hfd ht
    rwa [hU2] at this
  have HDF : Hid (∀ V f l' q, Both W.drew f s l' q fs V → Calls Tryz.prog 24 #[.pointer (some ⟨f, 0, none⟩)] V fun e V' => e = .returned (.bool dn) ∧ V = V') := Lib.hid fun V f l' q hb => (down_any f s l' V hb.one.f).mono fun e V' ⟨he, hv⟩ => ⟨by rw [he, hdn2], hv⟩
  have HDC : Hid (∀ V f l' q, Both W.drew f s l' q fs V → V.cell? ⟨q, 3, none⟩ = some (.bool dn)) := Lib.hid fun V f l' q hb => by rw [hb.down, hdn]
  have HRF : Hid (∀ V f l' q, Both W.drew f s l' q fs V → Calls Tryz.prog 19 #[.pointer (some ⟨f, 0, none⟩), .int .i64 0] V fun e V' => (∃ r, e = .returned r) ∧ ∃ l2, Both W.drew f s1 l2 q fs V') := Lib.hid fun V f l' q hb => (reboot_any f s l' T 0 V hb.one.f hfi.fits (by omega) hfi.canon).mono fun e V' ⟨he, ha, _, _⟩ => by
    rw [hs1] at ha
    exact ⟨he, hb.onF ha⟩
  have HRG : Hid (∀ V f l' q, Both W.drew f s1 l' q fs V → Calls Tryz.prog 39 #[.pointer (some ⟨q, 0, none⟩), .int .i64 0] V fun e V' => (∃ r, e = .returned r) ∧ Both W.drew f s1 l' q fs1 V') := Lib.hid fun V f l' q hb => by
    have := rebootB hb hfd ht 0
    rwa [hfs1] at this
  have HUF1 : Hid (∀ V f l' q, Both W.drew f s1 l' q fs1 V → Calls Tryz.prog 22 #[.pointer (some ⟨f, 0, none⟩)] V fun e V' => e = .returned (.int .i64 U1) ∧ Both W.drew f s1 l' q fs1 V') := Lib.hid fun V f l' q hb => by
    have := used_any f s1 l' V hb.one.f (by rw [hU1]; omega)
    rw [hU1] at this
    exact this.mono fun e V' ⟨he, hbl⟩ => ⟨he, hb.keep hbl⟩
  have HUG1 : Hid (∀ V f l' q, Both W.drew f s1 l' q fs1 V → Calls Tryz.prog 41 #[.pointer (some ⟨q, 0, none⟩)] V fun e V' => e = .returned (.int .i64 U1) ∧ Both W.drew f s1 l' q fs1 V') := Lib.hid fun V f l' q hb => by
    have := usedB hb hfd1 ht
    rwa [hU3] at this
  have HDF1 : Hid (∀ V f l' q, Both W.drew f s1 l' q fs1 V → Calls Tryz.prog 24 #[.pointer (some ⟨f, 0, none⟩)] V fun e V' => e = .returned (.bool false) ∧ V = V') := Lib.hid fun V f l' q hb => (down_any f s1 l' V hb.one.f).mono fun e V' ⟨he, hv⟩ => ⟨by rw [he, hd1], hv⟩
  have a0 := h.duo.boxF
  have a1 := h.duo.boxG
  have eU : ((U : Int) != (U : Int)) = false := by simp
  have eD : (dn != dn) = false := by simp
  have eU1 : ((U1 : Int) == (U1 : Int)) = true := by simp
  clear hfi hfd hU hU2 hUs hs1 hfs1 hl1 hi1 hfd1 hU1 hU3 hUs1 hd1 hdn hdn2 h hl hT ht hr
  go_enter Tryz.func14, Tryz.ntmps14
  go_wp2_with fail
  refine Vf.wp_region_guard (fun z => z.cell? ⟨P, 0, none⟩ = some (.pointer (some ⟨p, 0, none⟩)) ∧ z.cell? ⟨P, 1, none⟩ = some (.pointer (some ⟨pr, 0, none⟩))) [(0, true), (1, true), (2, true), (3, true), (5, true), (6, true), (7, true), (8, true), (4, false), (9, false), (10, true)] _ (by kernel_rfl) rfl (by kernel_rfl) (by kernel_rfl) ⟨a0, a1⟩ ?_
  simp only [permL, List.dropLast, List.getElem?_cons_zero, List.getElem?_cons_succ, List.getLast]
  repeat (apply wpMixG_free
          · rfl
          · intro z hz
            try dsimp only at hz
            go_simp
            all_goals with_reducible rfl
          simp only [Act.put, List.setIfInBounds_toArray, List.set_cons_zero, List.set_cons_succ])
  refine wpMixG_turn (by rfl) (fun K hK => ?_)
  have HK := Lib.hid hK; clear hK
  go_simp
  refine HCF.out.mono ?_
  rintro e V1 ⟨f, l1, rfl, o1, d1⟩
  refine HK.out _ _ ⟨d1.boxF, d1.boxG⟩ ?_
  clear HK
  have O1 := Lib.hid o1; have D1 := Lib.hid d1
  clear o1 d1 a0 a1 HCF
  try simp only [Act.put, List.setIfInBounds_toArray, List.set_cons_zero, List.set_cons_succ]
  refine wpMixG_turn (by rfl) (fun K hK => ?_)
  have HK := Lib.hid hK; clear hK
  go_simp
  refine (HCG.out _ _ _ O1.out D1.out).mono ?_
  rintro e V2 ⟨q, rfl, b2, d2⟩
  refine HK.out _ _ ⟨d2.boxF, d2.boxG⟩ ?_
  clear HK
  have B2 := Lib.hid b2
  clear b2 d2 O1 D1 HCG
  try simp only [Act.put, List.setIfInBounds_toArray, List.set_cons_zero, List.set_cons_succ]
  repeat (apply wpMixG_free
          · rfl
          · intro z hz
            try dsimp only at hz
            go_simp
            all_goals with_reducible rfl
          simp only [Act.put, List.setIfInBounds_toArray, List.set_cons_zero, List.set_cons_succ])
  refine wpMixG_end ?_
  go_simp
  go_wp2_with fail
  have c2 := HDC.out _ _ _ _ B2.out
  refine Vf.wp_region_guard (fun z => z.cell? ⟨q, 3, none⟩ = some (.bool dn)) [(0, true), (2, true), (1, false), (3, false), (4, true), (5, true), (6, true), (8, true), (9, true), (10, true), (11, true), (7, false), (12, true)] _ (by kernel_rfl) rfl (by kernel_rfl) (by kernel_rfl) c2 ?_
  simp only [permL, List.dropLast, List.getElem?_cons_zero, List.getElem?_cons_succ, List.getLast]
  repeat (apply wpMixG_free
          · rfl
          · intro z hz
            try dsimp only at hz
            go_simp
            all_goals with_reducible rfl
          simp only [Act.put, List.setIfInBounds_toArray, List.set_cons_zero, List.set_cons_succ])
  refine wpMixG_turn (by rfl) (fun K hK => ?_)
  have HK := Lib.hid hK; clear hK
  go_simp
  refine (HUF.out _ _ _ _ (B2.out.keep (Below.refl _ _).drew)).mono ?_
  rintro e V3 ⟨rfl, b3⟩
  refine HK.out _ _ (HDC.out _ _ _ _ b3) ?_
  clear HK
  have B3 := Lib.hid b3
  clear b3 c2 HUF B2
  try simp only [Act.put, List.setIfInBounds_toArray, List.set_cons_zero, List.set_cons_succ]
  refine wpMixG_turn (by rfl) (fun K hK => ?_)
  have HK := Lib.hid hK; clear hK
  go_simp
  refine (HUG.out _ _ _ _ B3.out).mono ?_
  rintro e V4 ⟨rfl, b4⟩
  refine HK.out _ _ (HDC.out _ _ _ _ b4) ?_
  clear HK
  have B4 := Lib.hid b4
  clear b4 HUG B3
  try simp only [Act.put, List.setIfInBounds_toArray, List.set_cons_zero, List.set_cons_succ]
  repeat (apply wpMixG_free
          · rfl
          · intro z hz
            try dsimp only at hz
            go_simp
            all_goals with_reducible rfl
          simp only [Act.put, List.setIfInBounds_toArray, List.set_cons_zero, List.set_cons_succ])
  refine wpMixG_turn (by rfl) (fun K hK => ?_)
  have HK := Lib.hid hK; clear hK
  go_simp
  refine (HDF.out _ _ _ _ B4.out).mono ?_
  rintro e V5 ⟨rfl, rfl⟩
  refine HK.out _ _ (HDC.out _ _ _ _ B4.out) ?_
  clear HK HDF
  try simp only [Act.put, List.setIfInBounds_toArray, List.set_cons_zero, List.set_cons_succ]
  repeat (apply wpMixG_free
          · rfl
          · intro z hz
            try dsimp only at hz
            go_simp
            all_goals with_reducible rfl
          simp only [Act.put, List.setIfInBounds_toArray, List.set_cons_zero, List.set_cons_succ])
  refine wpMixG_end ?_
  go_simp
  go_wp2_with (first
    | (go_at_call 19; refine (HRF.out _ _ _ _ B4.out).mono ?_; clear HRF; rintro e v6 ⟨⟨rr, rfl⟩, l6, b6⟩; have B6 := Lib.hid b6; clear b6)
    | (go_at_call 39; refine (HRG.out _ _ _ _ B6.out).mono ?_; clear HRG; rintro e v7 ⟨⟨rr, rfl⟩, b7⟩; have B7 := Lib.hid b7; clear b7)
    | (go_at_call 22; refine (HUF1.out _ _ _ _ B7.out).mono ?_; clear HUF1; rintro e v8 ⟨rfl, b8⟩; have B8 := Lib.hid b8; clear b8)
    | (go_at_call 41; refine (HUG1.out _ _ _ _ B8.out).mono ?_; clear HUG1; rintro e v9 ⟨rfl, b9⟩; have B9 := Lib.hid b9; clear b9)
    | (go_at_call 24; refine (HDF1.out _ _ _ _ B9.out).mono ?_; clear HDF1; rintro e v10 ⟨rfl, rfl⟩)
    | fail)
  go_ret
  exact ⟨rfl, (Below.refl _ _).drew.trans B9.out.one.below⟩
end
end Go.Proofs.YtdbcjiapbehacaaGreatDoor.Vp
