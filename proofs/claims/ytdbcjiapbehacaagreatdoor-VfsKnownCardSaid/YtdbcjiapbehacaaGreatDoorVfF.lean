/-
  The document's file system: Mkdir.
-/
import Derived.Test.YtdbcjiapbehacaaGreatDoorVfE
namespace Go.Proofs.YtdbcjiapbehacaaGreatDoor.Vf
open Go.RowKit

def upB (fs : Fs) (path : ByteArray) : ByteArray := ⟨(beginRes fs path.data.toList false).1.toArray⟩
def mkdirRes (fs : Fs) (path : ByteArray) : Int :=
  if (beginRes fs path.data.toList false).2 ≠ 0 then (beginRes fs path.data.toList false).2 else if dirAt fs (upB fs path) < 0 then 50 else if 0 ≤ dirAt fs path ∨ (findIn path fs.dirs).isSome then 53 else if 256 ≤ fs.dirs.length then 3 else 0
def mkdirFs (fs : Fs) (path : ByteArray) : Fs := if mkdirRes fs path ≠ 0 then beginFs fs else { beginFs fs with dirs := fs.dirs ++ [⟨path, [], [], []⟩] }
theorem dir_info : (Tryz.prog.info? 62).map (fun i => (i.zero, i.size, i.bytes)) = some (some (.agg #[.string ⟨#[]⟩, .slice none 0 0, .slice none 0 0, .slice none 0 0]), 4, 88) := by kernel_rfl
theorem zip_snoc {α β γ : Type} (f : α → β → γ) : ∀ {l : List α} {m : List β} (a : α) (b : β), l.length = m.length → List.zipWith f (l ++ [a]) (m ++ [b]) = List.zipWith f l m ++ [f a b]
  | [], [], _, _, _ => rfl
  | [], _ :: _, _, _, h => by simp at h
  | _ :: _, [], _, _, h => by simp at h
  | x :: l, y :: m, a, b, h => by
    simp only [List.cons_append, List.zipWith_cons_cons]
    rw [zip_snoc f a b (by simpa using h)]
theorem get_snoc {α : Type} {l : List α} {i : Nat} {a x : α} (h : (l ++ [a])[i]? = some x) : l[i]? = some x ∨ (i = l.length ∧ x = a) := by
  rcases Nat.lt_or_ge i l.length with hl | hl
  · rw [List.getElem?_append_left hl] at h; exact .inl h
  · rw [List.getElem?_append_right hl] at h
    have : i - l.length = 0 := by have := lt_of_get h; simpa using this
    rw [this] at h
    simp at h
    exact .inr ⟨by omega, h.symm⟩
/-- A directory more. -/
theorem dir_added {w V : World} {p gd cd : Nat} {fs : Fs} {vf v' : Value} {dv : List Dv} {path : ByteArray} (h : Owns w p fs vf gd cd dv) (hl : fs.dirs.length ≤ 1000000) (hg : w.grownBy V (some gd)) (hat : v'.ownBlock = some gd ∨ ∃ g, v'.ownBlock = some g ∧ w.heap.size ≤ g)
    (hown : OwnR V 0 62 4 v' (List.zipWith drCells fs.dirs dv ++ [drCells ⟨path, [], [], []⟩ nilDv])) :
    ∃ gd' cd', v' = .slice (some ⟨gd', 0, none⟩) (fs.dirs.length + 1) cd' ∧ Owns (V.setCell ⟨p, 2, none⟩ v') p { fs with dirs := fs.dirs ++ [⟨path, [], [], []⟩] } vf gd' cd' (dv ++ [nilDv]) ∧
    Moves w (V.setCell ⟨p, 2, none⟩ v') (Foot p gd vf dv) (Foot p gd' vf (dv ++ [nilDv])) := by
  obtain ⟨curD, hkD⟩ := h.sees.dirs.kind
  have htop : w.heap[p]? = _ := h.sees.top
  have hpl : p < w.heap.size := h.sees.top.lt
  have hpg : p ≠ gd := kind_ne htop hkD (by decide)
  have hlenZ : (List.zipWith drCells fs.dirs dv).length = fs.dirs.length := h.sees.dirs.len
  have hzl : (List.zipWith drCells fs.dirs dv ++ [drCells ⟨path, [], [], []⟩ nilDv]).length = fs.dirs.length + 1 := by simp [hlenZ]
  have h1 := hown.1
  rw [hzl] at h1
  obtain ⟨gd', cd', hv, _, hlt'⟩ := h1.form (by omega)
  refine ⟨gd', cd', hv, ?_⟩
  have hfar : ∀ g, g ≠ p → (V.setCell ⟨p, 2, none⟩ v').heap[g]? = V.heap[g]? := fun g hne => Below.heap_setCell _ ⟨p, 2, none⟩ _ g hne
  have hlt : ∀ {g : Nat} {o : Obj}, w.heap[g]? = some o → g < w.heap.size := fun hg => (Array.getElem?_eq_some_iff.1 hg).1
  have hS : ∀ t, t ≠ 62 → t ≠ 66 → Same t w (V.setCell ⟨p, 2, none⟩ v') := fun t ht ht2 g cur hg' => (hfar g (kind_ne hg' htop ht2)).trans (hg.block g (hlt hg') (fun e => by injection e with e; exact kind_ne hg' hkD ht e))
  have hpV : V.heap[p]? = w.heap[p]? := hg.block p hpl (fun e => by injection e with e; exact hpg e)
  have hpg' : p ≠ gd' := by
    rintro rfl
    obtain ⟨cur, hc⟩ := hown.kind (show v'.ownBlock = some p by rw [hv]; rfl)
    rw [hpV] at hc
    exact kind_ne htop hc (by decide) rfl
  have hgat : gd' = gd ∨ w.heap.size ≤ gd' := by
    rcases hat with e | ⟨g, e, hgl⟩
    · rw [hv] at e; injection e with e; exact .inl e
    · rw [hv] at e; injection e with e; have e' : gd' = g := e; omega
  have hsl : (fs.dirs ++ [(⟨path, [], [], []⟩ : Dr)]).length = fs.dirs.length + 1 := by simp
  refine ⟨owns_dirs h (hS _ (by decide) (by decide)) ?_ (by simp [h.sees.many]) (by rw [hsl]; omega) ?_ (fun j e v he hv2 => ?_) (fun j m v z hv2 hz hne => ?_) ⟨by rw [hsl]; omega, fun e he => ?_⟩, ?_⟩
  · have hk : Hold V p 66 (topCells fs vf gd cd) := h.sees.top.keep hpV
    have := hk.set 2 v'
    unfold topCells at this ⊢
    simp only [hsl]
    rw [← hv]
    exact this
  · rw [hsl, ← hv, zip_snoc drCells _ _ h.sees.many.symm]
    exact hown.blk fun k hk => hfar k (fun e => by
      rw [hv] at hk; injection hk with hk
      have hk' : gd' = k := hk
      exact hpg' (by rw [hk', e]))
  · rcases get_snoc he with he | ⟨rfl, rfl⟩
    · rcases get_snoc hv2 with hv2 | ⟨e2, _⟩
      · have hj := h.sees.each j e v he hv2
        exact ⟨hj.1.keep (hS _ (by decide) (by decide)), hj.2.1.keep (hS _ (by decide) (by decide)), own_ty (h.waits j e v he hv2) (hS _ (by decide) (by decide))⟩
      · have := lt_of_get he; rw [h.sees.many] at e2; omega
    · rcases get_snoc hv2 with hv2 | ⟨_, rfl⟩
      · have := lt_of_get hv2; rw [h.sees.many] at this; omega
      · exact ⟨nil_reads _ _ _, nil_reads _ _ _, OwnR.nil _ _ _ _⟩
  · rcases get_snoc hv2 with hv2 | ⟨_, rfl⟩
    · rcases get_snoc hz with hz | ⟨_, rfl⟩
      · exact h.apart j m v z hv2 hz hne
      · cases hvb : v.s.ownBlock with
        | none => exact .inl rfl
        | some k => exact .inr (by simp [nilDv, Value.ownBlock])
    · exact .inl rfl
  · rcases List.mem_append.1 he with he | he
    · exact h.sees.small.2 e he
    · rw [List.mem_singleton.1 he]; simp
  · refine ⟨hg.os, hg.tape, hg.output, by simp only [World.setCell, Array.size_modify]; exact hg.size, fun g hl2 hn => ?_, fun g hg' => ?_⟩
    · exact (hfar g (fun e => hn (.inl e))).trans (hg.block g hl2 (fun e => by injection e with e; exact hn (.inr (.inl e))))
    · rcases hg' with e | e | e | ⟨v, hv2, e⟩
      · exact .inl (.inl e)
      · rcases hgat with e2 | e2
        · exact .inl (.inr (.inl (e.trans e2)))
        · exact .inr (by omega)
      · exact .inl (.inr (.inr (.inl e)))
      · rcases List.mem_append.1 hv2 with hv2 | hv2
        · exact .inl (.inr (.inr (.inr ⟨v, hv2, e⟩)))
        · rw [List.mem_singleton.1 hv2] at e; cases e
set_option maxRecDepth 100000 in
set_option maxHeartbeats 4000000 in
theorem mkdir_any (p gd cd : Nat) (fs : Fs) (vf : Value) (dv : List Dv) (path : ByteArray) (w : World) (h : Owns w p fs vf gd cd dv) (hs : path.size ≤ 4294967296) (hl : fs.dirs.length ≤ 1000000) :
    Calls Tryz.prog 30 #[.pointer (some ⟨p, 0, none⟩), .string path] w fun e w' => e = .returned (.int .i64 (mkdirRes fs path)) ∧ ∃ gd' cd' dv', Owns w' p (mkdirFs fs path) vf gd' cd' dv' ∧ Moves w w' (Foot p gd vf dv) (Foot p gd' vf dv') := by
  obtain ⟨⟨B1, B2⟩, hB⟩ : ∃ B, beginRes fs path.data.toList false = B := ⟨_, rfl⟩
  obtain ⟨R, hR⟩ : ∃ R, mkdirRes fs path = R := ⟨_, rfl⟩
  have hbad : R ≠ 0 → mkdirFs fs path = beginFs fs := fun hr => by unfold mkdirFs; rw [if_pos (by rw [hR]; exact hr)]
  have hgood : R = 0 → mkdirFs fs path = { beginFs fs with dirs := (beginFs fs).dirs ++ [⟨path, [], [], []⟩] } := fun hr => by unfold mkdirFs; rw [if_neg (by rw [hR, hr]; simp), beginFs_dirs]
  rw [hR]
  unfold mkdirRes upB at hR
  rw [hB] at hR
  have HR := Lib.hid hR; have HBAD := Lib.hid hbad; have HGOOD := Lib.hid hgood
  clear hR hbad hgood
  go_enter Tryz.func30, Tryz.ntmps30
  go_wp2_with fail
  refine (rbegin_any p gd cd fs vf dv path false w h.sees hs).mono ?_
  rintro e w1 ⟨rfl, h1, hg⟩
  have ho1 := h.turn h1 hg (beginFs_dirs fs) (beginFs_files fs)
  rw [hB]
  unfold pairVal
  dsimp only
  by_cases hb2 : B2 = 0
  · subst hb2
    have hr1 := HR.out
    rw [if_neg (by simp)] at hr1
    clear HR
    have HR := Lib.hid hr1
    clear hr1
    go_wp2_with fail
    refine (rdir_any p gd cd (beginFs fs) vf dv ⟨B1.toArray⟩ w1 h1).mono ?_
    rintro e w3 ⟨rfl, rfl⟩
    rw [dirAt_begin]
    obtain ⟨D1, hD1⟩ : ∃ D, dirAt fs ⟨B1.toArray⟩ = D := ⟨_, rfl⟩
    have hr1 := HR.out
    rw [hD1] at hr1 ⊢
    clear HR hD1
    by_cases hd1 : D1 < 0
    · rw [if_pos hd1] at hr1
      have hfs := HBAD.out (by rw [← hr1]; decide)
      have HFS := Lib.hid hfs
      subst hr1
      clear HBAD HGOOD hfs
      go_wp2_with fail
      go_ret
      exact ⟨rfl, gd, cd, dv, by rw [HFS.out]; exact ho1, Moves.of_gb hg⟩
    · rw [if_neg hd1] at hr1
      have HR := Lib.hid hr1
      clear hr1
      go_wp2_with fail
      refine (rfind_any p gd cd (beginFs fs) vf dv path w1 h1).mono ?_
      rintro e w5 ⟨rfl, rfl⟩
      rw [beginFs_dirs]
      obtain ⟨F, hF⟩ : ∃ F, findIn path fs.dirs = F := ⟨_, rfl⟩
      have hr1 := HR.out
      rw [hF] at hr1 ⊢
      clear HR hF
      obtain ⟨D2, hD2⟩ : ∃ D, dirAt fs path = D := ⟨_, rfl⟩
      have HD2 : Hid (dirAt (beginFs fs) path = D2) := Lib.hid (by rw [dirAt_begin]; exact hD2)
      rw [hD2] at hr1
      clear hD2
      by_cases hex : 0 ≤ D2 ∨ F.isSome
      · rw [if_pos hex] at hr1
        have hfs := HBAD.out (by rw [← hr1]; decide)
        have HFS := Lib.hid hfs
        subst hr1
        clear HBAD HGOOD hfs
        cases F with
        | none =>
          have hd2 : 0 ≤ D2 := by simpa using hex
          unfold findVal
          dsimp only
          go_wp2_with fail
          refine (rdir_any p gd cd (beginFs fs) vf dv path w1 h1).mono ?_
          rintro e w6 ⟨rfl, rfl⟩
          rw [HD2.out]
          go_wp2_with fail
          go_ret
          exact ⟨rfl, gd, cd, dv, by rw [HFS.out]; exact ho1, Moves.of_gb hg⟩
        | some y =>
          obtain ⟨i, k⟩ := y
          have hi0 : (0 : Int) ≤ (i : Int) := by omega
          clear hex
          unfold findVal
          dsimp only
          go_wp2_with fail
          refine (rdir_any p gd cd (beginFs fs) vf dv path w1 h1).mono ?_
          rintro e w6 ⟨rfl, rfl⟩
          rw [HD2.out]
          by_cases hd2 : 0 ≤ D2
          · go_wp2_with fail
            go_ret
            exact ⟨rfl, gd, cd, dv, by rw [HFS.out]; exact ho1, Moves.of_gb hg⟩
          · go_wp2_with fail
            go_ret
            exact ⟨rfl, gd, cd, dv, by rw [HFS.out]; exact ho1, Moves.of_gb hg⟩
      · rw [if_neg hex] at hr1
        obtain ⟨hd2, hF⟩ : ¬ 0 ≤ D2 ∧ F = none := ⟨fun e => hex (.inl e), by cases F with | none => rfl | some y => exact absurd (.inr rfl) hex⟩
        subst hF
        clear hex
        have hct : w1.cell? ⟨p, 2, none⟩ = some (.slice (some ⟨gd, 0, none⟩) (beginFs fs).dirs.length cd) := by rw [h1.top.cell]; rfl
        have hdl : (beginFs fs).dirs.length = fs.dirs.length := by rw [beginFs_dirs]
        rw [← hdl] at hr1 hl
        clear hdl
        by_cases hmany : 256 ≤ (beginFs fs).dirs.length
        · rw [if_pos hmany] at hr1
          have hfs := HBAD.out (by rw [← hr1]; decide)
          have HFS := Lib.hid hfs
          subst hr1
          clear HBAD HGOOD hfs
          unfold findVal
          dsimp only
          go_wp2_with fail
          refine (rdir_any p gd cd (beginFs fs) vf dv path w1 h1).mono ?_
          rintro e w6 ⟨rfl, rfl⟩
          rw [HD2.out]
          go_wp2_with fail
          go_ret
          exact ⟨rfl, gd, cd, dv, by rw [HFS.out]; exact ho1, Moves.of_gb hg⟩
        · rw [if_neg hmany] at hr1
          have hfs := HGOOD.out hr1.symm
          have HFS := Lib.hid hfs
          subst hr1
          clear HBAD HGOOD hfs
          unfold findVal
          dsimp only
          go_wp2_with fail
          refine (rdir_any p gd cd (beginFs fs) vf dv path w1 h1).mono ?_
          rintro e w6 ⟨rfl, rfl⟩
          rw [HD2.out]
          have hzl : (List.zipWith drCells (beginFs fs).dirs dv).length = (beginFs fs).dirs.length := h1.dirs.len
          have hal := ho1.dirs.alloc (.cells #[.string path, .slice none 0 0, .slice none 0 0, .slice none 0 0] 62)
          have hgl : gd < w1.heap.size := h1.dirs.lt
          have hpl : p < w1.heap.size := h1.top.lt
          have hfz : w1.frozen? ⟨p, 2, none⟩ = false := h1.top.frozen 2
          have hpg : p ≠ gd := by
            obtain ⟨cur, hk⟩ := h1.dirs.kind
            have ht := h1.top
            unfold Hold at ht
            exact kind_ne ht hk (by decide)
          have HO := Lib.hid ho1; have HAL := Lib.hid hal
          have hzc : (List.zipWith drCells (beginFs fs).dirs dv).length + [[Value.string path, Value.slice none 0 0, Value.slice none 0 0, Value.slice none 0 0]].length ≤ 100000000 := by rw [hzl]; simp; omega
          have hdl2 := hl
          have hone : ∀ y ∈ [[Value.string path, Value.slice none 0 0, Value.slice none 0 0, Value.slice none 0 0]], ∀ u ∈ y, u.oneCell' = true := by
            intro y hy u hu
            rw [List.mem_singleton.1 hy] at hu
            simp at hu
            rcases hu with rfl | rfl <;> rfl
          clear ho1 hal
          go_wp2_with (first
            | (at_builtin; refine wpList_append_row (v := .slice (some ⟨gd, 0, none⟩) (beginFs fs).dirs.length cd) rfl (.tmp 46) (.tmp 49) rfl Tryz.underlying63 dir_info rfl (by decide) (by decide) rfl rfl HAL.out (reads_one w1 62 [.string path, .slice none 0 0, .slice none 0 0, .slice none 0 0] _ rfl) (fun y hy => by rw [List.mem_singleton.1 hy]; rfl) hone hzc (Nat.zero_le _) ?_; intro v' V hown hgr hat; have hHW := (hgr.block p (by simp; omega) (fun e => by injection e with e; exact hpg e)).trans (Below.heap_alloc w1 _ p hpl); have hgV : w1.grownBy V (some gd) := ((World.grownBy_alloc w1 _ _).trans hgr); have hAD := dir_added (path := path) HO.out hdl2 hgV (hat.imp (fun e => e) fun e => ⟨_, e, (by simp)⟩) hown; obtain ⟨gd', cd', hv', hOW, hMV⟩ := hAD; have hct2 : V.cell? ⟨p, 2, none⟩ = some (.slice (some ⟨gd, 0, none⟩) (beginFs fs).dirs.length cd) := ((World.cell?_of_block (a := ⟨p, 2, none⟩) hHW).trans hct); have hfz2 : V.frozen? ⟨p, 2, none⟩ = false := ((World.frozen?_of_block (a := ⟨p, 2, none⟩) hHW).trans hfz); subst hv'; have HOW := Lib.hid hOW; have HMV := Lib.hid hMV; clear hown hgr hat hHW hgV hOW hMV)
            | fail)
          go_ret
          exact ⟨rfl, gd', cd', dv ++ [nilDv], by rw [HFS.out]; exact HOW.out, (Moves.of_gb hg).trans HMV.out⟩
  · have hr1 := HR.out
    rw [if_pos hb2] at hr1
    have hfs := HBAD.out (by rw [← hr1]; exact hb2)
    have HFS := Lib.hid hfs
    subst hr1
    clear HR HBAD HGOOD hfs
    go_wp2_with fail
    go_ret
    exact ⟨rfl, gd, cd, dv, by rw [HFS.out]; exact ho1, Moves.of_gb hg⟩
end Go.Proofs.YtdbcjiapbehacaaGreatDoor.Vf
