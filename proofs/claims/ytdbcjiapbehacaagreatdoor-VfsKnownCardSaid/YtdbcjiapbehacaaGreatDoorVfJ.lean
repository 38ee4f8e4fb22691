/-
  The document's file system: List.
-/
import Derived.Test.YtdbcjiapbehacaaGreatDoorVfI
namespace Go.Proofs.YtdbcjiapbehacaaGreatDoor.Vf
open Go.RowKit

theorem insN_perm (x : Nm) (out : List Nm) : (insN x out).Perm (x :: out) := by
  unfold insN
  exact List.perm_middle.trans (List.Perm.cons x (List.Perm.of_eq (List.take_append_drop _ _)))
theorem foldl_perm : ∀ (l o : List Nm), (l.foldl (fun o x => insN x o) o).Perm (l ++ o)
  | [], o => .refl _
  | x :: l, o => by
    rw [List.foldl_cons]
    exact (foldl_perm l _).trans (((insN_perm x o).append_left l).trans List.perm_middle)
theorem sortN_perm (l : List Nm) : (sortN l).Perm l := by
  unfold sortN
  have := foldl_perm l []
  rwa [List.append_nil] at this
/-- Where a name begins in a path of this directory. -/
def fromOf (p : ByteArray) : Nat := if p.toList == [47] then 1 else p.size + 1
def cutN (f : Nat) (x : Nm) : ByteArray := x.p.extract f x.p.size
def listRes (fs : Fs) (path : ByteArray) : List ByteArray × Int :=
  if (dirRes fs path).2 ≠ 0 then ([], (dirRes fs path).2) else match fs.dirs[(dirRes fs path).1.toNat]? with
  | none => ([], 0)
  | some d => ((sortN d.names).map (cutN (fromOf path)), 0)
theorem firstIx_sat {α : Type} {q : α → Bool} : ∀ {l : List α}, firstIx q l < l.length → ∀ x, l[firstIx q l]? = some x → q x = true
  | [], h, _, _ => by simp [firstIx] at h
  | a :: l, h, x, hx => by
    unfold firstIx at h hx
    split at hx
    · simp at hx; subst hx; assumption
    · rename_i hn
      rw [if_neg hn] at h
      exact firstIx_sat (l := l) (by simpa using h) x (by simpa using hx)
theorem dir_path {fs : Fs} {path : ByteArray} {n : Nat} {d : Dr} (h : dirRes fs path = ((n : Int), 0)) (hd : fs.dirs[n]? = some d) : d.p.toList = path.toList := by
  unfold dirRes at h
  split at h
  · rename_i h1; injection h with _ h; exact absurd h h1
  · split at h
    · injection h with h; omega
    · unfold dirEnd at h
      split at h
      · injection h with h; omega
      · injection h with h
        unfold dirAt at h
        split at h
        · rename_i h4
          have e : firstIx (fun d : Dr => d.p.toList == path.toList) fs.dirs = n := by omega
          rw [← e] at hd
          simpa using firstIx_sat h4 d hd
        · omega
theorem from_eq {p q : ByteArray} (h : p.toList = q.toList) : fromOf p = fromOf q := by
  have hs : p.size = q.size := by rw [Lib.size_eq, Lib.size_eq, ← Lib.toList_data, ← Lib.toList_data, h]
  unfold fromOf
  rw [h, hs]
theorem str_info : (Tryz.prog.info? 9).map (fun i => (i.zero, i.size, i.bytes)) = some (some (.string ⟨#[]⟩), 1, 16) := by kernel_rfl
set_option maxRecDepth 100000 in
set_option maxHeartbeats 4000000 in
theorem list_any (p gd cd : Nat) (fs : Fs) (vf : Value) (dv : List Dv) (path : ByteArray) (w : World) (h : Owns w p fs vf gd cd dv) (hs : path.size ≤ 4294967296) (hsh : Short fs) (hp : ∀ d ∈ fs.dirs, ∀ x ∈ d.names, fromOf d.p ≤ x.p.size ∧ x.p.size ≤ 4294967296) :
    Calls Tryz.prog 37 #[.pointer (some ⟨p, 0, none⟩), .string path] w fun e w' => ∃ v, e = .returned (.tuple #[v, .int .i64 (listRes fs path).2]) ∧ Reads w' 9 1 v ((listRes fs path).1.map fun x => [.string x]) ∧ Owns w' p (beginFs fs) vf gd cd dv ∧ Moves w w' (Foot p gd vf dv) (Foot p gd vf dv) := by
  obtain ⟨⟨B1, B2⟩, hB⟩ : ∃ B, dirRes fs path = B := ⟨_, rfl⟩
  obtain ⟨R, hR⟩ : ∃ R, listRes fs path = R := ⟨_, rfl⟩
  rw [hR]
  unfold listRes at hR
  rw [hB] at hR
  go_enter Tryz.func37, Tryz.ntmps37
  go_wp2_with fail
  refine (rdirectory_any p gd cd fs vf dv path w h.sees hs).mono ?_
  rintro e w1 ⟨rfl, h1, hg⟩
  have ho1 := h.turn h1 hg (beginFs_dirs fs) (beginFs_files fs)
  rw [hB]
  unfold intsVal
  dsimp only
  by_cases hb2 : B2 = 0
  · subst hb2
    obtain ⟨n, d, hnx, hd⟩ := dir_is (fs := fs) (path := path) (by rw [hB])
    have hdp := dir_path hnx hd
    have e1 : B1 = (n : Int) := by rw [hB] at hnx; injection hnx
    subst e1
    rw [if_neg (by simp)] at hR
    have hR2 : ((sortN d.names).map (cutN (fromOf path)), (0 : Int)) = R := by
      have e2 : fs.dirs[((n : Int), (0 : Int)).1.toNat]? = some d := hd
      rw [e2] at hR; exact hR
    subst hR2
    have hd' : (beginFs fs).dirs[n]? = some d := by rw [beginFs_dirs]; exact hd
    have hnl := lt_of_get hd'
    obtain ⟨d2, u, hd2, hu, _, hc1, _, _⟩ := h1.dir hnl
    obtain rfl : d = d2 := by rw [hd'] at hd2; injection hd2
    have hct : w1.cell? ⟨p, 2, none⟩ = some (.slice (some ⟨gd, 0, none⟩) (beginFs fs).dirs.length cd) := by rw [h1.top.cell]; rfl
    have hfit := h1.dirs.fits
    have hsm := h1.small.1
    have hrd := (h1.each n d u hd' hu).1
    have hdl := (hsh d (List.mem_of_getElem? hd)).1
    have hn0 : (0 : Int) ≤ (n : Int) := by omega
    have hn1 : (n : Int) < ((beginFs fs).dirs.length : Int) := by omega
    obtain ⟨F, hF⟩ : ∃ F, fromOf path = F := ⟨_, rfl⟩
    have HX : Hid (∀ x ∈ sortN d.names, F ≤ x.p.size ∧ x.p.size ≤ 4294967296) := Lib.hid fun x hx => by
      have := hp d (List.mem_of_getElem? hd) x ((sortN_perm _).mem_iff.1 hx)
      rw [from_eq hdp, hF] at this; exact this
    obtain ⟨S, hS⟩ : ∃ S, sortN d.names = S := ⟨_, rfl⟩
    have hSl : S.length ≤ 1000000 := by rw [← hS, sortN_len]; exact hdl
    have HSO : Hid (Calls Tryz.prog 68 #[u.n] w1 fun e w' => ∃ v', e = .returned v' ∧ OwnR w' w1.heap.size 111 2 v' (S.map Nm.cells) ∧ Below w1.heap.size w1 w') := Lib.hid (by
      have := sorted_any u.n d.names w1 hrd hdl
      rw [hS] at this; exact this)
    rw [hS] at HX
    have HSF : Hid ((sortN d.names).map (cutN (fromOf path)) = S.map (cutN F)) := Lib.hid (by rw [hS, hF])
    have HO := Lib.hid ho1
    clear hS hdp hnx hd hd' hd2 hrd ho1 hu hR
    cases hr : (path.toList == [47])
    · have hFv : F = (path.size + 1) := by rw [← hF]; unfold fromOf; rw [hr]; rfl
      subst hFv
      clear hF
      go_wp2_with (first
        | (go_at_call 68; refine HSO.out.mono ?_; rintro e w2 ⟨v8, rfl, hown, hb⟩; have HOW := Lib.hid hown; have HB := Lib.hid hb; obtain ⟨A8, c8, hv8⟩ := hown.reads.len; rw [List.length_map] at hv8; subst hv8; clear hown hb)
        | fail)
      go_loopw [9, 11] (fun o i wr => ∃ k : Nat, k ≤ S.length ∧ i = .int .i64 k ∧ OwnR wr w2.heap.size 9 1 o ((S.take k).map fun x => [.string (cutN (path.size + 1) x)]) ∧ Below w2.heap.size w2 wr) (fun _ i _ => S.length - (intOf i).toNat)
      case atStart => exact ⟨0, by omega, rfl, OwnR.nil _ _ _ _, Below.refl _ _⟩
      case round =>
        obtain ⟨k, hk, rfl, ho, hb⟩ := hrel
        have HOO := Lib.hid ho; have HBB := Lib.hid hb
        by_cases hlt : k < S.length
        · obtain ⟨x, hx⟩ : ∃ x, S[k]? = some x := ⟨_, List.getElem?_eq_getElem hlt⟩
          obtain ⟨hx1, hx2⟩ := HX.out x (List.mem_of_getElem? hx)
          obtain ⟨g8, cap8, hv8, hcap8, hcell8⟩ := HOW.out.reads.at_ (k := k) (cs := x.cells) (by rw [List.getElem?_map, hx]; rfl)
          rw [List.length_map] at hv8 hcap8
          injection hv8 with e1 _ e3
          subst e1; subst e3
          have hg8 := (HOW.out.lt g8 rfl).2
          have hc8 : wr.cell? ⟨g8, k * 2, none⟩ = some (.string x.p) := (hb.cell (p := ⟨g8, k * 2, none⟩) hg8).trans (hcell8 0 _ rfl)
          have hnx : (S.take (k + 1)).map (fun x => [Value.string (cutN (path.size + 1) x)]) = (S.take k).map (fun x => [Value.string (cutN (path.size + 1) x)]) ++ [[.string (cutN (path.size + 1) x)]] := by rw [take_snoc hx, List.map_append]; rfl
          have HNX := Lib.hid hnx
          have hk0 : (0 : Int) ≤ (k : Int) := by omega
          have hk1 : (k : Int) < (S.length : Int) := by omega
          have hF1 : (((path.size + 1) : Nat) : Int) ≤ (x.p.size : Int) := by omega
          have hlk : (S.take k).length ≤ 1000000 := by rw [List.length_take]; omega
          have HO1 := Lib.hid (ho.alloc (.cells #[.string (cutN (path.size + 1) x)] 9))
          have HB1 : Hid (Below w2.heap.size w2 (wr.alloc (.cells #[.string (cutN (path.size + 1) x)] 9))) := Lib.hid (hb.alloc hb.size _)
          have hws := hb.size
          have hcut : x.p.extract (path.size + 1) x.p.size = cutN (path.size + 1) x := rfl
          clear ho hb hcell8 hx hnx
          go_wp2_with (first
            | (at_builtin; refine plain_append_one (.tmp 41) (.tmp 49) rfl 43 9 1 16 _ rfl Tryz.underlying43 str_info rfl (by decide) (by decide) w2.heap.size _ _ [.string (cutN (path.size + 1) x)] ⟨wr.heap.size, 0, none⟩ 1 rfl rfl HO1.out rfl (new_cells wr _ rfl _ _) (by simp [Value.oneCell']) (by rw [List.length_map]; omega) (by simp; omega) ?_; intro v' w' hown hgr hat; have hbV := HB1.out.trans (HO1.out.below hgr (B := w2.heap.size) (Nat.le_refl _) (by simp; omega)); rw [← HNX.out] at hown; have HOV := Lib.hid hown; have HBV := Lib.hid hbV; clear hown hgr hat hbV)
            | fail)
          exact ⟨⟨k + 1, hlt, by go_num, HOV.out, HBV.out⟩, by simp [intOf]; omega⟩
        · obtain rfl : k = S.length := by omega
          clear ho hb
          go_wp2_with fail
          go_ret2
          have hO2 := HOO.out
          rw [List.take_of_length_le (Nat.le_refl _)] at hO2
          have hbw := HB.out.trans (HBB.out.mono HB.out.size)
          refine ⟨u9, rfl, ?_, HO.out.below hbw, (Moves.of_gb hg).below hbw⟩
          have hr9 := hO2.reads
          rw [show (S.map fun x => [Value.string (cutN (path.size + 1) x)]) = ((sortN d.names).map (cutN (fromOf path))).map (fun x => [Value.string x]) by rw [HSF.out, List.map_map]; rfl] at hr9
          rw [List.map_map] at hr9
          exact hr9
    · have hFv : F = 1 := by rw [← hF]; unfold fromOf; rw [hr]; rfl
      subst hFv
      clear hF
      go_wp2_with (first
        | (go_at_call 68; refine HSO.out.mono ?_; rintro e w2 ⟨v8, rfl, hown, hb⟩; have HOW := Lib.hid hown; have HB := Lib.hid hb; obtain ⟨A8, c8, hv8⟩ := hown.reads.len; rw [List.length_map] at hv8; subst hv8; clear hown hb)
        | fail)
      go_loopw [9, 11] (fun o i wr => ∃ k : Nat, k ≤ S.length ∧ i = .int .i64 k ∧ OwnR wr w2.heap.size 9 1 o ((S.take k).map fun x => [.string (cutN 1 x)]) ∧ Below w2.heap.size w2 wr) (fun _ i _ => S.length - (intOf i).toNat)
      case atStart => exact ⟨0, by omega, rfl, OwnR.nil _ _ _ _, Below.refl _ _⟩
      case round =>
        obtain ⟨k, hk, rfl, ho, hb⟩ := hrel
        have HOO := Lib.hid ho; have HBB := Lib.hid hb
        by_cases hlt : k < S.length
        · obtain ⟨x, hx⟩ : ∃ x, S[k]? = some x := ⟨_, List.getElem?_eq_getElem hlt⟩
          obtain ⟨hx1, hx2⟩ := HX.out x (List.mem_of_getElem? hx)
          obtain ⟨g8, cap8, hv8, hcap8, hcell8⟩ := HOW.out.reads.at_ (k := k) (cs := x.cells) (by rw [List.getElem?_map, hx]; rfl)
          rw [List.length_map] at hv8 hcap8
          injection hv8 with e1 _ e3
          subst e1; subst e3
          have hg8 := (HOW.out.lt g8 rfl).2
          have hc8 : wr.cell? ⟨g8, k * 2, none⟩ = some (.string x.p) := (hb.cell (p := ⟨g8, k * 2, none⟩) hg8).trans (hcell8 0 _ rfl)
          have hnx : (S.take (k + 1)).map (fun x => [Value.string (cutN 1 x)]) = (S.take k).map (fun x => [Value.string (cutN 1 x)]) ++ [[.string (cutN 1 x)]] := by rw [take_snoc hx, List.map_append]; rfl
          have HNX := Lib.hid hnx
          have hk0 : (0 : Int) ≤ (k : Int) := by omega
          have hk1 : (k : Int) < (S.length : Int) := by omega
          have hF1 : ((1 : Nat) : Int) ≤ (x.p.size : Int) := by omega
          have hlk : (S.take k).length ≤ 1000000 := by rw [List.length_take]; omega
          have HO1 := Lib.hid (ho.alloc (.cells #[.string (cutN 1 x)] 9))
          have HB1 : Hid (Below w2.heap.size w2 (wr.alloc (.cells #[.string (cutN 1 x)] 9))) := Lib.hid (hb.alloc hb.size _)
          have hws := hb.size
          have hcut : x.p.extract 1 x.p.size = cutN 1 x := rfl
          clear ho hb hcell8 hx hnx
          go_wp2_with (first
            | (at_builtin; refine plain_append_one (.tmp 41) (.tmp 49) rfl 43 9 1 16 _ rfl Tryz.underlying43 str_info rfl (by decide) (by decide) w2.heap.size _ _ [.string (cutN 1 x)] ⟨wr.heap.size, 0, none⟩ 1 rfl rfl HO1.out rfl (new_cells wr _ rfl _ _) (by simp [Value.oneCell']) (by rw [List.length_map]; omega) (by simp; omega) ?_; intro v' w' hown hgr hat; have hbV := HB1.out.trans (HO1.out.below hgr (B := w2.heap.size) (Nat.le_refl _) (by simp; omega)); rw [← HNX.out] at hown; have HOV := Lib.hid hown; have HBV := Lib.hid hbV; clear hown hgr hat hbV)
            | fail)
          exact ⟨⟨k + 1, hlt, by go_num, HOV.out, HBV.out⟩, by simp [intOf]; omega⟩
        · obtain rfl : k = S.length := by omega
          clear ho hb
          go_wp2_with fail
          go_ret2
          have hO2 := HOO.out
          rw [List.take_of_length_le (Nat.le_refl _)] at hO2
          have hbw := HB.out.trans (HBB.out.mono HB.out.size)
          refine ⟨u9, rfl, ?_, HO.out.below hbw, (Moves.of_gb hg).below hbw⟩
          have hr9 := hO2.reads
          rw [show (S.map fun x => [Value.string (cutN 1 x)]) = ((sortN d.names).map (cutN (fromOf path))).map (fun x => [Value.string x]) by rw [HSF.out, List.map_map]; rfl] at hr9
          rw [List.map_map] at hr9
          exact hr9
  · rw [if_pos hb2] at hR
    subst hR
    go_wp2_with fail
    go_ret2
    exact ⟨_, rfl, nil_reads _ _ _, ho1, Moves.of_gb hg⟩
end Go.Proofs.YtdbcjiapbehacaaGreatDoor.Vf
