/-
  The document's file system: what turns of it behind each kind of store; its Sync and Read.
-/
import Derived.Test.YtdbcjiapbehacaaGreatDoorVfC
namespace Go.Proofs.YtdbcjiapbehacaaGreatDoor.Vf
open Go.RowKit

section
variable {w w' : World} {p gd cd : Nat} {fs : Fs} {vf : Value} {dv : List Dv}
theorem own_ty {t : TypeId} {base s : Nat} {v : Value} {xs : List (List Value)} (h : OwnR w base t s v xs) (hk : Same t w w') : OwnR w' base t s v xs := h.blk fun k hk' => by
  obtain ⟨cur, hc⟩ := h.kind hk'
  exact hk k cur hc
theorem hold_ty {t : TypeId} {g : Nat} {cs : List Value} (h : Hold w g t cs) (hk : Same t w w') : Hold w' g t cs := h.keep (hk g _ h)
theorem owns_files (h : Owns w p fs vf gd cd dv) {vf' : Value} {files' : List Fl} (hD : Same 62 w w') (hN : Same 111 w w') (hS : Same 114 w w')
    (ht : Hold w' p 66 (topCells { fs with files := files' } vf' gd cd)) (hf : OwnR w' 0 109 2 vf' (files'.map Fl.cells)) : Owns w' p { fs with files := files' } vf' gd cd dv := by
  have hw : ∀ (i : Nat) (d : Dr) (v : Dv), fs.dirs[i]? = some d → dv[i]? = some v → OwnR w' 0 114 3 v.s (d.waits.map St.cells) := fun i d v hd hv => own_ty (h.waits i d v hd hv) hS
  refine ⟨⟨ht, hf.reads, h.sees.many, ?_, fun i d v hd hv => ?_, h.sees.ticks, h.sees.small⟩, hf, own_ty h.dirs hD, hw, h.apart⟩
  · obtain ⟨cur, hc⟩ := h.sees.dirs.kind
    exact h.sees.dirs.keep (hD gd cur hc)
  · obtain ⟨a, b, _⟩ := h.sees.each i d v hd hv
    exact ⟨a.keep hN, b.keep hN, (hw i d v hd hv).reads⟩
theorem Owns.below (h : Owns w p fs vf gd cd dv) (hb : Below w.heap.size w w') : Owns w' p fs vf gd cd dv := by
  have hS : ∀ t, Same t w w' := fun t g cur hg => hb.block g (Array.getElem?_eq_some_iff.1 hg).1
  exact owns_files h (hS _) (hS _) (hS _) (hold_ty h.sees.top (hS _)) (own_ty h.files (hS _))
theorem Moves.below {w'' : World} {F F' : Nat → Prop} (h : Moves w w' F F') (hb : Below w'.heap.size w' w'') : Moves w w'' F F' :=
  ⟨hb.os.trans h.os, hb.tape.trans h.tape, hb.output.trans h.output, Nat.le_trans h.size hb.size, fun g hg hn => (hb.block g (Nat.lt_of_lt_of_le hg h.size)).trans (h.stay g hg hn), h.new⟩
theorem own_elems {t : TypeId} {s g cap n : Nat} {xs : List (List Value)} (h : OwnR w 0 t s (.slice (some ⟨g, 0, none⟩) n cap) xs) (hn : xs.length = n) (h0 : 0 < n) : Elems w t s g cap n xs := by
  rcases h.reads with ⟨h1, _⟩ | ⟨g', cap', hv, he⟩
  · rw [h1] at hn; simp at hn; omega
  · injection hv with e1 e2 e3
    injection e1 with e1; injection e1 with e1 _ _
    subst e1; subst e3
    rw [hn] at he; exact he
theorem owns_dirs (h : Owns w p fs vf gd cd dv) {dirs' : List Dr} {gd' cd' : Nat} {dv' : List Dv} (hF : Same 109 w w')
    (ht : Hold w' p 66 (topCells { fs with dirs := dirs' } vf gd' cd')) (many : dv'.length = dirs'.length) (h0 : 0 < dirs'.length)
    (dirs : OwnR w' 0 62 4 (.slice (some ⟨gd', 0, none⟩) dirs'.length cd') (List.zipWith drCells dirs' dv'))
    (each : ∀ (i : Nat) (d : Dr) (v : Dv), dirs'[i]? = some d → dv'[i]? = some v → Reads w' 111 2 v.n (d.names.map Nm.cells) ∧ Reads w' 111 2 v.d (d.dur.map Nm.cells) ∧ OwnR w' 0 114 3 v.s (d.waits.map St.cells))
    (apart : ∀ (i j : Nat) (v u : Dv), dv'[i]? = some v → dv'[j]? = some u → i ≠ j → v.s.ownBlock = none ∨ v.s.ownBlock ≠ u.s.ownBlock)
    (small : dirs'.length ≤ 4294967296 ∧ ∀ d ∈ dirs', d.names.length ≤ 4294967296) : Owns w' p { fs with dirs := dirs' } vf gd' cd' dv' := by
  have hf := own_ty h.files hF
  have hz : (List.zipWith drCells dirs' dv').length = dirs'.length := by rw [List.length_zipWith, many]; exact Nat.min_self _
  exact ⟨⟨ht, hf.reads, many, own_elems dirs hz h0, fun i d v hd hv => by
    obtain ⟨a, b, c⟩ := each i d v hd hv
    exact ⟨a, b, c.reads⟩, h.sees.ticks, small⟩, hf, dirs, fun i d v hd hv => (each i d v hd hv).2.2, apart⟩
/-- A cell of a file has turned. -/
theorem file_set (h : Owns w p fs vf gd cd dv) {n j c g : Nat} {x x' : Fl} {v : Value} (hv : vf = .slice (some ⟨g, 0, none⟩) fs.files.length c) (hx : fs.files[n]? = some x) (hj : j < 2) (hc : x'.cells = x.cells.set j v) :
    Owns (w.setCell ⟨g, n * 2 + j, none⟩ v) p { fs with files := fs.files.set n x' } vf gd cd dv ∧ Moves w (w.setCell ⟨g, n * 2 + j, none⟩ v) (Foot p gd vf dv) (Foot p gd vf dv) := by
  obtain ⟨curF, hkF⟩ := h.files.kind (show vf.ownBlock = some g by rw [hv]; rfl)
  have hS : ∀ t, t ≠ 109 → Same t w (w.setCell ⟨g, n * 2 + j, none⟩ v) := fun t ht g' cur hg' => Below.heap_setCell w _ _ g' (kind_ne hg' hkF ht)
  have hlen : (fs.files.map Fl.cells).length = fs.files.length := List.length_map _
  refine ⟨owns_files h (hS _ (by decide)) (hS _ (by decide)) (hS _ (by decide)) ?_ ?_, rfl, rfl, rfl, by simp [World.setCell], fun g' _ hn => Below.heap_setCell w _ _ g' (fun e => hn (.inr (.inr (.inl (by rw [hv, e]; rfl))))), fun _ hg' => .inl hg'⟩
  · exact hold_ty h.sees.top (hS _ (by decide))
  · have h1 := h.files.1
    rw [hlen, hv] at h1
    have h2 := (World.ownsRow.stored h1 (n * 2 + j) v).1
    rw [← hv] at h2
    have e := flat_set (s := 2) (xs := fs.files.map Fl.cells) (fl_cells_one _).1 (i := n) (k := j) (cs := x.cells) v (by rw [List.getElem?_map, hx]; rfl) hj
    have e3 : (fs.files.set n x').map Fl.cells = (fs.files.map Fl.cells).set n (x.cells.set j v) := by rw [List.map_set, hc]
    refine ⟨?_, (fl_cells_one _).1⟩
    rw [List.length_map, List.length_set, e3, e]
    exact h2
end
theorem file_is {fs : Fs} {path : ByteArray} (h : (fileRes fs path).2 = 0) (hn : Named fs) : ∃ (n : Nat) (x : Fl), fileRes fs path = ((n : Int), 0) ∧ fs.files[n]? = some x := by
  obtain ⟨i, k, hf⟩ := file_ok h
  obtain ⟨d, y, hd, hy⟩ := find_some hf
  have hl : y.f < fs.files.length := (hn d (List.mem_of_getElem? hd)).1 y (List.mem_of_getElem? hy)
  refine ⟨y.f, fs.files[y.f], ?_, List.getElem?_eq_getElem hl⟩
  unfold fileRes at h ⊢
  split at h
  · rename_i h1; exact absurd h h1
  · rename_i h1
    split at h
    · cases h
    · rename_i h2
      rw [if_neg h1, if_neg h2]
      unfold fileEnd
      rw [hf]
      simp [hd, hy]
def syncFs (fs : Fs) (path : ByteArray) : Fs :=
  if (fileRes fs path).2 ≠ 0 then beginFs fs else match fs.files[(fileRes fs path).1.toNat]? with
  | none => beginFs fs
  | some x => { beginFs fs with files := fs.files.set (fileRes fs path).1.toNat ⟨x.b, x.b⟩ }
def readRes (fs : Fs) (path : ByteArray) : ByteArray × Int :=
  if (fileRes fs path).2 ≠ 0 then (⟨#[]⟩, (fileRes fs path).2) else match fs.files[(fileRes fs path).1.toNat]? with
  | none => (⟨#[]⟩, 0)
  | some x => (x.b, 0)
theorem owns_vf {w : World} {p gd cd : Nat} {fs : Fs} {vf : Value} {dv : List Dv} (h : Owns w p fs vf gd cd dv) (h0 : 0 < fs.files.length) : ∃ g c, vf = .slice (some ⟨g, 0, none⟩) fs.files.length c ∧ fs.files.length ≤ c := by
  have h1 := h.files.1
  rw [List.length_map] at h1
  rcases h1.2 with ⟨_, e⟩ | ⟨g, cap, cur, hv, _, _, hc, _⟩
  · omega
  · exact ⟨g, cap, hv, hc⟩

set_option maxRecDepth 100000 in
set_option maxHeartbeats 4000000 in
theorem sync_any (p gd cd : Nat) (fs : Fs) (vf : Value) (dv : List Dv) (path : ByteArray) (w : World) (h : Owns w p fs vf gd cd dv) (hs : path.size ≤ 4294967296) (hn : Named fs) (hl : fs.files.length ≤ 1000000) :
    Calls Tryz.prog 32 #[.pointer (some ⟨p, 0, none⟩), .string path] w fun e w' => e = .returned (.int .i64 (fileRes fs path).2) ∧ Owns w' p (syncFs fs path) vf gd cd dv ∧ Moves w w' (Foot p gd vf dv) (Foot p gd vf dv) := by
  obtain ⟨⟨B1, B2⟩, hB⟩ : ∃ B, fileRes fs path = B := ⟨_, rfl⟩
  rw [hB]
  go_enter Tryz.func32, Tryz.ntmps32
  go_wp2_with fail
  refine (rfile_any p gd cd fs vf dv path w h.sees hs).mono ?_
  rintro e w1 ⟨rfl, h1, hg⟩
  have ho1 := h.turn h1 hg (beginFs_dirs fs) (beginFs_files fs)
  rw [hB]
  unfold intsVal
  dsimp only
  by_cases hb2 : B2 = 0
  · subst hb2
    obtain ⟨n, x, hnx, hx⟩ := file_is (fs := fs) (path := path) (by rw [hB]) hn
    have e1 : B1 = (n : Int) := by rw [hB] at hnx; injection hnx
    subst e1
    have hfs : syncFs fs path = { beginFs fs with files := (beginFs fs).files.set n ⟨x.b, x.b⟩ } := by
      unfold syncFs
      rw [if_neg (by rw [hB]; simp), hB]
      show (match fs.files[n]? with | none => _ | some x => _) = _
      rw [hx, beginFs_files]; rfl
    have hx' : (beginFs fs).files[n]? = some x := by rw [beginFs_files]; exact hx
    have hnl := lt_of_get hx'
    have hl' : (beginFs fs).files.length ≤ 1000000 := by rw [beginFs_files]; exact hl
    obtain ⟨g, c, hv, hcap⟩ := owns_vf ho1 (by omega)
    obtain ⟨g2, cap2, hv2, _, hcell⟩ := h1.files.at_ (k := n) (cs := x.cells) (by rw [List.getElem?_map, hx']; rfl)
    have hgg : g2 = g := by rw [hv] at hv2; injection hv2 with e1 _ _; injection e1 with e1; injection e1 with e1 _ _; exact e1.symm
    subst hgg
    have hc0 : w1.cell? ⟨g2, n * 2, none⟩ = some (.string x.b) := hcell 0 _ rfl
    have hc1 : w1.cell? ⟨p, 1, none⟩ = some vf := by rw [h1.top.cell]; rfl
    have hd1 : w1.cell? ⟨g2, n * 2 + 1, none⟩ = some (.string x.d) := hcell 1 _ rfl
    have hown := ho1.files
    rw [hv] at hown hc1
    have hfz := hown.frozen (n * 2 + 1)
    have hn0 : (0 : Int) ≤ (n : Int) := by omega
    have hn1 : (n : Int) < ((beginFs fs).files.length : Int) := by omega
    have HS := Lib.hid (file_set ho1 hv hx' (j := 1) (x' := ⟨x.b, x.b⟩) (v := .string x.b) (by decide) rfl)
    have HFS := Lib.hid hfs
    clear hfs hx hx' hcell hv hv2 hown hnx
    go_wp2_with fail
    refine wp_region_mix (fun z => z.cell? ⟨p, 1, none⟩ = some (.slice (some ⟨g2, 0, none⟩) (beginFs fs).files.length c) ∧ z.cell? ⟨g2, n * 2, none⟩ = some (.string x.b)) [true, true, true, true, true, true, true, true, true, true, true, true, true, true, true] _ (by kernel_rfl) rfl (by kernel_rfl) ⟨hc1, hc0⟩ ?_
    dsimp only [List.dropLast, List.zip, List.zipWith, List.getLast]
    repeat (apply wpMix_free
            · intro z hz
              try dsimp only at hz
              go_simp
              all_goals with_reducible rfl
            simp only [Act.put, List.setIfInBounds_toArray, List.set_cons_zero, List.set_cons_succ])
    refine wpMix_end ?_
    go_simp
    go_wp2_with fail
    go_ret
    have hk := HS.out
    refine ⟨rfl, ?_, (Moves.of_gb hg).trans ?_⟩
    · rw [HFS.out]; exact hk.1.below (Below.refl _ _).drew
    · exact hk.2.below (Below.refl _ _).drew
  · have hfs : syncFs fs path = beginFs fs := by unfold syncFs; rw [if_pos (by rw [hB]; exact hb2)]
    have HFS := Lib.hid hfs
    clear hfs
    go_wp2_with fail
    go_ret
    exact ⟨rfl, by rw [HFS.out]; exact ho1, Moves.of_gb hg⟩

set_option maxRecDepth 100000 in
set_option maxHeartbeats 4000000 in
theorem read_any (p gd cd : Nat) (fs : Fs) (vf : Value) (dv : List Dv) (path : ByteArray) (w : World) (h : Owns w p fs vf gd cd dv) (hs : path.size ≤ 4294967296) (hn : Named fs) (hl : fs.files.length ≤ 1000000) :
    Calls Tryz.prog 36 #[.pointer (some ⟨p, 0, none⟩), .string path] w fun e w' => e = .returned (.tuple #[.string (readRes fs path).1, .int .i64 (readRes fs path).2]) ∧ Owns w' p (beginFs fs) vf gd cd dv ∧ Moves w w' (Foot p gd vf dv) (Foot p gd vf dv) := by
  obtain ⟨⟨B1, B2⟩, hB⟩ : ∃ B, fileRes fs path = B := ⟨_, rfl⟩
  obtain ⟨R, hR⟩ : ∃ R, readRes fs path = R := ⟨_, rfl⟩
  rw [hR]
  unfold readRes at hR
  rw [hB] at hR
  go_enter Tryz.func36, Tryz.ntmps36
  go_wp2_with fail
  refine (rfile_any p gd cd fs vf dv path w h.sees hs).mono ?_
  rintro e w1 ⟨rfl, h1, hg⟩
  have ho1 := h.turn h1 hg (beginFs_dirs fs) (beginFs_files fs)
  rw [hB]
  unfold intsVal
  dsimp only
  by_cases hb2 : B2 = 0
  · subst hb2
    obtain ⟨n, x, hnx, hx⟩ := file_is (fs := fs) (path := path) (by rw [hB]) hn
    have e1 : B1 = (n : Int) := by rw [hB] at hnx; injection hnx
    subst e1
    rw [if_neg (by simp)] at hR
    have hR2 : (x.b, (0 : Int)) = R := by
      have e2 : fs.files[((n : Int), (0 : Int)).1.toNat]? = some x := hx
      rw [e2] at hR; exact hR
    subst hR2
    have hx' : (beginFs fs).files[n]? = some x := by rw [beginFs_files]; exact hx
    have hnl := lt_of_get hx'
    have hl' : (beginFs fs).files.length ≤ 1000000 := by rw [beginFs_files]; exact hl
    obtain ⟨g, c, hv, hcap, hcell⟩ := h1.files.at_ (k := n) (cs := x.cells) (by rw [List.getElem?_map, hx']; rfl)
    rw [List.length_map] at hv hcap
    have hc0 : w1.cell? ⟨g, n * 2, none⟩ = some (.string x.b) := hcell 0 _ rfl
    have hc1 : w1.cell? ⟨p, 1, none⟩ = some (.slice (some ⟨g, 0, none⟩) (beginFs fs).files.length c) := by rw [h1.top.cell, ← hv]; rfl
    have hn0 : (0 : Int) ≤ (n : Int) := by omega
    have hn1 : (n : Int) < ((beginFs fs).files.length : Int) := by omega
    clear hR hx hx' hcell hnx hv
    go_wp2_with fail
    go_ret2
    exact ⟨rfl, ho1, Moves.of_gb hg⟩
  · rw [if_pos hb2] at hR
    subst hR
    go_wp2_with fail
    go_ret2
    exact ⟨rfl, ho1, Moves.of_gb hg⟩
end Go.Proofs.YtdbcjiapbehacaaGreatDoor.Vf
