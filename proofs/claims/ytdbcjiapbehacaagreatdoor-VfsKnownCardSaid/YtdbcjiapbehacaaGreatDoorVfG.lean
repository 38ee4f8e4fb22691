/-
  The document's file system: Write.
-/
import Derived.Test.YtdbcjiapbehacaaGreatDoorVfF
namespace Go.Proofs.YtdbcjiapbehacaaGreatDoor.Vf
open Go.RowKit

/-- Small enough to be gone through. -/
structure RFit (fs : Fs) : Prop where
  short : Short fs
  named : Named fs
  files : fs.files.length ≤ 1000000
  dirs : fs.dirs.length ≤ 65536
  used : usedD fs fs.dirs ≤ 4294967296
theorem used_begin (fs : Fs) : usedD (beginFs fs) (beginFs fs).dirs = usedD fs fs.dirs := by
  rw [beginFs_dirs]
  unfold usedD usedN szOf
  rw [beginFs_files]
theorem named_begin {fs : Fs} (h : Named fs) : Named (beginFs fs) := by
  unfold Named
  rw [beginFs_dirs, beginFs_files]; exact h
/-- The file that a name stands for. -/
def fileAt (fs : Fs) (x : Nat × Nat) : Nat := (((fs.dirs[x.1]?).bind fun d => d.names[x.2]?).map fun y => y.f).getD 0
def wasOf (fs : Fs) : Option (Nat × Nat) → Nat
  | none => 0
  | some x => ((fs.files[fileAt fs x]?).map fun y => y.b.size).getD 0
def writeRes (fs : Fs) (path b : ByteArray) : Int :=
  if (beginRes fs path.data.toList false).2 ≠ 0 then (beginRes fs path.data.toList false).2 else if dirAt fs (upB fs path) < 0 then 50 else if 0 ≤ dirAt fs path then 53 else
  if 65536 < b.size ∨ (findIn path fs.dirs = none ∧ 256 ≤ manyOf fs.dirs) then 3 else if (usedD fs fs.dirs : Int) - wasOf fs (findIn path fs.dirs) + b.size > fs.most then 51 else 0
def writeFs (fs : Fs) (path b : ByteArray) : Fs :=
  if writeRes fs path b ≠ 0 then beginFs fs else match findIn path fs.dirs with
  | some x => { beginFs fs with files := fs.files.modify (fileAt fs x) fun y => ⟨b, y.d⟩ }
  | none => { beginFs fs with files := fs.files ++ [⟨b, ⟨#[]⟩⟩], dirs := fs.dirs.modify (dirAt fs (upB fs path)).toNat fun d => stepD d ⟨path, fs.files.length, ⟨#[]⟩⟩ }
theorem file_info : (Tryz.prog.info? 109).map (fun i => (i.zero, i.size, i.bytes)) = some (some (.agg #[.string ⟨#[]⟩, .string ⟨#[]⟩]), 2, 32) := by kernel_rfl
theorem sz_le_N {fs : Fs} {x : Nm} : ∀ {ns : List Nm}, x ∈ ns → szOf fs x ≤ usedN fs ns
  | n :: ns, h => by
    unfold usedN
    rw [List.map_cons, List.sum_cons]
    rcases List.mem_cons.1 h with rfl | h
    · omega
    · have := sz_le_N (fs := fs) h
      unfold usedN at this; omega
theorem sz_le_D {fs : Fs} {x : Nm} {d : Dr} : ∀ {ds : List Dr}, d ∈ ds → x ∈ d.names → szOf fs x ≤ usedD fs ds
  | e :: ds, h, hx => by
    unfold usedD
    rw [List.map_cons, List.sum_cons]
    rcases List.mem_cons.1 h with rfl | h
    · have := sz_le_N (fs := fs) hx; omega
    · have := sz_le_D (fs := fs) h hx
      unfold usedD at this; omega
/-- What a name leads to. -/
structure Led (fs : Fs) (w : World) (p gd cd g c gn cn i k n : Nat) (d : Dr) (y : Fl) : Prop where
  ic : i < fs.dirs.length ∧ fs.dirs.length ≤ cd
  kc : k < d.names.length ∧ d.names.length ≤ cn
  nc : n < fs.files.length ∧ fs.files.length ≤ c
  small : fs.dirs.length ≤ 4294967296 ∧ d.names.length ≤ 4294967296 ∧ fs.files.length ≤ 1000000
  c1 : w.cell? ⟨p, 1, none⟩ = some (.slice (some ⟨g, 0, none⟩) fs.files.length c)
  c2 : w.cell? ⟨p, 2, none⟩ = some (.slice (some ⟨gd, 0, none⟩) fs.dirs.length cd)
  cn : w.cell? ⟨gd, i * 4 + 1, none⟩ = some (.slice (some ⟨gn, 0, none⟩) d.names.length cn)
  cf : w.cell? ⟨gn, k * 2 + 1, none⟩ = some (.int .i64 n)
  cb : w.cell? ⟨g, n * 2, none⟩ = some (.string y.b)
  fz : w.frozen? ⟨g, n * 2, none⟩ = false
theorem led {fs : Fs} {w : World} {p gd cd : Nat} {vf : Value} {dv : List Dv} {path : ByteArray} {i k : Nat} (h : Owns w p fs vf gd cd dv) (hr : RFit fs) (hf : findIn path fs.dirs = some (i, k)) :
    ∃ d y n g c gn cn, vf = .slice (some ⟨g, 0, none⟩) fs.files.length c ∧ fs.files[n]? = some y ∧ fileAt fs (i, k) = n ∧ y.b.size ≤ usedD fs fs.dirs ∧ Led fs w p gd cd g c gn cn i k n d y := by
  obtain ⟨d, x, hd, hx⟩ := find_some hf
  have hil := lt_of_get hd
  obtain ⟨d2, v, hd2, hv, _, hc, _⟩ := h.sees.dir hil
  obtain rfl : d = d2 := by rw [hd] at hd2; injection hd2
  obtain ⟨gn, cn, hvn, hcn, hcell⟩ := (h.sees.each i d v hd hv).1.at_ (k := k) (cs := x.cells) (by rw [List.getElem?_map, hx]; rfl)
  rw [List.length_map] at hvn hcn
  rw [hvn] at hc
  have hnl := (hr.named d (List.mem_of_getElem? hd)).1 x (List.mem_of_getElem? hx)
  obtain ⟨g, c, hvf, hcc⟩ := owns_vf h (by omega)
  obtain ⟨g2, c2, hv2, _, hcell2⟩ := h.sees.files.at_ (k := x.f) (cs := (fs.files[x.f]).cells) (by rw [List.getElem?_map, List.getElem?_eq_getElem hnl]; rfl)
  obtain rfl : g2 = g := by rw [hvf] at hv2; injection hv2 with e1 _ _; injection e1 with e1; injection e1 with e1 _ _; exact e1.symm
  have hfz := h.files
  rw [hvf] at hfz
  refine ⟨d, fs.files[x.f], x.f, g2, c, gn, cn, hvf, List.getElem?_eq_getElem hnl, by unfold fileAt; simp [hd, hx], ?_, ⟨hil, h.sees.dirs.fits⟩, ⟨lt_of_get hx, hcn⟩, ⟨hnl, hcc⟩, ⟨h.sees.small.1, h.sees.small.2 d (List.mem_of_getElem? hd), hr.files⟩, ?_, ?_, hc, hcell 1 _ rfl, hcell2 0 _ rfl, hfz.frozen _⟩
  · have h9 := sz_le_D (fs := fs) (List.mem_of_getElem? hd) (List.mem_of_getElem? hx)
    unfold szOf at h9
    rw [List.getElem?_eq_getElem hnl] at h9
    exact h9
  · rw [← hvf, h.sees.top.cell]; rfl
  · rw [h.sees.top.cell]; rfl
/-- A file more. -/
theorem file_added {w V : World} {p gd cd : Nat} {fs : Fs} {vf v' : Value} {dv : List Dv} {x : Fl} (h : Owns w p fs vf gd cd dv) (hg : w.grownBy V vf.ownBlock) (hat : v'.ownBlock = vf.ownBlock ∨ ∃ g, v'.ownBlock = some g ∧ w.heap.size ≤ g)
    (hown : OwnR V 0 109 2 v' ((fs.files ++ [x]).map Fl.cells)) :
    Owns (V.setCell ⟨p, 1, none⟩ v') p { fs with files := fs.files ++ [x] } v' gd cd dv ∧ Moves w (V.setCell ⟨p, 1, none⟩ v') (Foot p gd vf dv) (Foot p gd v' dv) := by
  have htop : w.heap[p]? = _ := h.sees.top
  have hpl : p < w.heap.size := h.sees.top.lt
  have hfar : ∀ g, g ≠ p → (V.setCell ⟨p, 1, none⟩ v').heap[g]? = V.heap[g]? := fun g hne => Below.heap_setCell _ ⟨p, 1, none⟩ _ g hne
  have hlt : ∀ {g : Nat} {o : Obj}, w.heap[g]? = some o → g < w.heap.size := fun hg => (Array.getElem?_eq_some_iff.1 hg).1
  have hvk : ∀ g, some g = vf.ownBlock → ∃ cur, w.heap[g]? = some (.cells cur 109 (0, 0)) := fun g e => h.files.kind e.symm
  have hS : ∀ t, t ≠ 109 → t ≠ 66 → Same t w (V.setCell ⟨p, 1, none⟩ v') := fun t ht ht2 g cur hg' => (hfar g (kind_ne hg' htop ht2)).trans (hg.block g (hlt hg') (fun e => by
    obtain ⟨cur2, hc⟩ := hvk g e
    exact kind_ne hg' hc ht rfl))
  have hpV : V.heap[p]? = w.heap[p]? := hg.block p hpl (fun e => by
    obtain ⟨cur2, hc⟩ := hvk p e
    exact kind_ne htop hc (by decide) rfl)
  refine ⟨owns_files h (hS _ (by decide) (by decide)) (hS _ (by decide) (by decide)) (hS _ (by decide) (by decide)) ?_ ?_, hg.os, hg.tape, hg.output, by simp only [World.setCell, Array.size_modify]; exact hg.size, fun g hl2 hn => ?_, fun g hg' => ?_⟩
  · have hk : Hold V p 66 (topCells fs vf gd cd) := h.sees.top.keep hpV
    exact hk.set 1 v'
  · refine hown.blk fun k hk => hfar k ?_
    rintro rfl
    obtain ⟨cur, hc⟩ := hown.kind hk
    rw [hpV] at hc
    exact kind_ne htop hc (by decide) rfl
  · exact (hfar g (fun e => hn (.inl e))).trans (hg.block g hl2 (fun e => hn (.inr (.inr (.inl e.symm)))))
  · rcases hg' with e | e | e | e
    · exact .inl (.inl e)
    · exact .inl (.inr (.inl e))
    · rcases hat with e2 | ⟨g2, e2, hl2⟩
      · exact .inl (.inr (.inr (.inl (e2.symm.trans e))))
      · rw [e2] at e; injection e with e
        exact .inr (by omega)
    · exact .inl (.inr (.inr (.inr e)))
end Go.Proofs.YtdbcjiapbehacaaGreatDoor.Vf
