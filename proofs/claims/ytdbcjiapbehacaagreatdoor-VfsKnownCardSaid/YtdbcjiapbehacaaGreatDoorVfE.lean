/-
  The document's file system: New, Mkdir, SyncDir.
-/
import Derived.Test.YtdbcjiapbehacaaGreatDoorVfD
import Derived.Test.YtdbcjiapbehacaaGreatDoorVfM
namespace Go.Proofs.YtdbcjiapbehacaaGreatDoor.Vf
open Go.RowKit

theorem own_set {w : World} {base : Nat} {t : TypeId} {s g n cap i k : Nat} {xs : List (List Value)} {cs : List Value} (h : OwnR w base t s (.slice (some ⟨g, 0, none⟩) n cap) xs) (hn : xs.length = n) (hx : xs[i]? = some cs) (hk : k < s) (v : Value) : OwnR (w.setCell ⟨g, i * s + k, none⟩ v) base t s (.slice (some ⟨g, 0, none⟩) n cap) (xs.set i (cs.set k v)) := by
  have hcs : cs.length = s := h.2 cs (List.mem_of_getElem? hx)
  have h1 := h.1
  rw [hn] at h1
  have h2 := (World.ownsRow.stored h1 (i * s + k) v).1
  refine ⟨?_, fun y hy => ?_⟩
  · rw [List.length_set, hn, flat_set h.2 v hx hk]; exact h2
  · rcases List.mem_or_eq_of_mem_set hy with hy | rfl
    · exact h.2 y hy
    · rw [List.length_set]; exact hcs
theorem reads_one (W : World) (t : TypeId) (cs : List Value) (g : Nat) (hg : W.heap.size = g) : Reads (W.alloc (.cells cs.toArray t)) t cs.length (.slice (some ⟨g, 0, none⟩) 1 1) [cs] := by
  subst hg
  refine .inr ⟨W.heap.size, 1, rfl, rfl, Nat.le_refl _, fun i k ds u hi hk => ?_, _, heap_alloc_new W _⟩
  have hi0 : i = 0 := by have := lt_of_get hi; simpa using this
  subst hi0
  have : ds = cs := by simpa using hi.symm
  subst this
  rw [Nat.zero_mul, Nat.zero_add, cell_of_row _ _ k ds.toArray t (0, 0) (heap_alloc_new W _)]
  simpa using hk
theorem nil_reads (w : World) (t : TypeId) (s : Nat) : Reads w t s (.slice none 0 0) [] := .inl ⟨rfl, none, 0, rfl⟩
theorem get_set_cases {α : Type} {l : List α} {i j : Nat} {a x : α} (h : (l.set i a)[j]? = some x) : (j = i ∧ x = a) ∨ (j ≠ i ∧ l[j]? = some x) := by
  by_cases e : j = i
  · subst e
    have hl : j < l.length := by have := lt_of_get h; simpa using this
    rw [List.getElem?_set_self hl] at h
    injection h with h
    exact .inl ⟨rfl, h.symm⟩
  · rw [List.getElem?_set_ne (Ne.symm e)] at h
    exact .inr ⟨e, h⟩
def newFs (most : Int) : Fs := { most := max 0 most, files := [], dirs := [⟨⟨#[47]⟩, [], [], []⟩], down := false, crash := 0 }
def nilDv : Dv := ⟨.slice none 0 0, .slice none 0 0, .slice none 0 0⟩
theorem new_owns (m : Int) (w : World) : Owns ((w.alloc (.cells #[.string ⟨#[47]⟩, .slice none 0 0, .slice none 0 0, .slice none 0 0] 62)).alloc (.cells #[.int .i64 m, .slice none 0 0, .slice (some ⟨w.heap.size, 0, none⟩) 1 1, .bool false, .int .i64 0] 66)) (w.heap.size + 1) { most := m, files := [], dirs := [⟨⟨#[47]⟩, [], [], []⟩], down := false, crash := 0 } (.slice none 0 0) w.heap.size 1 [nilDv] ∧
    Below w.heap.size w ((w.alloc (.cells #[.string ⟨#[47]⟩, .slice none 0 0, .slice none 0 0, .slice none 0 0] 62)).alloc (.cells #[.int .i64 m, .slice none 0 0, .slice (some ⟨w.heap.size, 0, none⟩) 1 1, .bool false, .int .i64 0] 66)) := by
  have hown : OwnR (w.alloc (.cells #[.string ⟨#[47]⟩, .slice none 0 0, .slice none 0 0, .slice none 0 0] 62)) 0 62 4 (.slice (some ⟨w.heap.size, 0, none⟩) 1 1) [[.string ⟨#[47]⟩, .slice none 0 0, .slice none 0 0, .slice none 0 0]] :=
    ⟨World.ownsRow_lit w #[.string ⟨#[47]⟩, .slice none 0 0, .slice none 0 0, .slice none 0 0] 1 (Nat.zero_le _) (by unfold maxLen; omega) rfl, fun x hx => by rw [List.mem_singleton.1 hx]; rfl⟩
  have hb : Below w.heap.size w (w.alloc (.cells #[.string ⟨#[47]⟩, .slice none 0 0, .slice none 0 0, .slice none 0 0] 62)) := (Below.refl _ _).alloc (Nat.le_refl _) _
  have hd := hown.alloc (.cells #[.int .i64 m, .slice none 0 0, .slice (some ⟨w.heap.size, 0, none⟩) 1 1, .bool false, .int .i64 0] 66)
  refine ⟨⟨⟨?_, nil_reads _ _ _, rfl, own_elems hd rfl (by show 0 < 1; omega), fun i d v hd hv => ?_, ⟨by show (-9223372036854775808 : Int) ≤ 0; omega, by show (0 : Int) ≤ 9223372036854775807; omega⟩, by show 1 ≤ 4294967296; omega, ?_⟩, OwnR.nil _ _ _ _, hd, fun i d v hd hv => ?_, fun i j v u hv hu hne => ?_⟩, hb.alloc (by simp) _⟩
  · have := heap_alloc_new (w.alloc (.cells #[.string ⟨#[47]⟩, .slice none 0 0, .slice none 0 0, .slice none 0 0] 62)) (.cells #[.int .i64 m, .slice none 0 0, .slice (some ⟨w.heap.size, 0, none⟩) 1 1, .bool false, .int .i64 0] 66)
    rw [World.size_alloc] at this
    exact this
  · cases i with
    | zero =>
      simp at hd hv
      subst hd; subst hv
      exact ⟨nil_reads _ _ _, nil_reads _ _ _, nil_reads _ _ _⟩
    | succ i => simp at hd
  · intro d hd
    rw [List.mem_singleton.1 hd]; decide
  · cases i with
    | zero =>
      simp at hd hv
      subst hd; subst hv
      exact OwnR.nil _ _ _ _
    | succ i => simp at hd
  · cases i with
    | zero => simp at hv; subst hv; exact .inl rfl
    | succ i => simp at hv
set_option maxRecDepth 100000 in
theorem new_any (most : Int) (w : World) :
    Calls Tryz.prog 12 #[.int .i64 most] w fun e w' => e = .returned (.pointer (some ⟨w.heap.size + 1, 0, none⟩)) ∧ Owns w' (w.heap.size + 1) (newFs most) (.slice none 0 0) w.heap.size 1 [nilDv] ∧ Below w.heap.size w w' := by
  by_cases hm : 0 < most
  · have hm' : newFs most = { most := most, files := [], dirs := [⟨⟨#[47]⟩, [], [], []⟩], down := false, crash := 0 } := by unfold newFs; rw [show max 0 most = most by omega]
    rw [hm']
    clear hm'
    go_enter Tryz.func12, Tryz.ntmps12
    go_wp2_with fail
    go_ret
    exact ⟨by simp, new_owns most w⟩
  · have hm' : newFs most = { most := 0, files := [], dirs := [⟨⟨#[47]⟩, [], [], []⟩], down := false, crash := 0 } := by unfold newFs; rw [show max 0 most = 0 by omega]
    rw [hm']
    clear hm'
    go_enter Tryz.func12, Tryz.ntmps12
    go_wp2_with fail
    go_ret
    exact ⟨by simp, new_owns 0 w⟩

/-! ### SyncDir -/
def syncDirFs (fs : Fs) (path : ByteArray) : Fs :=
  if (dirRes fs path).2 ≠ 0 then beginFs fs else { beginFs fs with dirs := fs.dirs.modify (dirRes fs path).1.toNat fun d => { d with dur := d.names, waits := [] } }
theorem dir_is {fs : Fs} {path : ByteArray} (h : (dirRes fs path).2 = 0) : ∃ (n : Nat) (d : Dr), dirRes fs path = ((n : Int), 0) ∧ fs.dirs[n]? = some d := by
  unfold dirRes at h ⊢
  split at h
  · rename_i h1; exact absurd h h1
  · rename_i h1
    split at h
    · cases h
    · rename_i h2
      rw [if_neg h1, if_neg h2]
      unfold dirEnd at h ⊢
      split at h
      · cases h
      · rename_i h3
        rw [if_neg h3]
        unfold dirAt at h3 ⊢
        split
        · rename_i h4
          exact ⟨_, _, rfl, List.getElem?_eq_getElem h4⟩
        · rename_i h4
          rw [if_neg h4] at h3; omega
/-- A directory has turned: its durable names are new, nothing waits. -/
theorem dir_synced {w w1 V : World} {p gd cd i : Nat} {fs : Fs} {vf : Value} {dv : List Dv} {d : Dr} {u : Dv} {v' : Value} (h : Owns w p fs vf gd cd dv) (hd : fs.dirs[i]? = some d) (hu : dv[i]? = some u) (hw1 : Below w.heap.size w w1) (hg : w1.grownBy V (some w.heap.size)) (hs : w.heap.size < w1.heap.size)
    (hown : OwnR V w.heap.size 111 2 v' (d.names.map Nm.cells)) :
    Owns ((V.setCell ⟨gd, i * 4 + 2, none⟩ v').setCell ⟨gd, i * 4 + 3, none⟩ (.slice none 0 0)) p { fs with dirs := fs.dirs.set i { d with dur := d.names, waits := [] } } vf gd cd (dv.set i ⟨u.n, v', .slice none 0 0⟩) ∧
    Moves w ((V.setCell ⟨gd, i * 4 + 2, none⟩ v').setCell ⟨gd, i * 4 + 3, none⟩ (.slice none 0 0)) (Foot p gd vf dv) (Foot p gd vf (dv.set i ⟨u.n, v', .slice none 0 0⟩)) := by
  obtain ⟨curD, hkD⟩ := h.sees.dirs.kind
  have hgl : gd < w.heap.size := h.sees.dirs.lt
  have hil := lt_of_get hd
  have hui : i < dv.length := lt_of_get hu
  have hVold : ∀ g, g < w.heap.size → V.heap[g]? = w.heap[g]? := fun g hl => (hg.block g (by omega) (fun e => by injection e with e; omega)).trans (hw1.block g hl)
  have hfar : ∀ g, g ≠ gd → ((V.setCell ⟨gd, i * 4 + 2, none⟩ v').setCell ⟨gd, i * 4 + 3, none⟩ (.slice none 0 0)).heap[g]? = V.heap[g]? := fun g hne => (Below.heap_setCell _ ⟨gd, i * 4 + 3, none⟩ _ g hne).trans (Below.heap_setCell _ ⟨gd, i * 4 + 2, none⟩ _ g hne)
  have hlt : ∀ {g : Nat} {o : Obj}, w.heap[g]? = some o → g < w.heap.size := fun hg => (Array.getElem?_eq_some_iff.1 hg).1
  have hS : ∀ t, t ≠ 62 → Same t w ((V.setCell ⟨gd, i * 4 + 2, none⟩ v').setCell ⟨gd, i * 4 + 3, none⟩ (.slice none 0 0)) := fun t ht g cur hg' => (hfar g (kind_ne hg' hkD ht)).trans (hVold g (hlt hg'))
  have hlenZ : (List.zipWith drCells fs.dirs dv).length = fs.dirs.length := h.sees.dirs.len
  have hzi : (List.zipWith drCells fs.dirs dv)[i]? = some (drCells d u) := by rw [List.getElem?_zipWith, hd, hu]
  have hdV : OwnR V 0 62 4 (.slice (some ⟨gd, 0, none⟩) fs.dirs.length cd) (List.zipWith drCells fs.dirs dv) := h.dirs.blk fun k hk => by
    injection hk with hk; subst hk; exact hVold _ hgl
  have hd1 := own_set hdV hlenZ hzi (k := 2) (by decide) v'
  have hd2 := own_set hd1 (by rw [List.length_set]; exact hlenZ) (i := i) (cs := (drCells d u).set 2 v') (by rw [List.getElem?_set_self (by rw [hlenZ]; exact hil)]) (k := 3) (by decide) (.slice none 0 0)
  rw [List.set_set] at hd2
  have hsl : (fs.dirs.set i { d with dur := d.names, waits := [] }).length = fs.dirs.length := List.length_set
  refine ⟨owns_dirs h (hS _ (by decide)) ?_ (by rw [List.length_set, hsl]; exact h.sees.many) (by rw [hsl]; omega) ?_ (fun j e v he hv => ?_) (fun j m v z hv hz hne => ?_) ⟨by rw [hsl]; exact h.sees.small.1, fun e he => ?_⟩, ?_⟩
  · have := hold_ty h.sees.top (hS _ (by decide))
    unfold topCells
    simp only [hsl]
    exact this
  · rw [hsl, zip_set]
    exact hd2
  · rcases get_set_cases he with ⟨rfl, rfl⟩ | ⟨hne, he⟩
    · rcases get_set_cases hv with ⟨_, rfl⟩ | ⟨hne, _⟩
      · refine ⟨((h.sees.each _ d u hd hu).1).keep (hS _ (by decide)), ?_, OwnR.nil _ _ _ _⟩
        refine OwnR.reads (base := w.heap.size) (hown.blk fun k hk => hfar k ?_)
        have := (hown.lt k hk).1
        omega
      · exact absurd rfl hne
    · rcases get_set_cases hv with ⟨e, _⟩ | ⟨_, hv⟩
      · exact absurd e hne
      · have hj := h.sees.each j e v he hv
        exact ⟨hj.1.keep (hS _ (by decide)), hj.2.1.keep (hS _ (by decide)), own_ty (h.waits j e v he hv) (hS _ (by decide))⟩
  · rcases get_set_cases hv with ⟨rfl, rfl⟩ | ⟨hne1, hv⟩
    · exact .inl rfl
    · rcases get_set_cases hz with ⟨rfl, rfl⟩ | ⟨hne2, hz⟩
      · cases hvb : v.s.ownBlock with
        | none => exact .inl rfl
        | some k => exact .inr (by simp [Value.ownBlock])
      · exact h.apart j m v z hv hz hne
  · rcases List.mem_or_eq_of_mem_set he with he | rfl
    · exact h.sees.small.2 e he
    · exact h.sees.small.2 d (List.mem_of_getElem? hd)
  · refine ⟨hg.os.trans hw1.os, hg.tape.trans hw1.tape, hg.output.trans hw1.output, by simp only [World.setCell, Array.size_modify]; exact Nat.le_trans hw1.size hg.size, fun g hl hn => ?_, fun g hg' => ?_⟩
    · exact (hfar g (fun e => hn (.inr (.inl e)))).trans (hVold g hl)
    · rcases hg' with e | e | e | ⟨v, hv, e⟩
      · exact .inl (.inl e)
      · exact .inl (.inr (.inl e))
      · exact .inl (.inr (.inr (.inl e)))
      · rcases List.mem_or_eq_of_mem_set hv with hv | rfl
        · exact .inl (.inr (.inr (.inr ⟨v, hv, e⟩)))
        · cases e
set_option maxRecDepth 100000 in
set_option maxHeartbeats 4000000 in
theorem syncDir_any (p gd cd : Nat) (fs : Fs) (vf : Value) (dv : List Dv) (path : ByteArray) (w : World) (h : Owns w p fs vf gd cd dv) (hs : path.size ≤ 4294967296) (hsh : Short fs) :
    Calls Tryz.prog 33 #[.pointer (some ⟨p, 0, none⟩), .string path] w fun e w' => e = .returned (.int .i64 (dirRes fs path).2) ∧ ∃ dv', Owns w' p (syncDirFs fs path) vf gd cd dv' ∧ Moves w w' (Foot p gd vf dv) (Foot p gd vf dv') := by
  obtain ⟨⟨B1, B2⟩, hB⟩ : ∃ B, dirRes fs path = B := ⟨_, rfl⟩
  rw [hB]
  go_enter Tryz.func33, Tryz.ntmps33
  go_wp2_with fail
  refine (rdirectory_any p gd cd fs vf dv path w h.sees hs).mono ?_
  rintro e w1 ⟨rfl, h1, hg⟩
  have ho1 := h.turn h1 hg (beginFs_dirs fs) (beginFs_files fs)
  rw [hB]
  unfold intsVal
  dsimp only
  by_cases hb2 : B2 = 0
  · subst hb2
    obtain ⟨n, d, hnx, hd⟩ := dir_is (fs := fs) (path := path) (by rw [hB])
    have e1 : B1 = (n : Int) := by rw [hB] at hnx; injection hnx
    subst e1
    have hfs : syncDirFs fs path = { beginFs fs with dirs := (beginFs fs).dirs.set n { d with dur := d.names, waits := [] } } := by
      unfold syncDirFs
      rw [if_neg (by rw [hB]; simp), hB, beginFs_dirs]
      show ({ beginFs fs with dirs := fs.dirs.modify n _ } : Fs) = _
      rw [mod_set hd]
    have hd' : (beginFs fs).dirs[n]? = some d := by rw [beginFs_dirs]; exact hd
    have hnl := lt_of_get hd'
    obtain ⟨d2, u, hd2, hu, _, hc1, hc2, hc3⟩ := h1.dir hnl
    obtain rfl : d = d2 := by rw [hd'] at hd2; injection hd2
    have hct : w1.cell? ⟨p, 2, none⟩ = some (.slice (some ⟨gd, 0, none⟩) (beginFs fs).dirs.length cd) := by rw [h1.top.cell]; rfl
    have hfit := h1.dirs.fits
    have hsm := h1.small.1
    have hrd := (h1.each n d u hd' hu).1
    have hdl := (hsh d (List.mem_of_getElem? hd)).1
    have hpl : p < w1.heap.size := h1.top.lt
    have hgl : gd < w1.heap.size := h1.dirs.lt
    have hn0 : (0 : Int) ≤ (n : Int) := by omega
    have hn1 : (n : Int) < ((beginFs fs).dirs.length : Int) := by omega
    have hfz2 := ho1.dirs.frozen (n * 4 + 2)
    have hfz3 := ho1.dirs.frozen (n * 4 + 3)
    have hpg : p ≠ gd := by
      obtain ⟨cur, hk⟩ := h1.dirs.kind
      have ht := h1.top
      unfold Hold at ht
      exact kind_ne ht hk (by decide)
    have HFS := Lib.hid hfs; have HRD := Lib.hid hrd; have HO := Lib.hid ho1; have HD := Lib.hid hd'; have HU := Lib.hid hu
    clear hfs hd hd' hd2 hnx hrd ho1 hu
    go_wp2_with fail
    refine wp_region_perm (fun z => z.cell? ⟨p, 2, none⟩ = some (.slice (some ⟨gd, 0, none⟩) (beginFs fs).dirs.length cd) ∧ z.cell? ⟨gd, n * 4 + 1, none⟩ = some u.n) [(0, true), (1, true), (2, true), (3, true), (4, true), (6, true), (7, true), (8, true), (9, true), (10, true), (11, true), (12, true), (13, true), (5, false), (14, false), (15, true), (16, true)] _ (by kernel_rfl) rfl (by kernel_rfl) rfl ⟨hct, hc1⟩ ?_
    simp only [permL, List.dropLast, List.getElem?_cons_zero, List.getElem?_cons_succ, List.getLast]
    repeat (apply wpMix_free
            · intro z hz
              try dsimp only at hz
              go_simp
              all_goals with_reducible rfl
            simp only [Act.put, List.setIfInBounds_toArray, List.set_cons_zero, List.set_cons_succ])
    refine wpMix_turn (fun K hK => ?_)
    have HK := Lib.hid hK; clear hK
    go_simp
    have hal : ∀ (q : Addr) (y : Value), q.block < w1.heap.size → w1.cell? q = some y → (w1.drew.alloc (.cells #[] 111)).cell? q = some y := fun q y hq hy => (World.cell?_alloc_lt w1.drew _ q hq).trans hy
    refine HK.out _ _ ⟨hal _ _ hpl hct, hal _ _ hgl hc1⟩ ?_
    clear HK
    try simp only [Act.put, List.setIfInBounds_toArray, List.set_cons_zero, List.set_cons_succ]
    repeat (apply wpMix_free
            · intro z hz
              try dsimp only at hz
              go_simp
              all_goals with_reducible rfl
            simp only [Act.put, List.setIfInBounds_toArray, List.set_cons_zero, List.set_cons_succ])
    refine wpMix_turn (fun K hK => ?_)
    have HK := Lib.hid hK; clear hK
    have hb1 : Below w1.heap.size w1 (w1.drew.alloc (.cells #[] 111)) := (Below.refl _ _).drew.alloc (Nat.le_refl _) _
    refine wp_append_row (.tmp 20) (.tmp 28) rfl Tryz.underlying59 name_info rfl (by decide) (by decide) rfl rfl (own_empty w1.drew w1.heap.size 111 2 (Nat.le_refl _)) (HRD.out.keep fun g cur hg' => hb1.block g (Array.getElem?_eq_some_iff.1 hg').1) (nm_cells_one _).1 (nm_cells_one _).2 (by rw [List.length_map]; simp; omega) (by simp) ?_
    intro v' V hown hgr hat
    rw [List.nil_append] at hown
    obtain ⟨A9, c9, hv9⟩ := hown.reads.len
    rw [List.length_map] at hv9
    subst hv9
    have hcl : ∀ (q : Addr) (y : Value), q.block < w1.heap.size → w1.cell? q = some y → V.cell? q = some y := fun q y hq hy => (World.cell?_of_block (hgr.block _ (by simp; omega) (fun e => by injection e with e; have e' : q.block = w1.heap.size := e; omega))).trans (hal q y hq hy)
    refine HK.out _ _ ⟨hcl _ _ hpl hct, hcl _ _ hgl hc1⟩ ?_
    clear HK
    try simp only [Act.put, List.setIfInBounds_toArray, List.set_cons_zero, List.set_cons_succ]
    repeat (apply wpMix_free
            · intro z hz
              try dsimp only at hz
              go_simp
              all_goals with_reducible rfl
            simp only [Act.put, List.setIfInBounds_toArray, List.set_cons_zero, List.set_cons_succ])
    have hv2 : V.cell? ⟨gd, n * 4 + 2, none⟩ = some u.d := hcl ⟨gd, n * 4 + 2, none⟩ _ hgl hc2
    have hblk : V.heap[gd]? = w1.heap[gd]? := (hgr.block gd (by simp; omega) (fun e => by injection e with e; have e' : gd = w1.heap.size := e; omega)).trans (hb1.block gd hgl)
    have hvz2 : V.frozen? ⟨gd, n * 4 + 2, none⟩ = false := (World.frozen?_of_block (a := ⟨gd, n * 4 + 2, none⟩) hblk).trans hfz2
    have hvz3 : V.frozen? ⟨gd, n * 4 + 3, none⟩ = false := (World.frozen?_of_block (a := ⟨gd, n * 4 + 3, none⟩) hblk).trans hfz3
    have hvt : V.cell? ⟨p, 2, none⟩ = some (.slice (some ⟨gd, 0, none⟩) (beginFs fs).dirs.length cd) := hcl ⟨p, 2, none⟩ _ hpl hct
    have hv3 : V.cell? ⟨gd, n * 4 + 3, none⟩ = some u.s := hcl ⟨gd, n * 4 + 3, none⟩ _ hgl hc3
    have HSY := Lib.hid (dir_synced HO.out HD.out HU.out hb1 hgr (by simp) hown)
    clear hown hgr hat hcl hal hb1 hblk
    refine wpMix_end ?_
    go_simp
    go_wp2_with fail
    go_ret
    have hk := HSY.out
    exact ⟨rfl, _, by rw [HFS.out]; exact hk.1, (Moves.of_gb hg).trans hk.2⟩
  · have hfs : syncDirFs fs path = beginFs fs := by unfold syncDirFs; rw [if_pos (by rw [hB]; exact hb2)]
    have HFS := Lib.hid hfs
    clear hfs
    go_wp2_with fail
    go_ret
    exact ⟨rfl, dv, by rw [HFS.out]; exact ho1, Moves.of_gb hg⟩
end Go.Proofs.YtdbcjiapbehacaaGreatDoor.Vf
