/-
  Layer 5: VpTwin VpCp VpCp2 VpCopy, one behind the other.
-/
import Derived.Test.YtdbcjiapbehacaaGreatDoorVpF
import Derived.Laws.MakeOwn
import Derived.BigRegion
/-! Layer 5: a file's twin, for a copy. -/
namespace Go.Proofs.YtdbcjiapbehacaaGreatDoor.Vp
open Go.RowKit Go.Maps
open Go.Proofs.YtdbcjiapbehacaaGreatDoor.Vf (Hold OwnR Moves ret_int Hold.cell Hold.frozen Hold.keep Hold.lt wp_region_mix wpMix_free wpMix_turn wpMix_end)

def mkNo (i : Nat) : Value := .int .i64 i
def mkAt (g : Nat) : Value := .pointer (some ⟨g, 0, none⟩)
def okNo (i : Nat) : Prop := i ≤ 1000000
theorem no_laid : Laid Tryz.prog 2 okNo mkNo where
  law := int_keyed Tryz.underlying2
  key i h := by
    have : keyOf Tryz.prog 2 (.int .i64 i) = some (.int .i64 i) := keyOf_int_mk Tryz.underlying2 (by unfold okNo at h; simp [Lit.wf, IntKind.min, IntKind.max, IntKind.bits, IntKind.signed]; omega)
    unfold mkNo lit; rw [this]; rfl
  inj a b h := by unfold mkNo at h; injection h with _ h; omega
/-- The twins that there are: numbers, and where they lie. -/
abbrev TwinsAt (w : World) (mt : Nat) (tw : List (Nat × Nat)) : Prop := MapL Tryz.prog 2 mkNo mkAt okNo w mt tw
theorem twin_look {w : World} {mt i : Nat} {tw : List (Nat × Nat)} (h : TwinsAt w mt tw) (hi : okNo i) : (Instr.lookup 102 (.map (some mt)) (.int .i64 i) false).run Tryz.prog w = .ok (((look tw i).map mkAt).getD (.pointer none)) w :=
  MapL.look_run no_laid Tryz.underlying102 h (zero_ptr w) hi
set_option maxRecDepth 100000 in
theorem twin_none (TB : Nat) (w : World) : Calls Tryz.prog 58 #[.pointer none, .pointer (some ⟨TB, 0, none⟩)] w fun e w' => e = .returned (.pointer none) ∧ w = w' := by
  go_enter Tryz.func58, Tryz.ntmps58
  go_wp2_with fail
  go_ret
  exact ⟨rfl, rfl⟩
set_option maxRecDepth 100000 in
set_option maxHeartbeats 4000000 in
theorem twin_old (TB mt a i g : Nat) (x : Fil) (tw : List (Nat × Nat)) (w : World) (hT : w.cell? ⟨TB, 0, none⟩ = some (.map (some mt))) (ht : TwinsAt w mt tw) (hx : Hold w a 83 (filCells i x)) (hi : okNo i) (hl : look tw i = some g) :
    Calls Tryz.prog 58 #[.pointer (some ⟨a, 0, none⟩), .pointer (some ⟨TB, 0, none⟩)] w fun e w' => e = .returned (.pointer (some ⟨g, 0, none⟩)) ∧ Below w.heap.size w w' := by
  have h0 : w.cell? ⟨a, 0, none⟩ = some (.int .i64 i) := by rw [hx.cell]; rfl
  have hlk : ∀ z : World, z.heap = w.heap → (Instr.lookup 102 (.map (some mt)) (.int .i64 i) false).run Tryz.prog z = .ok (.pointer (some ⟨g, 0, none⟩)) z := fun z hz => by
    have := twin_look (w := z) (ht.same (by rw [hz])) hi
    rw [hl] at this; exact this
  have HLK := Lib.hid hlk
  clear hlk hx ht hl
  go_enter Tryz.func58, Tryz.ntmps58
  go_wp2_with fail
  refine wp_region_mix (fun z => z.cell? ⟨TB, 0, none⟩ = some (.map (some mt)) ∧ z.cell? ⟨a, 0, none⟩ = some (.int .i64 i) ∧ (Instr.lookup 102 (.map (some mt)) (.int .i64 i) false).run Tryz.prog z = .ok (.pointer (some ⟨g, 0, none⟩)) z)
    [true, true, true, true, true, true] _ (by kernel_rfl) rfl (by kernel_rfl) ⟨hT, h0, HLK.out _ rfl⟩ ?_
  dsimp only [List.dropLast, List.zip, List.zipWith, List.getLast]
  repeat (apply wpMix_free
          · intro z hz
            try dsimp only at hz
            go_simp
            all_goals with_reducible rfl
          simp only [Act.put, List.setIfInBounds_toArray, List.set_cons_zero, List.set_cons_succ])
  refine wpMix_end ?_
  go_simp
  go_wp2_with fail
  refine wp_region_mix (fun z => z.cell? ⟨TB, 0, none⟩ = some (.map (some mt)) ∧ z.cell? ⟨a, 0, none⟩ = some (.int .i64 i) ∧ (Instr.lookup 102 (.map (some mt)) (.int .i64 i) false).run Tryz.prog z = .ok (.pointer (some ⟨g, 0, none⟩)) z)
    [true, true, true, true, true, true] _ (by kernel_rfl) rfl (by kernel_rfl) ⟨hT, h0, HLK.out _ rfl⟩ ?_
  dsimp only [List.dropLast, List.zip, List.zipWith, List.getLast]
  repeat (apply wpMix_free
          · intro z hz
            try dsimp only at hz
            go_simp
            all_goals with_reducible rfl
          simp only [Act.put, List.setIfInBounds_toArray, List.set_cons_zero, List.set_cons_succ])
  refine wpMix_end ?_
  go_simp
  go_wp2_with fail
  go_ret
  exact ⟨rfl, (Below.refl _ _).drew.drew⟩
set_option maxRecDepth 100000 in
set_option maxHeartbeats 4000000 in
theorem twin_new (TB mt a i : Nat) (x : Fil) (tw : List (Nat × Nat)) (w : World) (hT : w.cell? ⟨TB, 0, none⟩ = some (.map (some mt))) (ht : TwinsAt w mt tw) (hx : Hold w a 83 (filCells i x)) (hi : okNo i) (hl : look tw i = none) (hn : tw.length ≤ 1000000) (hTm : TB ≠ mt) (ham : a ≠ mt) :
    Calls Tryz.prog 58 #[.pointer (some ⟨a, 0, none⟩), .pointer (some ⟨TB, 0, none⟩)] w fun e w' => e = .returned (.pointer (some ⟨w.heap.size, 0, none⟩)) ∧ TwinsAt w' mt (store tw i w.heap.size) ∧ Hold w' w.heap.size 83 (filCells i x) ∧ w.grownBy w' (some mt) := by
  have h0 : w.cell? ⟨a, 0, none⟩ = some (.int .i64 i) := by rw [hx.cell]; rfl
  have h1 : w.cell? ⟨a, 1, none⟩ = some (.string x.c) := by rw [hx.cell]; rfl
  have h2 : w.cell? ⟨a, 2, none⟩ = some (.string x.d) := by rw [hx.cell]; rfl
  have hlk : ∀ z : World, z.heap = w.heap → (Instr.lookup 102 (.map (some mt)) (.int .i64 i) false).run Tryz.prog z = .ok (.pointer none) z := fun z hz => by
    have := twin_look (w := z) (ht.same (by rw [hz])) hi
    rw [hl] at this; exact this
  have HLK := Lib.hid hlk; have HT := Lib.hid ht
  have hTl : TB < w.heap.size := block_lt_of_cell hT
  have hal := hx.lt
  clear hlk hx ht hl
  obtain ⟨G, hG⟩ : ∃ G, w.heap.size = G := ⟨_, rfl⟩
  rw [hG]
  go_enter Tryz.func58, Tryz.ntmps58
  go_wp2_with fail
  refine wp_region_mix (fun z => z.cell? ⟨TB, 0, none⟩ = some (.map (some mt)) ∧ z.cell? ⟨a, 0, none⟩ = some (.int .i64 i) ∧ (Instr.lookup 102 (.map (some mt)) (.int .i64 i) false).run Tryz.prog z = .ok (.pointer none) z)
    [true, true, true, true, true, true] _ (by kernel_rfl) rfl (by kernel_rfl) ⟨hT, h0, HLK.out _ rfl⟩ ?_
  dsimp only [List.dropLast, List.zip, List.zipWith, List.getLast]
  repeat (apply wpMix_free
          · intro z hz
            try dsimp only at hz
            go_simp
            all_goals with_reducible rfl
          simp only [Act.put, List.setIfInBounds_toArray, List.set_cons_zero, List.set_cons_succ])
  refine wpMix_end ?_
  go_simp
  go_wp2_with fail
  refine wp_region_mix (fun z => z.cell? ⟨TB, 0, none⟩ = some (.map (some mt)) ∧ z.cell? ⟨a, 0, none⟩ = some (.int .i64 i) ∧ z.cell? ⟨a, 1, none⟩ = some (.string x.c) ∧ z.cell? ⟨a, 2, none⟩ = some (.string x.d))
    [true, true, true, true, true, true, true, true, true, true, true, true, true, true, true, true, true, true, false] _ (by kernel_rfl) rfl (by kernel_rfl) ⟨hT, h0, h1, h2⟩ ?_
  dsimp only [List.dropLast, List.zip, List.zipWith, List.getLast]
  repeat (apply wpMix_free
          · intro z hz
            try dsimp only at hz
            go_simp
            all_goals with_reducible rfl
          simp only [Act.put, List.setIfInBounds_toArray, List.set_cons_zero, List.set_cons_succ])
  refine wpMix_turn (fun K hK => ?_)
  have HK := Lib.hid hK; clear hK
  go_simp
  obtain ⟨W, hW⟩ : ∃ W, (w.alloc (.cells #[.int .i64 i, .string x.c, .string x.d] 83)).drew.drew = W := ⟨_, rfl⟩
  have hWs : W.heap.size = G + 1 := by rw [← hW, ← hG]; show (w.heap.push _).size = _; exact Array.size_push _
  have hkW : ∀ k, k < w.heap.size → W.heap[k]? = w.heap[k]? := fun k hk => by rw [← hW]; exact Below.heap_alloc w _ k hk
  have hHW : Hold W G 83 (filCells i x) := by rw [← hW, ← hG]; exact heap_alloc_new w _
  have hoW : W.os = w.os ∧ W.tape = w.tape ∧ W.output = w.output := by rw [← hW]; exact ⟨rfl, rfl, rfl⟩
  have hTW := HT.out.same (hkW mt HT.out.lt)
  rw [hW]
  have hpc : ∀ k j, k < w.heap.size → W.cell? ⟨k, j, none⟩ = w.cell? ⟨k, j, none⟩ := fun k j hk => World.cell?_of_block (a := ⟨k, j, none⟩) (hkW k hk)
  have hgW : w.grownBy W (some mt) := ⟨hoW.1, hoW.2.1, hoW.2.2, by omega, fun k hk _ => hkW k hk⟩
  refine HK.out _ _ ⟨(hpc TB 0 hTl).trans hT, (hpc a 0 hal).trans h0, (hpc a 1 hal).trans h1, (hpc a 2 hal).trans h2⟩ ?_
  clear HK hW
  try simp only [Act.put, List.setIfInBounds_toArray, List.set_cons_zero, List.set_cons_succ]
  refine wpMix_end ?_
  refine wp_store no_laid Tryz.underlying102 (.tmp 13) (.tmp 17) (.tmp 31) rfl hTW (by unfold maxLen; omega) rfl rfl hi G rfl ?_
  intro w2 hw2 hg2 hz2
  simp only [Act.put]
  have hlk2 : ∀ z : World, z.heap = w2.heap → (Instr.lookup 102 (.map (some mt)) (.int .i64 i) false).run Tryz.prog z = .ok (.pointer (some ⟨G, 0, none⟩)) z := fun z hz => by
    have := twin_look (w := z) (hw2.same (by rw [hz])) hi
    rw [look_store_same] at this; exact this
  have hGm : G ≠ mt := by have := HT.out.lt; omega
  have HLK2 := Lib.hid hlk2; have HW2 := Lib.hid hw2; have HG2 := Lib.hid (hgW.trans hg2)
  have HH2 : Hid (Hold w2 G 83 (filCells i x)) := Lib.hid (hHW.keep (hg2.block G (by omega) (by simpa using hGm)))
  have hT2 : w2.cell? ⟨TB, 0, none⟩ = some (.map (some mt)) := (World.cell?_of_block (a := ⟨TB, 0, none⟩) (hg2.block TB (by omega) (by simpa using hTm))).trans ((hpc TB 0 hTl).trans hT)
  have h02 : w2.cell? ⟨a, 0, none⟩ = some (.int .i64 i) := (World.cell?_of_block (a := ⟨a, 0, none⟩) (hg2.block a (by omega) (by simpa using ham))).trans ((hpc a 0 hal).trans h0)
  clear hlk2 hw2 hg2 hz2 hpc hgW hTW hHW hoW hkW hT h0 h1 h2
  go_wp2_with fail
  refine wp_region_mix (fun z => z.cell? ⟨TB, 0, none⟩ = some (.map (some mt)) ∧ z.cell? ⟨a, 0, none⟩ = some (.int .i64 i) ∧ (Instr.lookup 102 (.map (some mt)) (.int .i64 i) false).run Tryz.prog z = .ok (.pointer (some ⟨G, 0, none⟩)) z)
    [true, true, true, true, true, true] _ (by kernel_rfl) rfl (by kernel_rfl) ⟨hT2, h02, HLK2.out _ rfl⟩ ?_
  dsimp only [List.dropLast, List.zip, List.zipWith, List.getLast]
  repeat (apply wpMix_free
          · intro z hz
            try dsimp only at hz
            go_simp
            all_goals with_reducible rfl
          simp only [Act.put, List.setIfInBounds_toArray, List.set_cons_zero, List.set_cons_succ])
  refine wpMix_end ?_
  go_simp
  go_wp2_with fail
  go_ret
  exact ⟨rfl, HW2.out.same rfl, HH2.out.keep rfl, HG2.out.trans ⟨rfl, rfl, rfl, Nat.le_refl _, fun _ _ _ => rfl⟩⟩
end Go.Proofs.YtdbcjiapbehacaaGreatDoor.Vp

/-! Layer 5: a copy that is being made. -/
namespace Go.Proofs.YtdbcjiapbehacaaGreatDoor.Vp
open Go.RowKit Go.Maps
open Go.Proofs.YtdbcjiapbehacaaGreatDoor.Vf (Hold OwnR Moves ret_int Hold.cell Hold.frozen Hold.keep Hold.lt OwnR.kept OwnR.lt OwnR.kind OwnR.blk)

theorem nodup_le : ∀ (n : Nat) (l : List Nat), l.Nodup → (∀ x ∈ l, x < n) → l.length ≤ n
  | 0, l, _, h => by
    cases l with
    | nil => exact Nat.le_refl _
    | cons x l => have := h x (by simp); omega
  | n + 1, l, hd, h => by
    by_cases hn : n ∈ l
    · have h1 := List.length_erase_of_mem hn
      have h2 := nodup_le n (l.erase n) (hd.erase n) fun x hx => by
        have h3 := (hd.mem_erase_iff).1 hx
        have := h x h3.2
        omega
      omega
    · have := nodup_le n l hd fun x hx => by
        have := h x hx
        rcases Nat.lt_or_ge x n with h4 | h4
        · exact h4
        · obtain rfl : x = n := by omega
          exact absurd hx hn
      omega
def mvT (tw : List (Nat × Nat)) (i : Nat) : Value := mkAt ((look tw i).getD 0)
/-- Where a copy lies. -/
def lc (n0 : Nat) (tw : List (Nat × Nat)) (rows : ByteArray → Value) : Loc := { bw := n0 + 3, bn := n0 + 4, bd := n0 + 5, loc := fun i => (look tw i).getD 0, rows := rows }
def topT (s : Pf) (n0 : Nat) : List Value := [.int .i64 s.room, .map (some (n0 + 3)), .map (some (n0 + 4)), .map (some (n0 + 5)), .int .i64 s.made, .int .i64 s.left, .bool s.down]
structure Cp (n0 : Nat) (s : Pf) (N D : List (Plc × Nat)) (Wt : List (ByteArray × List Stp)) (rows : ByteArray → Value) (tw : List (Nat × Nat)) (w wr : World) : Prop where
  below : Below n0 w wr
  room : n0 + 6 ≤ wr.heap.size
  box : wr.heap[n0 + 1]? = some (.cells #[.map (some n0)] 102 (0, 0))
  twins : TwinsAt wr n0 tw
  held : ∀ e ∈ tw, Live s e.1 ∧ n0 + 6 ≤ e.2 ∧ Hold wr e.2 83 (filCells e.1 (s.files e.1))
  top : Hold wr (n0 + 2) 58 (topT s n0)
  names : MapL Tryz.prog 79 mkPlc (mvT tw) okP wr (n0 + 4) N
  dur : MapL Tryz.prog 79 mkPlc (mvT tw) okP wr (n0 + 5) D
  has : ∀ q, q ∈ N ∨ q ∈ D → (look tw q.2).isSome
  waits : MapL Tryz.prog 9 Value.string (id : Value → Value) okS wr (n0 + 3) (Wt.map fun x => (x.1, rows x.1))
  rws : ∀ x ∈ Wt, OwnR wr (n0 + 6) 86 3 (rows x.1) (x.2.map (stCells (lc n0 tw rows)))
  hasW : ∀ x ∈ Wt, ∀ st ∈ x.2, ∀ i, st.file = some i → (look tw i).isSome
  apart : ∀ x ∈ Wt, ∀ y ∈ Wt, x.1 ≠ y.1 → (rows x.1).ownBlock = none ∨ (rows x.1).ownBlock ≠ (rows y.1).ownBlock
section
variable {n0 : Nat} {s : Pf} {N D : List (Plc × Nat)} {Wt : List (ByteArray × List Stp)} {rows : ByteArray → Value} {tw : List (Nat × Nat)} {w wr w' : World}
/-- Other blocks turn, or new ones come. -/
theorem Cp.keep (h : Cp n0 s N D Wt rows tw w wr) (hb : Below wr.heap.size wr w') : Cp n0 s N D Wt rows tw w w' where
  below := h.below.trans ⟨hb.os, hb.tape, hb.output, hb.size, fun k hk => hb.block k (by have := h.room; omega)⟩
  room := Nat.le_trans h.room hb.size
  box := (hb.block _ (by have := h.room; omega)).trans h.box
  twins := h.twins.same (hb.block _ (by have := h.room; omega))
  held e he := ⟨(h.held e he).1, (h.held e he).2.1, (h.held e he).2.2.keep (hb.block _ (h.held e he).2.2.lt)⟩
  top := h.top.keep (hb.block _ h.top.lt)
  names := h.names.same (hb.block _ h.names.lt)
  dur := h.dur.same (hb.block _ h.dur.lt)
  has := h.has
  waits := h.waits.same (hb.block _ h.waits.lt)
  rws x hx := (h.rws x hx).blk fun g hg => hb.block g ((h.rws x hx).lt g hg).2
  hasW := h.hasW
  apart := h.apart
theorem stC_congr {tw' : List (Nat × Nat)} {rows' : ByteArray → Value} {xs : List Stp} (h : ∀ st ∈ xs, ∀ i, st.file = some i → look tw' i = look tw i) : xs.map (stCells (lc n0 tw' rows')) = xs.map (stCells (lc n0 tw rows)) := by
  refine List.map_congr_left fun st hst => ?_
  unfold stCells
  cases hf : st.file with
  | none => rfl
  | some i => show [_, _, pv (lc n0 tw' rows') i] = [_, _, pv (lc n0 tw rows) i]; unfold pv lc; simp only []; rw [h st hst i hf]
theorem Cp.step {p : Nat} {l : Loc} (h : Cp n0 s N D Wt rows tw w wr) (hA : At w p s l) (hn0 : w.heap.size = n0) (hmd : s.made ≤ 100000) {i : Nat} (hi : Live s i) :
    Calls Tryz.prog 58 #[.pointer (some ⟨l.loc i, 0, none⟩), .pointer (some ⟨n0 + 1, 0, none⟩)] wr fun e w' => ∃ tw', e = .returned (mvT tw' i) ∧ (look tw' i).isSome ∧ (∀ j, (look tw j).isSome → look tw' j = look tw j) ∧ Cp n0 s N D Wt rows tw' w w' ∧ wr.grownBy w' (some n0) := by
  have hf := hA.files i hi
  have hfl : l.loc i < n0 := by have := hf.2.2.lt; omega
  have hx : Hold wr (l.loc i) 83 (filCells i (s.files i)) := hf.2.2.keep (h.below.block _ hfl)
  have hok : okNo i := by unfold okNo; omega
  have hT := (box_cell h.box).1
  cases hl : look tw i with
  | some g =>
    refine (twin_old (n0 + 1) n0 (l.loc i) i g (s.files i) tw wr hT h.twins hx hok hl).mono ?_
    rintro e w' ⟨he, hb⟩
    exact ⟨tw, by rw [he]; unfold mvT mkAt; rw [hl]; rfl, by rw [hl]; rfl, fun _ _ => rfl, h.keep hb, hb.os, hb.tape, hb.output, hb.size, fun k hk _ => hb.block k hk⟩
  | none =>
    have hlen : tw.length ≤ 100001 := by
      have h1 : (tw.map (·.1)).Nodup := by unfold List.Nodup; rw [List.pairwise_map]; exact h.twins.apart
      have h2 := nodup_le 100001 _ h1 fun x hx => by
        obtain ⟨e, he, rfl⟩ := List.mem_map.1 hx
        have := (hA.files e.1 (h.held e he).1).2.1
        omega
      rwa [List.length_map] at h2
    have hroom := h.room
    refine (twin_new (n0 + 1) n0 (l.loc i) i (s.files i) tw wr hT h.twins hx hok hl (by omega) (by omega) (by omega)).mono ?_
    rintro e w' ⟨he, hm, hH, hg⟩
    obtain ⟨G, hG⟩ : ∃ G, wr.heap.size = G := ⟨_, rfl⟩
    rw [hG] at he hm hH
    have hk : ∀ g, g < wr.heap.size → g ≠ n0 → w'.heap[g]? = wr.heap[g]? := fun g hgl hne => hg.block g hgl (by simpa using hne)
    have hne : ∀ j, (look tw j).isSome → j ≠ i := fun j hj e => by rw [e, hl] at hj; cases hj
    have hst : ∀ j, (look tw j).isSome → look (store tw i G) j = look tw j := fun j hj => look_store_other (hne j hj)
    have hmv : ∀ j, (look tw j).isSome → mvT tw j = mvT (store tw i G) j := fun j hj => by unfold mvT; rw [hst j hj]
    refine ⟨store tw i G, by rw [he]; unfold mvT mkAt; rw [look_store_same]; rfl, by rw [look_store_same]; rfl, hst, ?_, hg⟩
    refine ⟨h.below.grown hg (by omega) (fun k e => by cases e; exact Nat.le_refl _), Nat.le_trans h.room hg.size, (hk _ (by omega) (by omega)).trans h.box, hm, fun e he => ?_, h.top.keep (hk _ h.top.lt (by omega)), (h.names.same (hk _ h.names.lt (by omega))).congr fun q hq => hmv _ (h.has q (.inl hq)), (h.dur.same (hk _ h.dur.lt (by omega))).congr fun q hq => hmv _ (h.has q (.inr hq)), fun q hq => by rw [hst _ (h.has q hq)]; exact h.has q hq, h.waits.same (hk _ h.waits.lt (by omega)), fun x hx => ?_, fun x hx st hs j hj => by rw [hst _ (h.hasW x hx st hs j hj)]; exact h.hasW x hx st hs j hj, h.apart⟩
    · rcases List.mem_cons.1 he with rfl | he
      · exact ⟨hi, by show n0 + 6 ≤ G; omega, hH⟩
      · have he2 := h.held e (mem_strike.1 he).1
        exact ⟨he2.1, he2.2.1, he2.2.2.keep (hk _ he2.2.2.lt (by omega))⟩
    · rw [stC_congr (tw := tw) (rows := rows) fun st hs j hj => hst j (h.hasW x hx st hs j hj)]
      exact (h.rws x hx).blk fun g hgb => hk g ((h.rws x hx).lt g hgb).2 (by have := ((h.rws x hx).lt g hgb).1; omega)
/-- One name more. -/
theorem Cp.name (h : Cp n0 s N D Wt rows tw w wr) {q : Plc} {i : Nat} (hi : (look tw i).isSome) (hm : MapL Tryz.prog 79 mkPlc (mvT tw) okP w' (n0 + 4) (store N q i)) (hg : wr.grownBy w' (some (n0 + 4))) : Cp n0 s (store N q i) D Wt rows tw w w' := by
  have hr := h.room
  have hk : ∀ g, g < wr.heap.size → g ≠ n0 + 4 → w'.heap[g]? = wr.heap[g]? := fun g hgl hne => hg.block g hgl (by simpa using hne)
  refine ⟨h.below.grown hg (by omega) (fun k e => by cases e; omega), Nat.le_trans h.room hg.size, (hk _ (by omega) (by omega)).trans h.box, h.twins.same (hk _ h.twins.lt (by omega)), fun e he => ⟨(h.held e he).1, (h.held e he).2.1, (h.held e he).2.2.keep (hk _ (h.held e he).2.2.lt (by have := (h.held e he).2.1; omega))⟩, h.top.keep (hk _ h.top.lt (by omega)), hm, h.dur.same (hk _ h.dur.lt (by omega)), fun x hx => ?_, h.waits.same (hk _ h.waits.lt (by omega)), fun x hx => (h.rws x hx).blk fun g hgb => hk g ((h.rws x hx).lt g hgb).2 (by have := ((h.rws x hx).lt g hgb).1; omega), h.hasW, h.apart⟩
  rcases hx with hx | hx
  · rcases List.mem_cons.1 hx with rfl | hx
    · exact hi
    · exact h.has x (.inl (mem_strike.1 hx).1)
  · exact h.has x (.inr hx)
/-- One durable name more. -/
theorem Cp.durable (h : Cp n0 s N D Wt rows tw w wr) {q : Plc} {i : Nat} (hi : (look tw i).isSome) (hm : MapL Tryz.prog 79 mkPlc (mvT tw) okP w' (n0 + 5) (store D q i)) (hg : wr.grownBy w' (some (n0 + 5))) : Cp n0 s N (store D q i) Wt rows tw w w' := by
  have hr := h.room
  have hk : ∀ g, g < wr.heap.size → g ≠ n0 + 5 → w'.heap[g]? = wr.heap[g]? := fun g hgl hne => hg.block g hgl (by simpa using hne)
  refine ⟨h.below.grown hg (by omega) (fun k e => by cases e; omega), Nat.le_trans h.room hg.size, (hk _ (by omega) (by omega)).trans h.box, h.twins.same (hk _ h.twins.lt (by omega)), fun e he => ⟨(h.held e he).1, (h.held e he).2.1, (h.held e he).2.2.keep (hk _ (h.held e he).2.2.lt (by have := (h.held e he).2.1; omega))⟩, h.top.keep (hk _ h.top.lt (by omega)), h.names.same (hk _ h.names.lt (by omega)), hm, fun x hx => ?_, h.waits.same (hk _ h.waits.lt (by omega)), fun x hx => (h.rws x hx).blk fun g hgb => hk g ((h.rws x hx).lt g hgb).2 (by have := ((h.rws x hx).lt g hgb).1; omega), h.hasW, h.apart⟩
  rcases hx with hx | hx
  · exact h.has x (.inl hx)
  · rcases List.mem_cons.1 hx with rfl | hx
    · exact hi
    · exact h.has x (.inr (mem_strike.1 hx).1)
/-- One directory more: a row of steps of its own. -/
theorem Cp.dir (h : Cp n0 s N D Wt rows tw w wr) {d : ByteArray} {xs : List Stp} {v : Value} (ho : OwnR wr (n0 + 6) 86 3 v (xs.map (stCells (lc n0 tw rows)))) (hx : ∀ st ∈ xs, ∀ i, st.file = some i → (look tw i).isSome) (hv : ∀ x ∈ Wt, (rows x.1).ownBlock = none ∨ (rows x.1).ownBlock ≠ v.ownBlock)
    (hm : MapL Tryz.prog 9 Value.string (id : Value → Value) okS w' (n0 + 3) (store (Wt.map fun x => (x.1, rows x.1)) d v)) (hg : wr.grownBy w' (some (n0 + 3))) : Cp n0 s N D (store Wt d xs) (fun q => if q = d then v else rows q) tw w w' := by
  have hr := h.room
  have hk : ∀ g, g < wr.heap.size → g ≠ n0 + 3 → w'.heap[g]? = wr.heap[g]? := fun g hgl hne => hg.block g hgl (by simpa using hne)
  have hco : ∀ ys : List Stp, ys.map (stCells (lc n0 tw (fun q => if q = d then v else rows q))) = ys.map (stCells (lc n0 tw rows)) := fun ys => stC_congr fun _ _ _ _ => rfl
  refine ⟨h.below.grown hg (by omega) (fun k e => by cases e; omega), Nat.le_trans h.room hg.size, (hk _ (by omega) (by omega)).trans h.box, h.twins.same (hk _ h.twins.lt (by omega)), fun e he => ⟨(h.held e he).1, (h.held e he).2.1, (h.held e he).2.2.keep (hk _ (h.held e he).2.2.lt (by have := (h.held e he).2.1; omega))⟩, h.top.keep (hk _ h.top.lt (by omega)), h.names.same (hk _ h.names.lt (by omega)), h.dur.same (hk _ h.dur.lt (by omega)), h.has, ?_, fun x hx2 => ?_, fun x hx2 st hst i hi => ?_, fun x hx2 y hy hne => ?_⟩
  · have e : (store Wt d xs).map (fun x => (x.1, if x.1 = d then v else rows x.1)) = store (Wt.map fun x => (x.1, rows x.1)) d v := by
      unfold store
      rw [List.map_cons, strike_map]
      congr 1
      · simp
      · refine List.map_congr_left fun x hx3 => ?_
        have := (mem_strike.1 hx3).2
        simp [this]
    rw [e]; exact hm
  · rw [hco]
    rcases mem_storeW hx2 with rfl | ⟨hx2, hne⟩
    · simp only [if_true]
      exact ho.blk fun g hgb => hk g (ho.lt g hgb).2 (by have := (ho.lt g hgb).1; omega)
    · rw [if_neg hne]
      exact (h.rws x hx2).blk fun g hgb => hk g ((h.rws x hx2).lt g hgb).2 (by have := ((h.rws x hx2).lt g hgb).1; omega)
  · rcases mem_storeW hx2 with rfl | ⟨hx2, _⟩
    · exact hx st hst i hi
    · exact h.hasW x hx2 st hst i hi
  · rcases mem_storeW hx2 with rfl | ⟨hx2, hxd⟩
    · rcases mem_storeW hy with rfl | ⟨hy, hyd⟩
      · exact absurd rfl hne
      · simp only [if_true, if_neg hyd]
        rcases hv y hy with e | e
        · cases hvb : v.ownBlock with
          | none => exact .inl rfl
          | some g => rw [e]; exact .inr (by simp)
        · exact .inr (Ne.symm e)
    · rw [if_neg hxd]
      rcases mem_storeW hy with rfl | ⟨hy, hyd⟩
      · simp only [if_true]; exact hv x hx2
      · rw [if_neg hyd]; exact h.apart x hx2 y hy hne
end
end Go.Proofs.YtdbcjiapbehacaaGreatDoor.Vp

/-! Layer 5: a copy's directories; a copy that is made. -/
namespace Go.Proofs.YtdbcjiapbehacaaGreatDoor.Vp
open Go.RowKit Go.Maps
open Go.Proofs.YtdbcjiapbehacaaGreatDoor.Vf (Hold OwnR Moves ret_int Hold.cell Hold.frozen Hold.keep Hold.lt OwnR.kept OwnR.lt OwnR.kind OwnR.blk OwnR.mono flat_set)

theorem put3 {w : World} {base g n c : Nat} {t : TypeId} {xs : List (List Value)} (h : OwnR w base t 3 (.slice (some ⟨g, 0, none⟩) n c) xs) {i : Nat} (hi : i < xs.length) (x y z : Value) :
    OwnR (((w.setCell ⟨g, i * 3, none⟩ x).setCell ⟨g, i * 3 + 1, none⟩ y).setCell ⟨g, i * 3 + 2, none⟩ z) base t 3 (.slice (some ⟨g, 0, none⟩) n c) (xs.set i [x, y, z]) := by
  obtain ⟨h1, h2⟩ := h
  have hn : xs.length = n := by
    rcases h1.2 with ⟨e, _⟩ | ⟨g', cap, cur, e, _⟩
    · cases e
    · injection e with _ e _; exact e.symm
  rw [hn] at h1
  have s1 := (((h1.stored (i * 3) x).1.stored (i * 3 + 1) y).1.stored (i * 3 + 2) z).1
  obtain ⟨a, b, d, hcs⟩ : ∃ a b d, xs[i] = [a, b, d] := by
    have := h2 xs[i] (List.getElem_mem hi)
    match hx : xs[i], this with
    | [a, b, d], _ => exact ⟨a, b, d, rfl⟩
  have hxi : xs[i]? = some [a, b, d] := by rw [List.getElem?_eq_getElem hi, hcs]
  have e1 := flat_set h2 x hxi (show 0 < 3 by omega)
  have h2' : ∀ u ∈ xs.set i ([a, b, d].set 0 x), u.length = 3 := fun u hu => by rcases List.mem_or_eq_of_mem_set hu with hu | rfl; exact h2 u hu; rfl
  have e2 := flat_set (cs := [x, b, d]) h2' y (by rw [List.getElem?_set_self (by omega)]; rfl) (show 1 < 3 by omega)
  rw [List.set_set] at e2
  have h2'' : ∀ u ∈ xs.set i ([x, b, d].set 1 y), u.length = 3 := fun u hu => by rcases List.mem_or_eq_of_mem_set hu with hu | rfl; exact h2 u hu; rfl
  have e3 := flat_set (cs := [x, y, d]) h2'' z (by rw [List.getElem?_set_self (by omega)]; rfl) (show 2 < 3 by omega)
  rw [List.set_set] at e3
  have e4 : (xs.set i [x, y, z]).flatten = ((xs.flatten.set (i * 3) x).set (i * 3 + 1) y).set (i * 3 + 2) z := by
    have : ([x, y, d] : List Value).set 2 z = [x, y, z] := rfl
    rw [this] at e3
    rw [e3, e2, e1]; rfl
  refine ⟨?_, fun u hu => by rcases List.mem_or_eq_of_mem_set hu with hu | rfl; exact h2 u hu; rfl⟩
  rw [List.length_set, hn, e4]
  exact s1
def zrow : List Value := [.string ⟨#[]⟩, .string ⟨#[]⟩, .pointer none]
theorem made_flat : ∀ n : Nat, (madeCells #[.string ⟨#[]⟩, .string ⟨#[]⟩, .pointer none] (n * 3)).toList = (List.replicate n zrow).flatten
  | 0 => by simp [madeCells]
  | n + 1 => by
    have ih := made_flat n
    rw [List.replicate_succ', List.flatten_append, ← ih]
    unfold madeCells
    rw [Array.toList_map, Array.toList_map, Array.toList_range, Array.toList_range, show (n + 1) * 3 = n * 3 + 1 + 1 + 1 by omega, List.range_succ, List.range_succ, List.range_succ]
    simp [zrow, Nat.add_mod]
/-- The steps that have been copied, and room for the rest. -/
def partR (n0 : Nat) (tw : List (Nat × Nat)) (rows : ByteArray → Value) (xs : List Stp) (j : Nat) : List (List Value) := (xs.take j).map (stCells (lc n0 tw rows)) ++ List.replicate (xs.length - j) zrow
theorem part_len (n0 : Nat) (tw : List (Nat × Nat)) (rows : ByteArray → Value) (xs : List Stp) {j : Nat} (hj : j ≤ xs.length) : (partR n0 tw rows xs j).length = xs.length := by
  unfold partR; rw [List.length_append, List.length_map, List.length_take, List.length_replicate]; omega
theorem part_step {n0 : Nat} {tw : List (Nat × Nat)} {rows : ByteArray → Value} {xs : List Stp} {j : Nat} {x : Stp} (hx : xs[j]? = some x) : (partR n0 tw rows xs j).set j (stCells (lc n0 tw rows) x) = partR n0 tw rows xs (j + 1) := by
  have hj : j < xs.length := (List.getElem?_eq_some_iff.1 hx).1
  unfold partR
  have hl : ((xs.take j).map (stCells (lc n0 tw rows))).length = j := by rw [List.length_map, List.length_take]; omega
  rw [List.set_append_right _ _ (by omega), hl, Nat.sub_self, show xs.length - j = (xs.length - (j + 1)) + 1 by omega, List.replicate_succ, List.set_cons_zero, Go.Proofs.YtdbcjiapbehacaaGreatDoor.Vf.take_snoc hx, List.map_append]
  simp
theorem part_all (n0 : Nat) (tw : List (Nat × Nat)) (rows : ByteArray → Value) (xs : List Stp) : partR n0 tw rows xs xs.length = xs.map (stCells (lc n0 tw rows)) := by
  unfold partR; rw [List.take_of_length_le (Nat.le_refl _), Nat.sub_self]; simp
/-- How far directories have been copied. -/
structure Cov (s : Pf) (todo : List (ByteArray × Value)) (Wt : List (ByteArray × List Stp)) : Prop where
  len : Wt.length + todo.length ≤ s.waits.length + 1
  old : ∀ d, (∀ v, (d, v) ∉ todo) → look Wt d = look s.waits d
  new : ∀ d v, (d, v) ∈ todo → look Wt d = if d = rootB then some [] else none
theorem Cov.start {s : Pf} (hr : (look s.waits rootB).isSome) (rows : ByteArray → Value) : Cov s (s.waits.map fun y => (y.1, rows y.1)) [(rootB, [])] where
  len := by simp; omega
  old d h := by
    have hn : look s.waits d = none := look_none.2 fun p hp e => h (rows p.1) (List.mem_map.2 ⟨p, hp, by rw [e]⟩)
    rw [hn]
    have hd : d ≠ rootB := fun e => by rw [e] at hn; rw [hn] at hr; cases hr
    simp [look, hd.symm]
  new d v _ := by
    by_cases e : d = rootB
    · subst e; simp [look]
    · have : ¬ rootB = d := fun h => e h.symm
      simp [look, e, this]
theorem Cov.step {s : Pf} {todo todo' : List (ByteArray × Value)} {Wt : List (ByteArray × List Stp)} {d : ByteArray} {v : Value} {xs : List Stp} (h : Cov s todo Wt) (hp : todo.Perm ((d, v) :: todo')) (ha : todo.Pairwise fun p q => p.1 ≠ q.1) (hx : look s.waits d = some xs) : Cov s todo' (store Wt d xs) := by
  have ha2 := (hp.pairwise_iff (fun {_ _} h => Ne.symm h)).1 ha
  have hd := (List.pairwise_cons.1 ha2).1
  refine ⟨?_, fun e he => ?_, fun e u he => ?_⟩
  · have h1 := h.len
    have h2 := hp.length_eq
    have h3 : (strike Wt d).length ≤ Wt.length := List.length_filter_le _ _
    show ((d, xs) :: strike Wt d).length + _ ≤ _
    simp at h2 ⊢; omega
  · by_cases hed : e = d
    · rw [hed, look_store_same, hx]
    · rw [look_store_other hed]
      refine h.old e fun u hu => ?_
      rcases List.mem_cons.1 (hp.mem_iff.1 hu) with h4 | h4
      · injection h4 with h4; exact hed h4
      · exact he u h4
  · have hed : e ≠ d := fun h4 => hd (e, u) he h4.symm
    rw [look_store_other hed]
    exact h.new e u (hp.mem_iff.2 (List.mem_cons_of_mem _ he))
theorem perm_of_look {α β : Type} [DecidableEq α] {l l' : List (α × β)} (hl : l.Pairwise fun p q => p.1 ≠ q.1) (hl' : l'.Pairwise fun p q => p.1 ≠ q.1) (h : ∀ a, look l a = look l' a) : l.Perm l' := by
  refine (List.perm_ext_iff_of_nodup (hl.imp fun {a b} hne e => hne (by rw [e])) (hl'.imp fun {a b} hne e => hne (by rw [e]))).2 fun x => ⟨fun hx => ?_, fun hx => ?_⟩
  · have h1 := look_of_mem hl (a := x.1) (v := x.2) hx
    rw [h] at h1; exact look_mem h1
  · have h1 := look_of_mem hl' (a := x.1) (v := x.2) hx
    rw [← h] at h1; exact look_mem h1
theorem Cp.done {n0 p : Nat} {s : Pf} {l : Loc} {N D : List (Plc × Nat)} {Wt : List (ByteArray × List Stp)} {rows : ByteArray → Value} {tw : List (Nat × Nat)} {w wr : World} (h : Cp n0 s N D Wt rows tw w wr) (hA : At w p s l) (hN : s.names.Perm N) (hD : s.dur.Perm D) (hC : Cov s [] Wt) :
    At wr (n0 + 2) s (lc n0 tw rows) ∧ ∀ g, Foot (n0 + 2) s (lc n0 tw rows) g → n0 ≤ g := by
  have hwa : Wt.Pairwise fun p q => p.1 ≠ q.1 := by have := h.waits.apart; rw [List.pairwise_map] at this; exact this
  have hsa : s.waits.Pairwise fun p q => p.1 ≠ q.1 := by have := hA.waits.apart; rw [List.pairwise_map] at this; exact this
  have hW : s.waits.Perm Wt := perm_of_look hsa hwa fun a => (hC.old a (fun v hv => by cases hv)).symm
  have hlv : ∀ i, Live s i → ∃ g, look tw i = some g ∧ n0 + 6 ≤ g ∧ Hold wr g 83 (filCells i (s.files i)) := fun i hi => by
    have hs : (look tw i).isSome := by
      rcases hi with ⟨q, hq, rfl⟩ | ⟨q, hq, rfl⟩ | ⟨x, hx, st, hst, e⟩
      · exact h.has q (.inl (hN.mem_iff.1 hq))
      · exact h.has q (.inr (hD.mem_iff.1 hq))
      · exact h.hasW x (hW.mem_iff.1 hx) st hst i e
    obtain ⟨g, hg⟩ := Option.isSome_iff_exists.1 hs
    exact ⟨g, hg, (h.held (i, g) (look_mem hg)).2⟩
  have hloc : ∀ i g, look tw i = some g → (lc n0 tw rows).loc i = g := fun i g hg => by show (look tw i).getD 0 = g; rw [hg]; rfl
  refine ⟨⟨h.top, h.waits.perm str_laid (hW.symm.map _), ?_, ?_, ⟨?_, ?_, ?_⟩, fun i hi => ?_, fun x hx => ?_, fun x hx y hy hne => h.apart x (hW.mem_iff.1 hx) y (hW.mem_iff.1 hy) hne⟩, ?_⟩
  · have hn : NamesAt wr (lc n0 tw rows) (n0 + 4) N := h.names
    exact hn.perm plc_laid hN.symm
  · have hn : NamesAt wr (lc n0 tw rows) (n0 + 5) D := h.dur
    exact hn.perm plc_laid hD.symm
  · show n0 + 3 ≠ n0 + 4; omega
  · show n0 + 3 ≠ n0 + 5; omega
  · show n0 + 4 ≠ n0 + 5; omega
  · obtain ⟨g, hg, _, hh⟩ := hlv i hi
    rw [hloc i g hg]
    exact ⟨(hA.files i hi).1, (hA.files i hi).2.1, hh⟩
  · exact (h.rws x (hW.mem_iff.1 hx)).mono (Nat.zero_le _)
  · rintro g (e | e | e | e | ⟨i, hi, e⟩ | ⟨x, hx, e⟩)
    · omega
    · have : g = n0 + 3 := e; omega
    · have : g = n0 + 4 := e; omega
    · have : g = n0 + 5 := e; omega
    · obtain ⟨g', hg, hge, _⟩ := hlv i hi
      rw [hloc i g' hg] at e; omega
    · have := ((h.rws x (hW.mem_iff.1 hx)).lt g e).1; omega
end Go.Proofs.YtdbcjiapbehacaaGreatDoor.Vp

/-! Layer 5: the program's Copy. -/
namespace Go.Proofs.YtdbcjiapbehacaaGreatDoor.Vp
open Go.RowKit Go.Maps
open Go.Proofs.YtdbcjiapbehacaaGreatDoor.Vf (Hold OwnR Moves ret_int Reads Hold.cell Hold.frozen Hold.keep Hold.lt Hold.set OwnR.kept OwnR.lt OwnR.kind OwnR.blk OwnR.nil wp_region_mix wpMix_free wpMix_turn wpMix_end)

section
variable {n0 : Nat} {s : Pf} {N D : List (Plc × Nat)} {Wt : List (ByteArray × List Stp)} {rows : ByteArray → Value} {tw : List (Nat × Nat)} {w wr w' : World}
/-- A row of steps that is none of its own has turned. -/
theorem Cp.off (h : Cp n0 s N D Wt rows tw w wr) {g : Nat} {cur : Array Value} (hg : wr.grownBy w' (some g)) (hk3 : wr.heap[g]? = some (.cells cur 86 (0, 0))) (hg0 : n0 + 6 ≤ g) (hne : ∀ x ∈ Wt, (rows x.1).ownBlock ≠ some g) : Cp n0 s N D Wt rows tw w w' := by
  have hroom := h.room
  have hk : ∀ k, k < wr.heap.size → k ≠ g → w'.heap[k]? = wr.heap[k]? := fun k hl hn => hg.block k hl (by simpa using hn)
  exact ⟨h.below.grown hg (by omega) (fun k e => by cases e; omega), Nat.le_trans h.room hg.size, (hk _ (by omega) (by omega)).trans h.box, h.twins.same (hk _ h.twins.lt (by omega)), fun e he => ⟨(h.held e he).1, (h.held e he).2.1, (h.held e he).2.2.keep (hk _ (h.held e he).2.2.lt (cells_ty (show wr.heap[e.2]? = _ from (h.held e he).2.2) hk3 (by decide)))⟩, h.top.keep (hk _ h.top.lt (by omega)), h.names.same (hk _ h.names.lt (by omega)), h.dur.same (hk _ h.dur.lt (by omega)), h.has, h.waits.same (hk _ h.waits.lt (by omega)), fun x hx => (h.rws x hx).blk fun k hkb => hk k ((h.rws x hx).lt k hkb).2 (fun e => hne x hx (by rw [hkb, e])), h.hasW, h.apart⟩
/-- A range's iterator has turned. -/
theorem Cp.iter (h : Cp n0 s N D Wt rows tw w wr) {r : Nat} (hg : wr.grownBy w' (some r)) (hr : ∃ m a b c, wr.heap[r]? = some (.mapIter m a b c)) (hr0 : n0 ≤ r) : Cp n0 s N D Wt rows tw w w' := by
  obtain ⟨m, a, b, c, hr⟩ := hr
  have hroom := h.room
  have hk : ∀ {g : Nat} {o : Obj}, wr.heap[g]? = some o → (∀ x y z u, o ≠ .mapIter x y z u) → w'.heap[g]? = some o := fun {g o} hgo hno => by
    rw [hg.block g (Array.getElem?_eq_some_iff.1 hgo).1 (fun e => by injection e with e; subst e; rw [hr] at hgo; injection hgo with hgo; exact hno _ _ _ _ hgo.symm)]; exact hgo
  have hkc : ∀ {g : Nat} {cur : Array Value} {t : TypeId}, wr.heap[g]? = some (.cells cur t (0, 0)) → w'.heap[g]? = wr.heap[g]? := fun {g cur t} hgo => (hk hgo (fun _ _ _ _ e => by cases e)).trans hgo.symm
  have hkm : ∀ {g : Nat}, (∃ es clock, wr.heap[g]? = some (.map es clock)) → w'.heap[g]? = wr.heap[g]? := fun {g} ⟨es, clock, hgo⟩ => (hk hgo (fun _ _ _ _ e => by cases e)).trans hgo.symm
  exact ⟨h.below.grown hg (by omega) (fun k e => by cases e; exact hr0), Nat.le_trans h.room hg.size, (hkc h.box).trans h.box, h.twins.same (hkm h.twins.kind), fun e he => ⟨(h.held e he).1, (h.held e he).2.1, (h.held e he).2.2.keep (hkc (show wr.heap[e.2]? = _ from (h.held e he).2.2))⟩, h.top.keep (hkc (show wr.heap[n0 + 2]? = _ from h.top)), h.names.same (hkm h.names.kind), h.dur.same (hkm h.dur.kind), h.has, h.waits.same (hkm h.waits.kind), fun x hx => (h.rws x hx).blk fun g hgb => by obtain ⟨cur, hc⟩ := (h.rws x hx).kind hgb; exact hkc hc, h.hasW, h.apart⟩
end
theorem RangeL.left_kept {α β : Type} {P : Program} {k : TypeId} {mk : α → Value} {mv : β → Value} {ok : α → Prop} {w w' : World} {b r : Nat} {l todo : List (α × β)} {row : Option Nat} (h : RangeL P k mk mv ok w b r l todo) (hg : w.grownBy w' row) (hb : some b ≠ row) (hr : some r ≠ row) : w'.rangeLeft b r = w.rangeLeft b r := by
  obtain ⟨_, cnt, h1, _⟩ := h.rg
  rw [(h1.kept hg hb hr).left_eq, h1.left_eq]
theorem strike_fresh {l N todo : List (Plc × Nat)} {q : Plc} {i : Nat} (hd : l.Pairwise fun p q => p.1 ≠ q.1) (hp : l.Perm (N ++ (q, i) :: todo)) : strike N q = N := by
  refine strike_none (look_none.2 fun p hp2 e => ?_)
  have hd2 := (hp.pairwise_iff (fun {_ _} h => Ne.symm h)).1 hd
  exact (List.pairwise_append.1 hd2).2.2 p hp2 (q, i) (by simp) e
theorem cp_start {w W w1 : World} {n0 : Nat} {s : Pf} (hn0 : w.heap.size = n0) (hW : (w.alloc (.map #[] 0)).alloc (.cells #[.map (some n0)] 102) = W) (hA : At w1 (n0 + 2) (newS s.room) (newL (n0 + 3))) (hb : Below (n0 + 2) W w1) :
    Cp n0 s [] [] [(rootB, [])] (fun _ => .slice none 0 0) [] w (((w1.setCell ⟨n0 + 2, 4, none⟩ (.int .i64 s.made)).setCell ⟨n0 + 2, 5, none⟩ (.int .i64 s.left)).setCell ⟨n0 + 2, 6, none⟩ (.bool s.down)).drew := by
  obtain ⟨w2, h2⟩ : ∃ w2, (((w1.setCell ⟨n0 + 2, 4, none⟩ (.int .i64 s.made)).setCell ⟨n0 + 2, 5, none⟩ (.int .i64 s.left)).setCell ⟨n0 + 2, 6, none⟩ (.bool s.down)).drew = w2 := ⟨_, rfl⟩
  have hk : ∀ g, g ≠ n0 + 2 → w2.heap[g]? = w1.heap[g]? := fun g hne => by
    rw [← h2]
    show (((w1.setCell ⟨n0 + 2, 4, none⟩ (.int .i64 s.made)).setCell ⟨n0 + 2, 5, none⟩ (.int .i64 s.left)).setCell ⟨n0 + 2, 6, none⟩ (.bool s.down)).heap[g]? = _
    rw [Below.heap_setCell _ ⟨n0 + 2, 6, none⟩ _ g hne, Below.heap_setCell _ ⟨n0 + 2, 5, none⟩ _ g hne, Below.heap_setCell _ ⟨n0 + 2, 4, none⟩ _ g hne]
  have ht : Hold w2 (n0 + 2) 58 (topT s n0) := by rw [← h2]; exact ((hA.top.set 4 (.int .i64 s.made)).set 5 (.int .i64 s.left)).set 6 (.bool s.down)
  have hs2 : w2.heap.size = w1.heap.size := by rw [← h2]; simp [World.drew, World.setCell]
  have ho2 : w2.os = w1.os ∧ w2.tape = w1.tape ∧ w2.output = w1.output := by rw [← h2]; exact ⟨rfl, rfl, rfl⟩
  have hWs : W.heap.size = n0 + 2 := by rw [← hW, ← hn0]; simp
  have hWk : ∀ k, k < n0 → W.heap[k]? = w.heap[k]? := fun k hk => by rw [← hW]; exact (Below.heap_alloc _ _ k (by simp; omega)).trans (Below.heap_alloc _ _ k (by omega))
  have hWo : W.os = w.os ∧ W.tape = w.tape ∧ W.output = w.output := by rw [← hW]; exact ⟨rfl, rfl, rfl⟩
  have hWm : TwinsAt W n0 [] := by
    have h1 : TwinsAt (w.alloc (.map #[] 0)) n0 [] := by rw [← hn0]; exact MapL.made w
    rw [← hW]; exact h1.same (Below.heap_alloc _ _ n0 (by simp; omega))
  have hWb : W.heap[n0 + 1]? = some (.cells #[.map (some n0)] 102 (0, 0)) := by
    rw [← hW]
    have := heap_alloc_new (w.alloc (.map #[] 0)) (.cells #[.map (some n0)] 102)
    rwa [World.size_alloc, hn0] at this
  rw [h2]
  have hbd := hA.dur.lt
  have e5 : (newL (n0 + 3)).bd = n0 + 5 := rfl
  rw [e5] at hbd
  refine ⟨⟨ho2.1.trans (hb.os.trans hWo.1), ho2.2.1.trans (hb.tape.trans hWo.2.1), ho2.2.2.trans (hb.output.trans hWo.2.2), by omega, fun k hk2 => (hk k (by omega)).trans ((hb.block k (by omega)).trans (hWk k hk2))⟩, by omega, (hk _ (by omega)).trans ((hb.block _ (by omega)).trans hWb), hWm.same ((hk _ (by omega)).trans (hb.block _ (by omega))), (fun e he => by cases he), ht, ?_, ?_, (fun q hq => by rcases hq with hq | hq <;> cases hq), hA.waits.same (hk _ (show n0 + 3 ≠ n0 + 2 by omega)), fun x hx => ?_, fun x hx st hst => ?_, fun x hx y hy _ => .inl rfl⟩
  · have hnn : NamesAt w1 (newL (n0 + 3)) (n0 + 4) [] := hA.names
    exact (hnn.same (hk _ (by omega))).congr fun q hq => by cases hq
  · have hnn : NamesAt w1 (newL (n0 + 3)) (n0 + 5) [] := hA.dur
    exact (hnn.same (hk _ (by omega))).congr fun q hq => by cases hq
  · rw [List.mem_singleton.1 hx]; exact OwnR.nil _ _ _ _
  · rw [List.mem_singleton.1 hx] at hst; cases hst
set_option maxRecDepth 100000 in
set_option maxHeartbeats 16000000 in
theorem copy_any (p : Nat) (s : Pf) (l : Loc) (T : Nat) (w : World) (h : At w p s l) (hf : Fits s T) (hT : T ≤ 100000) (hr : 0 ≤ s.room) :
    Calls Tryz.prog 25 #[.pointer (some ⟨p, 0, none⟩)] w fun e w' => ∃ p' l', e = .returned (.pointer (some ⟨p', 0, none⟩)) ∧ At w' p' s l' ∧ Below w.heap.size w w' ∧ ∀ g, Foot p' s l' g → w.heap.size ≤ g := by
  obtain ⟨n0, hn0⟩ : ∃ n, w.heap.size = n := ⟨_, rfl⟩
  obtain ⟨W, hW⟩ : ∃ W, (w.alloc (.map #[] 0)).alloc (.cells #[.map (some n0)] 102) = W := ⟨_, rfl⟩
  have hbW : Below w.heap.size w W := by rw [← hW]; exact ((Below.refl _ _).alloc (Nat.le_refl _) _).alloc (by simp) _
  have hAW := h.below hbW
  have hmm := @run_makeMap Tryz.prog
  have hWs : W.heap.size = n0 + 2 := by rw [← hW, ← hn0]; simp
  have hc0 : W.cell? ⟨p, 0, none⟩ = some (.int .i64 s.room) := by rw [hAW.cell]; rfl
  have hmx : max s.room 0 = s.room := by omega
  have HN := Lib.hid (new_any s.room W)
  rw [hmx, hWs] at HN
  have hpl : p < n0 := by rw [← hn0]; exact h.top.lt
  have hpp : p ≠ n0 + 2 := by omega
  have hmd : s.made ≤ 100000 := Nat.le_trans hf.made hT
  have HSZ : Hid (s.names.length ≤ 100000 ∧ s.dur.length ≤ 100000 ∧ s.waits.length ≤ 100000) := Lib.hid (by have := hf.names; have := hf.dur; have := hf.dirs; omega)
  have HA := Lib.hid hAW; have HAT := Lib.hid h; have HFT := Lib.hid hf; have HWW := Lib.hid hW
  clear h hAW hbW hf hr
  go_enter Tryz.func25, Tryz.ntmps25
  go_wp2_with (first
    | (go_at_call 11; refine HN.out.mono ?_; rintro e w1 ⟨rfl, hA1, hb1⟩; have hA0 := (HA.out.below (hb1.mono (Nat.le_of_eq hWs))); have hd4 : w1.cell? ⟨p, 4, none⟩ = some (.int .i64 s.made) := (by rw [hA0.cell]; rfl); have hd5 : w1.cell? ⟨p, 5, none⟩ = some (.int .i64 s.left) := (by rw [hA0.cell]; rfl); have hd6 : w1.cell? ⟨p, 6, none⟩ = some (.bool s.down) := (by rw [hA0.cell]; rfl); have he4 : w1.cell? ⟨n0 + 2, 4, none⟩ = some (.int .i64 0) := (by rw [hA1.cell]; rfl); have he5 : w1.cell? ⟨n0 + 2, 5, none⟩ = some (.int .i64 0) := (by rw [hA1.cell]; rfl); have he6 : w1.cell? ⟨n0 + 2, 6, none⟩ = some (.bool false) := (by rw [hA1.cell]; rfl); have hf4 := hA1.top.frozen 4; have hf5 := hA1.top.frozen 5; have hf6 := hA1.top.frozen 6; have HCP0 := Lib.hid (cp_start (s := s) hn0 HWW.out hA1 hb1); clear hA1 hA0 hb1)
    | fail)
  go_region
  obtain ⟨w6, hw6⟩ : ∃ w6, (((w1.setCell ⟨n0 + 2, 4, none⟩ (.int .i64 s.made)).setCell ⟨n0 + 2, 5, none⟩ (.int .i64 s.left)).setCell ⟨n0 + 2, 6, none⟩ (.bool s.down)).drew = w6 := ⟨_, rfl⟩
  rw [hw6] at HCP0 ⊢
  clear hd4 hd5 hd6 he4 he5 he6 hf4 hf5 hf6 hw6 hc0 HN HA hW HWW
  have hA6 : At w6 p s l := HAT.out.below (by rw [hn0]; exact HCP0.out.below)
  have hq2 : w6.cell? ⟨p, 2, none⟩ = some (.map (some l.bn)) := by rw [hA6.cell]; rfl
  have HA6 := Lib.hid hA6
  clear hA6
  go_wp2_with (first
    | (at_range; refine wpList_range_l plc_laid Tryz.underlying56 rfl (.tmp 48) rfl HA6.out.names rfl ?_; intro w7 hrg0 hg0 hs0; have hbw7 : Below w6.heap.size w6 w7 := ⟨hg0.os, hg0.tape, hg0.output, hg0.size, fun k hk => hg0.block k hk (by simp)⟩; have HCPA := Lib.hid (HCP0.out.keep hbw7); have HRA := Lib.hid hrg0; clear hrg0 hg0 hs0 hbw7)
    | fail)
  obtain ⟨rA, hrAe⟩ : ∃ r, w6.heap.size = r := ⟨_, rfl⟩
  rw [hrAe] at HRA ⊢
  have hrA6 : n0 + 6 ≤ rA := by rw [← hrAe]; exact HCP0.out.room
  have hrA : n0 ≤ rA := by omega
  clear HCP0 HA6 hrAe hq2
  go_frame
  go_loopw [6] (fun _ wr => ∃ (todo N : List (Plc × Nat)) (tw : List (Nat × Nat)), RangeL Tryz.prog 79 mkPlc (pv l) okP wr l.bn rA s.names todo ∧ s.names.Perm (N ++ todo) ∧ Cp n0 s N [] [(rootB, [])] (fun _ => .slice none 0 0) tw w wr) (fun _ wr => wr.rangeLeft l.bn rA)
  case atStart => exact ⟨s.names, [], _, HRA.out, by simp, HCPA.out⟩
  case round =>
    obtain ⟨todo, N, tw, hrg, hp, hcp⟩ := hrel
    have HRG := Lib.hid hrg; have HP := Lib.hid hp; have HCP := Lib.hid hcp
    have hrkind := hrg.kind
    have HRK := Lib.hid hrkind
    clear hrg hp hcp hrkind
    go_wp2_with (first
      | (at_next; refine wpList_next_l plc_laid rfl (.tmp 49) rfl HRG.out rfl ?_ ?_)
      | fail)
    rotate_left
    · intro x i todo' w1 hperm hrg1 hlt hg1 hs1 hen
      have hmem : (x, i) ∈ s.names := HP.out.mem_iff.2 (List.mem_append.2 (.inr (hperm.mem_iff.2 (by simp))))
      have hpp : s.names.Perm (N ++ (x, i) :: todo') := HP.out.trans (hperm.append_left N)
      have hfresh := strike_fresh HAT.out.names.apart hpp
      have hxo : okP x := HAT.out.names.good _ hmem
      have hli : Live s i := .inl ⟨_, hmem, rfl⟩
      have hcp1 := HCP.out.iter hg1 HRK.out hrA
      have hNl : N.length ≤ 100000 := by have := hpp.length_eq; simp at this; have := HSZ.out; omega
      obtain ⟨B, hB⟩ : ∃ B, w1.heap.size = B := ⟨_, rfl⟩
      obtain ⟨W, hW⟩ : ∃ W, (w1.alloc (.cells #[.string x.d, .string x.n] 79)) = W := ⟨_, rfl⟩
      have hbW : Below w1.heap.size w1 W.drew := by rw [← hW]; exact ((Below.refl _ _).alloc (Nat.le_refl _) _).drew
      have hx0 : W.drew.cell? ⟨B, 0, none⟩ = some (.string x.d) := by rw [← hW, ← hB]; simp
      have hx1 : W.drew.cell? ⟨B, 1, none⟩ = some (.string x.n) := by rw [← hW, ← hB]; simp
      have hsB : B < W.drew.heap.size := by rw [← hW, ← hB]; show _ < (w1.alloc _).heap.size; simp
      have hB6 : n0 + 6 ≤ B := by rw [← hB]; exact hcp1.room
      have hcpW := hcp1.keep hbW
      have hrgW := hrg1.kept (row := none) ⟨hbW.os, hbW.tape, hbW.output, hbW.size, fun k hk _ => hbW.block k hk⟩ (by simp) (by simp)
      have hlfW := hrg1.left_kept (row := none) (w' := W.drew) ⟨hbW.os, hbW.tape, hbW.output, hbW.size, fun k hk _ => hbW.block k hk⟩ (by simp) (by simp)
      have hp2 : W.drew.cell? ⟨n0 + 2, 2, none⟩ = some (.map (some (n0 + 4))) := by rw [hcpW.top.cell]; rfl
      have HST := Lib.hid (hcpW.step HAT.out hn0 hmd hli)
      have HPP := Lib.hid hpp; have HF := Lib.hid hfresh; have HRW := Lib.hid hrgW; have HLT := Lib.hid (show W.drew.rangeLeft l.bn rA < _ by rw [hlfW]; exact hlt)
      unfold mkPlc pv at hen
      clear hmem hpp hfresh hcp1 hcpW hrgW hlfW hperm hrg1 hlt hg1 hs1 hbW hli
      go_wp2_with fail
      clear hW hB
      refine wp_region_mix (fun z => z.cell? ⟨n0 + 2, 2, none⟩ = some (.map (some (n0 + 4))) ∧ z.cell? ⟨B, 0, none⟩ = some (.string x.d) ∧ z.cell? ⟨B, 1, none⟩ = some (.string x.n))
        [true, true, true, true, true, true, true, false] _ (by kernel_rfl) rfl (by kernel_rfl) ⟨hp2, hx0, hx1⟩ ?_
      dsimp only [List.dropLast, List.zip, List.zipWith, List.getLast]
      repeat (apply wpMix_free
              · intro z hz
                try dsimp only at hz
                go_simp
                all_goals with_reducible rfl
              simp only [Act.put, List.setIfInBounds_toArray, List.set_cons_zero, List.set_cons_succ])
      refine wpMix_turn (fun K hK => ?_)
      have HK := Lib.hid hK; clear hK
      go_simp
      refine HST.out.mono ?_
      rintro e w2 ⟨tw', rfl, hsome, hmono, hcp2, hg2⟩
      have hpc2 : w2.cell? ⟨n0 + 2, 2, none⟩ = some (.map (some (n0 + 4))) := by rw [hcp2.top.cell]; rfl
      have hBn : B ≠ n0 := by omega
      refine HK.out _ _ ⟨hpc2, (World.cell?_of_block (a := ⟨B, 0, none⟩) (hg2.block B hsB (by simpa using hBn))).trans hx0, (World.cell?_of_block (a := ⟨B, 1, none⟩) (hg2.block B hsB (by simpa using hBn))).trans hx1⟩ ?_
      clear HK
      try simp only [Act.put, List.setIfInBounds_toArray, List.set_cons_zero, List.set_cons_succ]
      refine wpMix_end ?_
      refine wp_store plc_laid Tryz.underlying56 (.tmp 58) (.tmp 59) (.tmp 62) rfl hcp2.names (by unfold maxLen; omega) rfl rfl hxo i rfl ?_
      intro w3 hm3 hg3 hz3
      simp only [Act.put]
      have hcp3 := hcp2.name hsome hm3 hg3
      have hlb := HAT.out.names.lt
      have hrg2 := HRW.out.kept hg2 (by simp; omega) (by simp; omega)
      have hlf2 := HRW.out.left_kept hg2 (by simp; omega) (by simp; omega)
      have hrg3 := hrg2.kept hg3 (by simp; omega) (by simp; omega)
      have hlf3 := hrg2.left_kept hg3 (by simp; omega) (by simp; omega)
      have HC3 := Lib.hid hcp3; have HR3 := Lib.hid hrg3; have HL3 := Lib.hid (show w3.rangeLeft l.bn rA < _ by rw [hlf3, hlf2]; exact HLT.out)
      clear hcp3 hrg3 hrg2 hlf2 hlf3 hcp2 hg2 hg3 hm3 hz3 hpc2 hp2 hx0 hx1 hen
      go_wp2_with fail
      go_roundw
      case rel =>
        refine ⟨todo', _, tw', HR3.out, ?_, HC3.out⟩
        unfold store
        rw [HF.out]
        refine HPP.out.trans ?_
        exact List.perm_middle
      case measure => exact HL3.out
    · intro htd
      have hNp : s.names.Perm N := by have := HP.out; rw [htd, List.append_nil] at this; exact this
      have HNP := Lib.hid hNp
      have hA7 : At wr p s l := HAT.out.below (by rw [hn0]; exact HCP.out.below)
      have hq3 : wr.cell? ⟨p, 3, none⟩ = some (.map (some l.bd)) := by rw [hA7.cell]; rfl
      have HA7 := Lib.hid hA7
      clear htd hNp hA7 HP
      go_wp2_with (first
        | (at_range; refine wpList_range_l plc_laid Tryz.underlying56 rfl (.tmp 66) rfl HA7.out.dur rfl ?_; intro w8 hrg0 hg0 hs0; have hbw8 : Below wr.heap.size wr w8 := ⟨hg0.os, hg0.tape, hg0.output, hg0.size, fun k hk => hg0.block k hk (by simp)⟩; have HCPB := Lib.hid (HCP.out.keep hbw8); have HRB := Lib.hid hrg0; clear hrg0 hg0 hs0 hbw8)
        | fail)
      obtain ⟨rB, hrBe⟩ : ∃ r, wr.heap.size = r := ⟨_, rfl⟩
      rw [hrBe] at HRB ⊢
      have hrB6 : n0 + 6 ≤ rB := by rw [← hrBe]; exact HCP.out.room
      have hrB : n0 ≤ rB := by omega
      clear HCP HA7 hrBe hq3 HRG HRK
      go_frame
      go_loopw [8] (fun _ wr => ∃ (todo D : List (Plc × Nat)) (tw : List (Nat × Nat)), RangeL Tryz.prog 79 mkPlc (pv l) okP wr l.bd rB s.dur todo ∧ s.dur.Perm (D ++ todo) ∧ Cp n0 s N D [(rootB, [])] (fun _ => .slice none 0 0) tw w wr) (fun _ wr => wr.rangeLeft l.bd rB)
      case atStart => exact ⟨s.dur, [], _, HRB.out, by simp, HCPB.out⟩
      case round =>
        obtain ⟨todo, D, tw, hrg, hp, hcp⟩ := hrel
        have HRG := Lib.hid hrg; have HP := Lib.hid hp; have HCP := Lib.hid hcp
        have hrkind := hrg.kind
        have HRK := Lib.hid hrkind
        clear hrg hp hcp hrkind
        go_wp2_with (first
          | (at_next; refine wpList_next_l plc_laid rfl (.tmp 67) rfl HRG.out rfl ?_ ?_)
          | fail)
        rotate_left
        · intro x i todo' w1 hperm hrg1 hlt hg1 hs1 hen
          have hmem : (x, i) ∈ s.dur := HP.out.mem_iff.2 (List.mem_append.2 (.inr (hperm.mem_iff.2 (by simp))))
          have hpp : s.dur.Perm (D ++ (x, i) :: todo') := HP.out.trans (hperm.append_left D)
          have hfresh := strike_fresh HAT.out.dur.apart hpp
          have hxo : okP x := HAT.out.dur.good _ hmem
          have hli : Live s i := .inr (.inl ⟨_, hmem, rfl⟩)
          have hcp1 := HCP.out.iter hg1 HRK.out hrB
          have hNl : D.length ≤ 100000 := by have := hpp.length_eq; simp at this; have := HSZ.out; omega
          obtain ⟨B, hB⟩ : ∃ B, w1.heap.size = B := ⟨_, rfl⟩
          obtain ⟨W, hW⟩ : ∃ W, (w1.alloc (.cells #[.string x.d, .string x.n] 79)) = W := ⟨_, rfl⟩
          have hbW : Below w1.heap.size w1 W.drew := by rw [← hW]; exact ((Below.refl _ _).alloc (Nat.le_refl _) _).drew
          have hx0 : W.drew.cell? ⟨B, 0, none⟩ = some (.string x.d) := by rw [← hW, ← hB]; simp
          have hx1 : W.drew.cell? ⟨B, 1, none⟩ = some (.string x.n) := by rw [← hW, ← hB]; simp
          have hsB : B < W.drew.heap.size := by rw [← hW, ← hB]; show _ < (w1.alloc _).heap.size; simp
          have hB6 : n0 + 6 ≤ B := by rw [← hB]; exact hcp1.room
          have hcpW := hcp1.keep hbW
          have hrgW := hrg1.kept (row := none) ⟨hbW.os, hbW.tape, hbW.output, hbW.size, fun k hk _ => hbW.block k hk⟩ (by simp) (by simp)
          have hlfW := hrg1.left_kept (row := none) (w' := W.drew) ⟨hbW.os, hbW.tape, hbW.output, hbW.size, fun k hk _ => hbW.block k hk⟩ (by simp) (by simp)
          have hp2 : W.drew.cell? ⟨n0 + 2, 3, none⟩ = some (.map (some (n0 + 5))) := by rw [hcpW.top.cell]; rfl
          have HST := Lib.hid (hcpW.step HAT.out hn0 hmd hli)
          have HPP := Lib.hid hpp; have HF := Lib.hid hfresh; have HRW := Lib.hid hrgW; have HLT := Lib.hid (show W.drew.rangeLeft l.bd rB < _ by rw [hlfW]; exact hlt)
          unfold mkPlc pv at hen
          clear hmem hpp hfresh hcp1 hcpW hrgW hlfW hperm hrg1 hlt hg1 hs1 hbW hli
          go_wp2_with fail
          clear hW hB
          refine wp_region_mix (fun z => z.cell? ⟨n0 + 2, 3, none⟩ = some (.map (some (n0 + 5))) ∧ z.cell? ⟨B, 0, none⟩ = some (.string x.d) ∧ z.cell? ⟨B, 1, none⟩ = some (.string x.n))
            [true, true, true, true, true, true, true, false] _ (by kernel_rfl) rfl (by kernel_rfl) ⟨hp2, hx0, hx1⟩ ?_
          dsimp only [List.dropLast, List.zip, List.zipWith, List.getLast]
          repeat (apply wpMix_free
                  · intro z hz
                    try dsimp only at hz
                    go_simp
                    all_goals with_reducible rfl
                  simp only [Act.put, List.setIfInBounds_toArray, List.set_cons_zero, List.set_cons_succ])
          refine wpMix_turn (fun K hK => ?_)
          have HK := Lib.hid hK; clear hK
          go_simp
          refine HST.out.mono ?_
          rintro e w2 ⟨tw', rfl, hsome, hmono, hcp2, hg2⟩
          have hpc2 : w2.cell? ⟨n0 + 2, 3, none⟩ = some (.map (some (n0 + 5))) := by rw [hcp2.top.cell]; rfl
          have hBn : B ≠ n0 := by omega
          refine HK.out _ _ ⟨hpc2, (World.cell?_of_block (a := ⟨B, 0, none⟩) (hg2.block B hsB (by simpa using hBn))).trans hx0, (World.cell?_of_block (a := ⟨B, 1, none⟩) (hg2.block B hsB (by simpa using hBn))).trans hx1⟩ ?_
          clear HK
          try simp only [Act.put, List.setIfInBounds_toArray, List.set_cons_zero, List.set_cons_succ]
          refine wpMix_end ?_
          refine wp_store plc_laid Tryz.underlying56 (.tmp 76) (.tmp 77) (.tmp 80) rfl hcp2.dur (by unfold maxLen; omega) rfl rfl hxo i rfl ?_
          intro w3 hm3 hg3 hz3
          simp only [Act.put]
          have hcp3 := hcp2.durable hsome hm3 hg3
          have hlb := HAT.out.dur.lt
          have hrg2 := HRW.out.kept hg2 (by simp; omega) (by simp; omega)
          have hlf2 := HRW.out.left_kept hg2 (by simp; omega) (by simp; omega)
          have hrg3 := hrg2.kept hg3 (by simp; omega) (by simp; omega)
          have hlf3 := hrg2.left_kept hg3 (by simp; omega) (by simp; omega)
          have HC3 := Lib.hid hcp3; have HR3 := Lib.hid hrg3; have HL3 := Lib.hid (show w3.rangeLeft l.bd rB < _ by rw [hlf3, hlf2]; exact HLT.out)
          clear hcp3 hrg3 hrg2 hlf2 hlf3 hcp2 hg2 hg3 hm3 hz3 hpc2 hp2 hx0 hx1 hen
          go_wp2_with fail
          go_roundw
          case rel =>
            refine ⟨todo', _, tw', HR3.out, ?_, HC3.out⟩
            unfold store
            rw [HF.out]
            refine HPP.out.trans ?_
            exact List.perm_middle
          case measure => exact HL3.out
        · intro htd
          have hDp : s.dur.Perm D := by have := HP.out; rw [htd, List.append_nil] at this; exact this
          have HDP := Lib.hid hDp
          have hA8 : At wr p s l := HAT.out.below (by rw [hn0]; exact HCP.out.below)
          have hq1 : wr.cell? ⟨p, 1, none⟩ = some (.map (some l.bw)) := by rw [hA8.cell]; rfl
          have HA8 := Lib.hid hA8
          clear htd hDp hA8 HP
          go_wp2_with (first
            | (at_range; refine wpList_range_l str_laid Tryz.underlying55 rfl (.tmp 84) rfl HA8.out.waits rfl ?_; intro w9 hrg0 hg0 hs0; have hbw9 : Below wr.heap.size wr w9 := ⟨hg0.os, hg0.tape, hg0.output, hg0.size, fun k hk => hg0.block k hk (by simp)⟩; have HCPC := Lib.hid (HCP.out.keep hbw9); have HRC := Lib.hid hrg0; clear hrg0 hg0 hs0 hbw9)
            | fail)
          obtain ⟨rC, hrCe⟩ : ∃ r, wr.heap.size = r := ⟨_, rfl⟩
          rw [hrCe] at HRC ⊢
          have hrC6 : n0 + 6 ≤ rC := by rw [← hrCe]; exact HCP.out.room
          have hrC : n0 ≤ rC := by omega
          clear HCP HA8 hrCe hq1 HRG HRK
          go_frame
          go_loopw [10] (fun _ wr => ∃ (todo : List (ByteArray × Value)) (Wt : List (ByteArray × List Stp)) (rows : ByteArray → Value) (tw : List (Nat × Nat)), RangeL Tryz.prog 9 Value.string (id : Value → Value) okS wr l.bw rC (s.waits.map fun y => (y.1, l.rows y.1)) todo ∧ Cov s todo Wt ∧ Cp n0 s N D Wt rows tw w wr) (fun _ wr => wr.rangeLeft l.bw rC)
          case atStart => exact ⟨_, _, _, _, HRC.out, Cov.start HFT.out.root l.rows, HCPC.out⟩
          case round =>
            obtain ⟨todo, Wt, rows, tw, hrg, hcov, hcp⟩ := hrel
            have HRG := Lib.hid hrg; have HCV := Lib.hid hcov; have HCP := Lib.hid hcp
            have HRK := Lib.hid hrg.kind
            clear hrg hcov hcp
            go_wp2_with (first
              | (at_next; refine wpList_next_l str_laid rfl (.tmp 85) rfl HRG.out rfl ?_ ?_)
              | fail)
            rotate_left
            · intro d v todo' w1 hperm hrg1 hlt hg1 hs1 hen
              have hmem := HRG.out.sub (d, v) (hperm.mem_iff.2 (by simp))
              obtain ⟨y, hy, hye⟩ := List.mem_map.1 hmem
              injection hye with hy1 hy2
              have hsa := HAT.out.apartW
              have hlook : look s.waits d = some y.2 := by rw [← hy1]; exact look_of_mem hsa hy
              have HWL : Hid (Wt.length ≤ 200000) := Lib.hid (by have := HCV.out.len; have := HSZ.out.2.2; omega)
              have hcv2 := HCV.out.step hperm HRG.out.apart hlook
              have hdo : okS d := HAT.out.waits.good (d, v) hmem
              have hown := HAT.out.rows y hy
              rw [hy2] at hown
              obtain ⟨A2, c2, hus⟩ := okRow_len hown
              rw [List.length_map] at hus
              obtain ⟨xs, hxs⟩ : ∃ xs, y.2 = xs := ⟨_, rfl⟩
              rw [hxs] at hown hus hcv2 hlook
              have hlv : ∀ x ∈ xs, ∀ i, x.file = some i → Live s i := fun x hx i hi => .inr (.inr ⟨y, hy, x, by rw [hxs]; exact hx, hi⟩)
              have hsl : xs.length ≤ 100000 := by
                have h1 := steps_le hy
                rw [hxs] at h1
                have := HFT.out.dur; omega
              have hcp1 := HCP.out.iter hg1 HRK.out hrC
              obtain ⟨n, hn⟩ : ∃ n, xs.length = n := ⟨_, rfl⟩
              rw [hn] at hus
              subst hus
              have hcap : n ≤ c2 := by
                rcases hown.1.2 with ⟨e, h0⟩ | ⟨g, cap, cur, e, _, _, hle, _⟩
                · injection e with _ e1 _; omega
                · injection e with _ e1 e2; omega
              have HOLD := Lib.hid hown.reads; have HLV := Lib.hid hlv; have HCV2 := Lib.hid hcv2; have HC1 := Lib.hid hcp1; have HR1 := Lib.hid hrg1; have HLT := Lib.hid hlt; have HN3 := Lib.hid hn
              have hob : ∀ g, (Value.slice A2 n c2).ownBlock = some g → g < n0 := fun g hg => by rw [← hn0]; exact (hown.lt g hg).2
              have HOB := Lib.hid hob
              obtain ⟨L0, hL0⟩ : ∃ L0, w1.rangeLeft l.bw rC = L0 := ⟨_, rfl⟩
              have hnb : n ≤ 100000 := by omega
              clear hmem hy hy1 hy2 hxs hsa hlook hcv2 hown hlv hsl hcp1 hn hob hperm hrg1 hg1 hs1 hlt HCP HCV HRG HRK
              have hen2 : (Instr.entry (.pointer (some ⟨rC, 0, none⟩))).run Tryz.prog w1 = .ok (.tuple #[.string d, .slice A2 n c2]) w1 := hen
              clear hen
              obtain ⟨si, hsi, hz0, hz1, hz2⟩ := info_parts step_info
              have HI := Lib.hid (show si.bytes * n ≤ 281474976710656 by rw [hz2]; omega)
              go_wp2_with (first
                | (at_make; refine wpList_make_full _ rfl (.tmp 92) (.tmp 92) 90 rfl (n0 + 6) 86 si _ 3 Tryz.underlying90 hsi hz0 hz1 .i64 .i64 _ _ n rfl rfl rfl rfl HI.out (by unfold maxLen; omega) HC1.out.room ?_; intro w2 hown2 hg2; have HO2 := Lib.hid hown2; have HG2 := Lib.hid hg2; clear hown2 hg2)
                | fail)
              obtain ⟨g, hge⟩ : ∃ g, w1.heap.size = g := ⟨_, rfl⟩
              have hb2 : Below w1.heap.size w1 w2 := ⟨HG2.out.os, HG2.out.tape, HG2.out.output, HG2.out.size, fun k hk => HG2.out.block k hk (by simp)⟩
              have hrow0 : OwnR w2 (n0 + 6) 86 3 (.slice (some ⟨g, 0, none⟩) n n) (partR n0 tw rows xs 0) := by
                have e0 : partR n0 tw rows xs 0 = List.replicate n zrow := by unfold partR; rw [HN3.out]; simp
                rw [e0]
                refine ⟨?_, fun u hu => by rw [List.eq_of_mem_replicate hu]; rfl⟩
                have h5 := HO2.out
                rw [show (Value.agg #[.string ⟨#[]⟩, .string ⟨#[]⟩, .pointer none]).cells = #[.string ⟨#[]⟩, .string ⟨#[]⟩, .pointer none] from rfl, made_flat, hge] at h5
                rw [List.length_replicate]; exact h5
              have hfar : ∀ x ∈ Wt, (rows x.1).ownBlock ≠ some g := fun x hx e => by have := ((HC1.out.rws x hx).lt g e).2; omega
              have hC2 := HC1.out.keep hb2
              have hR2 := HR1.out.kept HG2.out (by simp) (by simp)
              have hL2 := HR1.out.left_kept HG2.out (by simp) (by simp)
              rw [hL0] at hL2 HLT
              have hrCg : rC < g := by rw [← hge]; exact HR1.out.lt
              have hbwl := HAT.out.waits.lt
              have HC2 := Lib.hid hC2; have HR2 := Lib.hid hR2; have HL2 := Lib.hid hL2; have HRO := Lib.hid hrow0; have HFAR := Lib.hid hfar
              rw [hge]
              clear hC2 hR2 hL2 hrow0 hfar hb2 HO2 HG2 HC1 HR1 hL0 hge
              go_loopw [96] (fun i wr => ∃ (j : Nat) (tw : List (Nat × Nat)), j ≤ n ∧ i = .int .i64 j ∧ Cp n0 s N D Wt rows tw w wr ∧ OwnR wr (n0 + 6) 86 3 (.slice (some ⟨g, 0, none⟩) n n) (partR n0 tw rows xs j) ∧ (∀ st ∈ xs.take j, ∀ i, st.file = some i → (look tw i).isSome) ∧ RangeL Tryz.prog 9 Value.string (id : Value → Value) okS wr l.bw rC (s.waits.map fun y => (y.1, l.rows y.1)) todo' ∧ wr.rangeLeft l.bw rC = L0) (fun i _ => n - (intOf i).toNat)
              case atStart => exact ⟨0, tw, by omega, rfl, HC2.out, HRO.out, by simp, HR2.out, HL2.out⟩
              case round =>
                obtain ⟨j, tw, hj, rfl, hcp, hrow, hso, hrg, hleft⟩ := hrel
                by_cases hlt : j < n
                · obtain ⟨x, hx⟩ : ∃ x, xs[j]? = some x := ⟨_, List.getElem?_eq_getElem (by rw [HN3.out]; exact hlt)⟩
                  obtain ⟨go, cap, hv2, _, hcell⟩ := Go.Proofs.YtdbcjiapbehacaaGreatDoor.Vf.Reads.at_ HOLD.out (k := j) (cs := stCells l x) (by rw [List.getElem?_map, hx]; rfl)
                  rw [List.length_map, HN3.out] at hv2
                  injection hv2 with e1 _ e3
                  subst e1; subst e3
                  have hgo : go < n0 := HOB.out go rfl
                  rw [stCells_eq] at hcell
                  have hbk := hcp.below.block go hgo
                  have hr0 := (World.cell?_of_block (a := ⟨go, j * 3, none⟩) hbk).trans (hcell 0 _ rfl)
                  have hr1 := (World.cell?_of_block (a := ⟨go, j * 3 + 1, none⟩) hbk).trans (hcell 1 _ rfl)
                  have hr2 := (World.cell?_of_block (a := ⟨go, j * 3 + 2, none⟩) hbk).trans (hcell 2 _ rfl)
                  have hi0 : (0 : Int) ≤ (j : Int) := by omega
                  have hi1 : (j : Int) < (n : Int) := by omega
                  obtain ⟨W, hW⟩ : ∃ W, wr.alloc (.cells #[.string x.gone, .string x.name, ptrOf l x.file] 86) = W := ⟨_, rfl⟩
                  obtain ⟨B, hB⟩ : ∃ B, wr.heap.size = B := ⟨_, rfl⟩
                  obtain ⟨hx0, hx1, hx2⟩ := fields_cells wr (.string x.gone) (.string x.name) (ptrOf l x.file) 86
                  rw [hW, hB] at hx0 hx1 hx2
                  have hWs : W.heap.size = B + 1 := by rw [← hW, ← hB]; simp
                  have hbW : Below wr.heap.size wr W.drew := by rw [← hW]; exact ((Below.refl _ _).alloc (Nat.le_refl _) _).drew
                  have hgbW : ∀ row, wr.grownBy W.drew row := fun row => ⟨hbW.os, hbW.tape, hbW.output, hbW.size, fun k hk _ => hbW.block k hk⟩
                  have hcpW := hcp.keep hbW
                  have hgl : g < wr.heap.size := (hrow.lt g rfl).2
                  have hrowW := hrow.blk (w' := W.drew) fun k hk => hbW.block k (hrow.lt k hk).2
                  have hrgW := hrg.kept (hgbW none) (by simp) (by simp)
                  have hlfW := hrg.left_kept (hgbW none) (by simp) (by simp)
                  rw [hleft] at hlfW
                  have hlx := HLV.out x (List.mem_of_getElem? hx)
                  have hTW : Calls Tryz.prog 58 #[ptrOf l x.file, .pointer (some ⟨n0 + 1, 0, none⟩)] W.drew fun e w' => ∃ tw' pp, e = .returned (.pointer pp) ∧ ptrOf (lc n0 tw' rows) x.file = .pointer pp ∧ (∀ i, x.file = some i → (look tw' i).isSome) ∧ (∀ k, (look tw k).isSome → look tw' k = look tw k) ∧ Cp n0 s N D Wt rows tw' w w' ∧ W.drew.grownBy w' (some n0) := by
                    cases hxf : x.file with
                    | none =>
                      refine (twin_none (n0 + 1) W.drew).mono ?_
                      rintro e w' ⟨he, rfl⟩
                      exact ⟨tw, none, he, rfl, (fun i hi => by cases hi), fun _ _ => rfl, hcpW, World.grownBy.refl _ _⟩
                    | some i =>
                      refine (hcpW.step HAT.out hn0 hmd (hlx i hxf)).mono ?_
                      rintro e w' ⟨tw', he, h2, h3, h4, h5⟩
                      exact ⟨tw', some ⟨(look tw' i).getD 0, 0, none⟩, he, rfl, (fun k hk => by injection hk with hk; subst hk; exact h2), h3, h4, h5⟩
                  have HTW := Lib.hid hTW; have HROW := Lib.hid hrowW; have HRGW := Lib.hid hrgW; have HLFW := Lib.hid hlfW; have HSO := Lib.hid hso; have HX := Lib.hid hx
                  have hsp := fun (z : World) (a : Addr) (m : Mode) => run_store Tryz.prog z a (ptrOf l x.file) m (ptr_one l x.file)
                  have hBg : B ≠ n0 := by have := hcp.room; omega
                  have hgn : g ≠ n0 := by omega
                  clear hcp hrow hso hrg hleft hcell hbk hcpW hrowW hrgW hlfW hTW hx hgbW hlx
                  go_wp2_with fail
                  clear hW hB hr0 hr1 hr2 hsp
                  have hy0 : W.drew.cell? ⟨B, 0, none⟩ = some (.string x.gone) := hx0
                  have hy1 : W.drew.cell? ⟨B, 1, none⟩ = some (.string x.name) := hx1
                  have hy2 : W.drew.cell? ⟨B, 2, none⟩ = some (ptrOf l x.file) := hx2
                  refine wp_region_mix (fun z => z.cell? ⟨B, 0, none⟩ = some (.string x.gone) ∧ z.cell? ⟨B, 1, none⟩ = some (.string x.name) ∧ z.cell? ⟨B, 2, none⟩ = some (ptrOf l x.file))
                    [true, true, true, true, true, true, true, true, true, false, true, true] _ (by kernel_rfl) rfl (by kernel_rfl) ⟨hy0, hy1, hy2⟩ ?_
                  dsimp only [List.dropLast, List.zip, List.zipWith, List.getLast]
                  repeat (apply wpMix_free
                          · intro z hz
                            try dsimp only at hz
                            go_simp
                            all_goals with_reducible rfl
                          simp only [Act.put, List.setIfInBounds_toArray, List.set_cons_zero, List.set_cons_succ])
                  refine wpMix_turn (fun K hK => ?_)
                  have HK := Lib.hid hK; clear hK
                  go_simp
                  refine HTW.out.mono ?_
                  rintro e w3 ⟨tw', pp, rfl, hpe, hsome, hmono, hcp3, hg3⟩
                  have hBW : B < W.drew.heap.size := by show B < W.heap.size; omega
                  have hkB := hg3.block B hBW (by simpa using hBg)
                  refine HK.out _ _ ⟨(World.cell?_of_block (a := ⟨B, 0, none⟩) hkB).trans hy0, (World.cell?_of_block (a := ⟨B, 1, none⟩) hkB).trans hy1, (World.cell?_of_block (a := ⟨B, 2, none⟩) hkB).trans hy2⟩ ?_
                  clear HK
                  try simp only [Act.put, List.setIfInBounds_toArray, List.set_cons_zero, List.set_cons_succ]
                  repeat (apply wpMix_free
                          · intro z hz
                            try dsimp only at hz
                            go_simp
                            all_goals with_reducible rfl
                          simp only [Act.put, List.setIfInBounds_toArray, List.set_cons_zero, List.set_cons_succ])
                  refine wpMix_end ?_
                  have hrow3 : OwnR w3 (n0 + 6) 86 3 (.slice (some ⟨g, 0, none⟩) n n) (partR n0 tw' rows xs j) := by
                    have e5 : partR n0 tw' rows xs j = partR n0 tw rows xs j := by
                      unfold partR
                      rw [stC_congr (tw := tw) (rows := rows) fun st hst i hi => hmono i (HSO.out st hst i hi)]
                    rw [e5]
                    exact HROW.out.kept hg3 (.inr (by simpa [Value.ownBlock] using hgn))
                  have hzr : (partR n0 tw' rows xs j)[j]? = some zrow := by
                    unfold partR
                    have hl : ((xs.take j).map (stCells (lc n0 tw' rows))).length = j := by rw [List.length_map, List.length_take, HN3.out]; omega
                    rw [List.getElem?_append_right (by omega), hl, Nat.sub_self, HN3.out, show n - j = (n - j - 1) + 1 by omega, List.replicate_succ]; rfl
                  have hpl : (partR n0 tw' rows xs j).length = n := by rw [part_len _ _ _ _ (by rw [HN3.out]; omega), HN3.out]
                  have hrd := hrow3.reads
                  have hce : ∀ k u, zrow[k]? = some u → w3.cell? ⟨g, j * 3 + k, none⟩ = some u := by
                    rcases hrd with ⟨e6, _⟩ | ⟨g', cap', e6, hE⟩
                    · rw [e6] at hzr; cases hzr
                    · injection e6 with e7 _ _; injection e7 with e7; injection e7 with e7 _ _; subst e7
                      exact fun k u hk => hE.cell j k zrow u hzr hk
                  have hz0 := hce 0 _ rfl
                  have hz1 := hce 1 _ rfl
                  have hz2 := hce 2 _ rfl
                  rw [Nat.add_zero] at hz0
                  obtain ⟨cur3, hk3⟩ := hrow3.kind (k := g) rfl
                  have hfz : ∀ k, w3.frozen? ⟨g, k, none⟩ = false := fun k => by simp [World.frozen?, hk3]
                  have hf0 := hfz (j * 3)
                  have hf1 := hfz (j * 3 + 1)
                  have hf2 := hfz (j * 3 + 2)
                  have hnew := put3 hrow3 (i := j) (by rw [hpl]; exact hlt) (.string x.gone) (.string x.name) (.pointer pp)
                  have e7 : stCells (lc n0 tw' rows) x = [.string x.gone, .string x.name, .pointer pp] := by rw [stCells_eq, hpe]
                  rw [← e7, part_step HX.out] at hnew
                  have hgbs : w3.grownBy (((w3.setCell ⟨g, j * 3, none⟩ (.string x.gone)).setCell ⟨g, j * 3 + 1, none⟩ (.string x.name)).setCell ⟨g, j * 3 + 2, none⟩ (.pointer pp)) (some g) := Go.Proofs.YtdbcjiapbehacaaGreatDoor.Vf.gb_set (Go.Proofs.YtdbcjiapbehacaaGreatDoor.Vf.gb_set (Go.Proofs.YtdbcjiapbehacaaGreatDoor.Vf.gb_set (World.grownBy.refl _ _) _ _) _ _) _ _
                  have hcp4 := hcp3.off hgbs hk3 (by omega) HFAR.out
                  have hrg3 := HRGW.out.kept hg3 (by simp; omega) (by simp; omega)
                  have hlf3 := HRGW.out.left_kept hg3 (by simp; omega) (by simp; omega)
                  have hrg4 := hrg3.kept hgbs (by simp; omega) (by simp; omega)
                  have hlf4 := hrg3.left_kept hgbs (by simp; omega) (by simp; omega)
                  have hso4 : ∀ st ∈ xs.take (j + 1), ∀ i, st.file = some i → (look tw' i).isSome := fun st hst i hi => by
                    rw [Go.Proofs.YtdbcjiapbehacaaGreatDoor.Vf.take_snoc HX.out] at hst
                    rcases List.mem_append.1 hst with hst | hst
                    · rw [hmono i (HSO.out st hst i hi)]; exact HSO.out st hst i hi
                    · rw [List.mem_singleton.1 hst] at hi; exact hsome i hi
                  have HCP4 := Lib.hid hcp4; have HNEW := Lib.hid hnew; have HRG4 := Lib.hid hrg4; have HLF4 := Lib.hid (hlf4.trans (hlf3.trans HLFW.out)); have HSO4 := Lib.hid hso4
                  clear hcp4 hnew hrg4 hlf4 hlf3 hrg3 hso4 hgbs hrd hce hzr hrow3 hcp3 hg3 hmono hsome hkB hy0 hy1 hy2 hx0 hx1 hx2 hk3 hfz
                  go_simp
                  go_wp2_with fail
                  exact ⟨⟨j + 1, tw', hlt, by go_num, HCP4.out, HNEW.out, HSO4.out, HRG4.out, HLF4.out⟩, by simp [intOf]; omega⟩
                · obtain rfl : j = n := by omega
                  have hall : partR n0 tw rows xs j = xs.map (stCells (lc n0 tw rows)) := by rw [← HN3.out]; exact part_all _ _ _ _
                  rw [hall] at hrow
                  have htk : xs.take j = xs := List.take_of_length_le (by rw [HN3.out]; exact Nat.le_refl _)
                  rw [htk] at hso
                  have hq1 : wr.cell? ⟨n0 + 2, 1, none⟩ = some (.map (some (n0 + 3))) := by rw [hcp.top.cell]; rfl
                  have hwl := HWL.out
                  have HCP := Lib.hid hcp; have HROW := Lib.hid hrow; have HSO := Lib.hid hso; have HRG := Lib.hid hrg; have HLF := Lib.hid hleft
                  have hk1 : ¬ (j : Int) < (j : Int) := by omega
                  clear hcp hrow hso hrg hleft hall htk
                  go_wp2_with (first
                    | (at_mapUpdate; refine wpList_store str_laid Tryz.underlying55 (c := d) rfl (.tmp 117) (.tmp 118) (.tmp 119) rfl HCP.out.waits (by rw [List.length_map]; unfold maxLen; omega) rfl rfl hdo (.slice (some ⟨g, 0, none⟩) j j) rfl ?_; intro w5 hm5 hg5 hz5; have HM5 := Lib.hid hm5; have HG5 := Lib.hid hg5; clear hm5 hg5 hz5)
                    | fail)
                  have hcp5 := HCP.out.dir HROW.out HSO.out (fun x hx => .inr (fun e => HFAR.out x hx e)) HM5.out HG5.out
                  have hrg5 := HRG.out.kept HG5.out (by simp; omega) (by simp; omega)
                  have hlf5 := HRG.out.left_kept HG5.out (by simp; omega) (by simp; omega)
                  go_roundw
                  case rel => exact ⟨todo', hrg5, _, HCV2.out, _, tw, hcp5⟩
                  case measure => rw [hlf5, HLF.out]; exact HLT.out
            · intro htd
              rw [htd] at HCV
              have hfin := HCP.out.done HAT.out HNP.out HDP.out HCV.out
              have HFIN := Lib.hid hfin; have HBL := Lib.hid HCP.out.below
              clear htd hfin
              go_wp2_with fail
              go_ret
              exact ⟨n0 + 2, _, rfl, HFIN.out.1, by rw [hn0]; exact HBL.out, fun g hg => by rw [hn0]; exact HFIN.out.2 g hg⟩


end Go.Proofs.YtdbcjiapbehacaaGreatDoor.Vp
