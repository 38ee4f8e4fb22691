/-
  Layer 6 (tzif): a zone as the document has it.
-/
import Derived.Test.YtljkcnoicdhchaaTzY
import Derived.Deep.AppendLies
namespace Go.Proofs.Ytljkcnoicdhchaa.Tz
open Go.RowKit

theorem ty_info : (Try.prog.info? 56).map (fun i => (i.zero, i.size, i.bytes)) = some (some (.agg #[.int .i64 0, .bool false, .string ⟨#[]⟩]), 3, 32) := by kernel_rfl
/-- A row of types of the call's own. -/
def OwnT (w : World) (base : Nat) (v : Value) (l : List Ty) : Prop := w.ownsRow base 56 3 v l.length (l.flatMap tyCells)
theorem flat_ty : ∀ {l : List Ty} {j k : Nat} {t : Ty} {u : Value}, l[j]? = some t → (tyCells t)[k]? = some u → (l.flatMap tyCells)[j * 3 + k]? = some u
  | [], _, _, _, _, h, _ => by simp at h
  | a :: l, 0, k, t, u, h, hu => by
    have e : a = t := by simpa using h
    subst e
    have hk : k < 3 := by have := (List.getElem?_eq_some_iff.1 hu).1; simpa [tyCells] using this
    rw [List.flatMap_cons, List.getElem?_append_left (by simp [tyCells]; omega), Nat.zero_mul, Nat.zero_add]; exact hu
  | a :: l, j + 1, k, t, u, h, hu => by
    rw [List.flatMap_cons, List.getElem?_append_right (by simp [tyCells]; omega)]
    have : (j + 1) * 3 + k - (tyCells a).length = j * 3 + k := by simp [tyCells]; omega
    rw [this]
    exact flat_ty (by simpa using h) hu
section
variable {w w' : World} {base : Nat} {v : Value} {l : List Ty}
theorem OwnT.keep (h : OwnT w base v l) (hb : Below w.heap.size w w') : OwnT w' base v l :=
  World.ownsRow.kept h (row := none) ⟨hb.os, hb.tape, hb.output, hb.size, fun k hk _ => hb.block k hk⟩ (by cases hv : v.ownBlock <;> simp)
theorem OwnT.lt (h : OwnT w base v l) (k : Nat) (hk : v.ownBlock = some k) : base ≤ k ∧ k < w.heap.size := World.ownsRow.lt h k hk
theorem OwnT.set (h : OwnT w base v l) {g : Nat} (hg : g < base) (i : Nat) (u : Value) : OwnT (w.setCell ⟨g, i, none⟩ u) base v l :=
  World.ownsRow.kept h (grown_set w g i u) (by
    cases hv : v.ownBlock with
    | none => exact .inl rfl
    | some k => exact .inr (fun e => by injection e with e; have := (h.lt k hv).1; omega))
theorem OwnT.form (h : OwnT w base v l) : ∃ A c, v = .slice A l.length c := by
  rcases h.2 with ⟨rfl, h0⟩ | ⟨g, cap, cur, rfl, _⟩
  · exact ⟨none, 0, by rw [h0]⟩
  · exact ⟨_, _, rfl⟩
theorem OwnT.sl (h : OwnT w base v l) {B : Nat} (hB : w.heap.size ≤ B) : Sl w B 3 v (l.map tyCells) := by
  refine ⟨?_, fun j row hj => ?_⟩
  · obtain ⟨A, c, e⟩ := h.form
    exact ⟨A, c, by rw [List.length_map]; exact e⟩
  · rw [List.getElem?_map] at hj
    cases hx : l[j]? with
    | none => rw [hx] at hj; cases hj
    | some t =>
      rw [hx] at hj
      have e : row = tyCells t := by injection hj with hj; exact hj.symm
      subst e
      have hlt : j < l.length := (List.getElem?_eq_some_iff.1 hx).1
      obtain ⟨g, cap, cur, rfl, hg⟩ : ∃ g cap cur, v = .slice (some ⟨g, 0, none⟩) l.length cap ∧ w.heap[g]? = some (.cells cur 56 (0, 0)) := by
        rcases h.2 with ⟨_, h0⟩ | ⟨g, cap, cur, e, hbg, hg, _⟩
        · omega
        · exact ⟨g, cap, cur, e, hg⟩
      have hgl := (Array.getElem?_eq_some_iff.1 hg).1
      refine ⟨g, 0, cap, by rw [List.length_map], by omega, fun k u hu => ?_⟩
      have := World.ownsRow.cells h (g := g) rfl (j * 3 + k) u (flat_ty hx hu)
      rw [Own_add] at this
      rw [Nat.zero_add]; exact this
end
theorem ZnBox.set0 {U : World} {P : Nat} {a b c d : Value} (h : ZnBox U P a b c d) (x : Value) : ZnBox (U.setCell ⟨P, 0, none⟩ x) P x b c d :=
  ⟨World.cell?_setCell_same _ _ _ h.c0, (set_other (by decide)).trans h.c1, (set_other (by decide)).trans h.c2, (set_other (by decide)).trans h.c3, fun i => by rw [World.frozen?_setCell]; exact h.fr i, by simpa using h.lt⟩
theorem three_cells (W : World) (t : Ty) (ty : TypeId) (g : Nat) (hg : W.heap.size = g) : ∀ j u, (tyCells t)[j]? = some u → (W.alloc (.cells #[.int .i64 t.off, .bool t.dst, .string t.abbr] ty)).cell? ((⟨g, 0, none⟩ : Addr).add j) = some u := by
  intro j u hu
  rw [Own_add]
  exact cell_new W _ ty g j u hg (by rw [List.getElem?_toArray]; exact hu)
set_option maxRecDepth 100000 in
set_option maxHeartbeats 2000000 in
theorem plain_any (z : Zn) (vt vs vi : Value) (B : Nat) (w : World) (h : ZnAt w B z vt vs vi) (hl : z.types.length ≤ 1000) (hB : B ≤ w.heap.size) :
    Calls Try.prog 10 #[.agg #[vt, vs, vi, .string z.footer]] w fun e w' => ∃ A c, e = .returned (.agg #[.slice A z.types.length c, vs, vi, .string z.footer]) ∧ ZnAt w' w'.heap.size z (.slice A z.types.length c) vs vi ∧ Below w.heap.size w w' := by
  obtain ⟨At, ct, rfl⟩ := h.types.len
  obtain ⟨As, cs, rfl⟩ := h.times.len
  obtain ⟨Ai, ci, rfl⟩ := h.index.len
  obtain ⟨G, hG⟩ : ∃ G, w.heap.size = G := ⟨_, rfl⟩
  obtain ⟨W0, hW0⟩ : ∃ W0, ((w.alloc (.cells #[.slice At z.types.length ct, .slice As z.times.length cs, .slice Ai z.index.length ci, .string z.footer] 26)).alloc (.cells #[.slice none 0 0, .slice none 0 0, .slice none 0 0, .string ⟨#[]⟩] 31)).alloc (.cells #[.slice none 0 0, .slice As z.times.length cs, .slice Ai z.index.length ci, .string z.footer] 31) = W0 := ⟨_, rfl⟩
  have HSZ : Hid (W0.heap.size = G + 3) := Lib.hid (by rw [← hW0]; simp [hG])
  have HB0 : Hid (Below G w W0) := Lib.hid (by rw [← hW0, ← hG]; exact (((Below.refl _ _).alloc (Nat.le_refl _) _).alloc (by simp) _).alloc (by simp; omega) _)
  have HX0 : Hid (ZnBox W0 G (.slice At z.types.length ct) (.slice As z.times.length cs) (.slice Ai z.index.length ci) (.string z.footer)) := Lib.hid (by
    rw [← hW0]
    have h1 := ZnBox.new w G hG (.slice At z.types.length ct) (.slice As z.times.length cs) (.slice Ai z.index.length ci) (.string z.footer) 26
    exact ((h1.below ((Below.refl (G + 1) _).alloc (by simp [hG]) _) (Nat.lt_succ_self _)).below ((Below.refl (G + 1) _).alloc (by simp [hG]) _) (Nat.lt_succ_self _)))
  have HX1 : Hid (ZnBox W0 (G + 1) (.slice none 0 0) (.slice none 0 0) (.slice none 0 0) (.string ⟨#[]⟩)) := Lib.hid (by
    rw [← hW0]
    have h1 := ZnBox.new (w.alloc (.cells #[.slice At z.types.length ct, .slice As z.times.length cs, .slice Ai z.index.length ci, .string z.footer] 26)) (G + 1) (by simp [hG]) (.slice none 0 0) (.slice none 0 0) (.slice none 0 0) (.string ⟨#[]⟩) 31
    exact h1.below ((Below.refl (G + 2) _).alloc (by simp [hG]) _) (Nat.lt_succ_self _))
  have HX2 : Hid (ZnBox W0 (G + 1 + 1) (.slice none 0 0) (.slice As z.times.length cs) (.slice Ai z.index.length ci) (.string z.footer)) := Lib.hid (by
    rw [← hW0]
    exact ZnBox.new _ (G + 1 + 1) (by simp [hG]) _ _ _ _ _)
  have HZ : Hid (∀ V, Below G w V → ZnAt V B z (.slice At z.types.length ct) (.slice As z.times.length cs) (.slice Ai z.index.length ci)) := Lib.hid fun V hb => h.below (C := G) hb (by omega)
  clear h
  go_enter Try.func10, Try.ntmps10
  go_wp2_with fail
  go_loopw [4] (fun i wr => ∃ (k : Nat) (A : Option Addr) (c : Nat), k ≤ z.types.length ∧ i = .int .i64 k ∧ ZnBox wr (G + 1 + 1) (.slice A k c) (.slice As z.times.length cs) (.slice Ai z.index.length ci) (.string z.footer) ∧ OwnT wr (G + 3) (.slice A k c) (z.types.take k) ∧ Below (G + 1 + 1) W0 wr) (fun i _ => z.types.length - (intOf i).toNat)
  case atStart => exact ⟨0, none, 0, by omega, rfl, HX2.out, World.ownsRow_nil _ _ _ _, Below.refl _ _⟩
  case round =>
    obtain ⟨k, A, c, hk, rfl, hbx, hown, hbw⟩ := hrel
    have HBX := Lib.hid hbx; have HOW := Lib.hid hown; have HBW := Lib.hid hbw
    have HBG : Hid (Below G w wr) := Lib.hid (HB0.out.trans (hbw.mono (by omega)))
    have q0 := (HX0.out.below hbw (by omega)).c0
    clear hbx hown hbw
    by_cases hlt : k < z.types.length
    · have hk0 : (0 : Int) ≤ (k : Int) := by omega
      have hk1 : (k : Int) < (z.types.length : Int) := by omega
      obtain ⟨x, hx⟩ : ∃ x, z.types[k]? = some x := ⟨_, List.getElem?_eq_getElem hlt⟩
      obtain ⟨g, off, c', hv, hg, c0, c1, c2⟩ := (HZ.out _ HBG.out).types.ty hx
      injection hv with ea _ ec
      subst ea; subst ec
      have HX := Lib.hid hx
      have HGW : Hid (g < G) := Lib.hid (by omega)
      clear hx hg
      have p0 := HBX.out.c0
      go_wp2_with fail
      refine wp_region_mix (fun z' => z'.cell? ⟨G + 1 + 1, 0, none⟩ = some (.slice A k c) ∧ z'.cell? ⟨G, 0, none⟩ = some (.slice (some ⟨g, off, none⟩) z.types.length ct) ∧ z'.cell? ⟨g, off + k * 3, none⟩ = some (.int .i64 x.off) ∧ z'.cell? ⟨g, off + k * 3 + 1, none⟩ = some (.bool x.dst) ∧ z'.cell? ⟨g, off + k * 3 + 2, none⟩ = some (.string x.abbr)) [true, true, true, true, true, true, true, false, false, true] _ (by kernel_rfl) rfl (by kernel_rfl) ⟨p0, q0, c0, c1, c2⟩ ?_
      dsimp only [List.dropLast, List.zip, List.zipWith, List.getLast]
      repeat (apply wpMix_free
              · intro z' hz
                try dsimp only at hz
                go_simp
                all_goals with_reducible rfl
              simp only [Act.put, List.setIfInBounds_toArray, List.set_cons_zero, List.set_cons_succ])
      refine wpMix_turn (fun K hK => ?_)
      have HK := Lib.hid hK; clear hK
      go_simp
      have hgw : g < wr.heap.size := by have := HBG.out.size; have := HGW.out; omega
      have hP : G + 1 + 1 < wr.heap.size := HBX.out.lt
      refine HK.out _ _ ⟨cell_old wr.drew _ _ _ _ hP p0, cell_old wr.drew _ _ _ _ (Nat.lt_of_lt_of_le (by omega) (Nat.le_of_lt hP)) q0, cell_old wr.drew _ _ _ _ hgw c0, cell_old wr.drew _ _ _ _ hgw c1, cell_old wr.drew _ _ _ _ hgw c2⟩ ?_
      clear HK
      try simp only [Act.put, List.setIfInBounds_toArray, List.set_cons_zero, List.set_cons_succ]
      refine wpMix_turn (fun K hK => ?_)
      have HK := Lib.hid hK; clear hK
      obtain ⟨si, hsi, hz0, hz1, hz2⟩ := info_parts ty_info
      have hal2 : (wr.drew.alloc (.cells #[.int .i64 x.off, .bool x.dst, .string x.abbr] 56)).heap.size = wr.heap.size + 1 := by simp
      have hlk : (z.types.take k).length = k := by rw [List.length_take]; omega
      have how2 : World.ownsRow (wr.drew.alloc (.cells #[.int .i64 x.off, .bool x.dst, .string x.abbr] 56)) (G + 3) 56 3 (.slice A k c) k ((z.types.take k).flatMap tyCells) := by
        have := World.ownsRow.alloc (w := wr.drew) (HOW.out : World.ownsRow wr.drew _ _ _ _ _ _) (.cells #[.int .i64 x.off, .bool x.dst, .string x.abbr] 56)
        rwa [hlk] at this
      refine wp_append_lies _ (.tmp 20) (.tmp 26) 29 rfl (G + 3) 56 si _ 3 32 Try.underlying29 hsi hz0 hz1 hz2 rfl (by decide) _ k _ rfl how2 ⟨wr.heap.size, 0, none⟩ 1 1 (tyCells x) rfl rfl (three_cells wr.drew x _ _ rfl) (by simp [tyCells, Value.oneCell']) (by decide) (by unfold maxLen; omega) (by omega) (by have := HBX.out.lt; simp; omega) (wr.heap.size + 1) hal2 ?_
      intro g2 cap2 V2 hown3 hgr3 hat3 hlt3
      have hBV : Below (G + 1 + 1 + 1) wr V2 := ⟨hgr3.os, hgr3.tape, hgr3.output, by have := hgr3.size; simp at this; omega, fun i hi => (hgr3.block i (by simp; omega) (fun e => by have := (HOW.out.lt i e.symm).1; omega)).trans (heap_alloc_old wr.drew _ (by show i < wr.heap.size; omega))⟩
      have HBV := Lib.hid hBV
      have HO3 : Hid (OwnT V2 (G + 3) (.slice (some ⟨g2, 0, none⟩) (k + 1) cap2) (z.types.take (k + 1))) := Lib.hid (by
        have e : z.types.take (k + 1) = z.types.take k ++ [x] := take_one HX.out
        unfold OwnT
        rw [e, List.length_append, hlk, List.flatMap_append]
        simpa using hown3)
      have m0 := cells_at (G + 1 + 1) hBV (Nat.lt_succ_self _) p0
      have m1 := cells_at G hBV (by omega) q0
      have HBX2 := Lib.hid (HBX.out.below hBV (Nat.lt_succ_self _))
      have mf := HBX2.out.fr 0
      refine HK.out _ _ ⟨m0, m1, cells_at g hBV (by have := HGW.out; omega) c0, cells_at g hBV (by have := HGW.out; omega) c1, cells_at g hBV (by have := HGW.out; omega) c2⟩ ?_
      clear HK hsi hz0 hz1 hz2 hal2 hlk how2 hown3 hgr3 hat3 hBV hgw c0 c1 c2 p0 q0
      try simp only [Act.put, List.setIfInBounds_toArray, List.set_cons_zero, List.set_cons_succ]
      repeat (apply wpMix_free
              · intro z' hz
                try dsimp only at hz
                go_simp
                all_goals with_reducible rfl
              simp only [Act.put, List.setIfInBounds_toArray, List.set_cons_zero, List.set_cons_succ])
      refine wpMix_end ?_
      go_simp
      go_wp2_with fail
      refine ⟨⟨k + 1, _, _, hlt, by go_num, HBX2.out.set0 _, HO3.out.set (by omega) _ _, (HBW.out.trans (HBV.out.mono (by omega))).setCell (Nat.le_refl _) _⟩, by simp [intOf]; omega⟩
    · have hk1 : ¬ (k : Int) < (z.types.length : Int) := by omega
      obtain rfl : k = z.types.length := by omega
      have p0 := HBX.out.c0; have p1 := HBX.out.c1; have p2 := HBX.out.c2; have p3 := HBX.out.c3
      have HXR := Lib.hid (HX1.out.below HBW.out (by omega))
      have r0 := HXR.out.c0; have r1 := HXR.out.c1; have r2 := HXR.out.c2; have r3 := HXR.out.c3
      have f0 := HXR.out.fr 0; have f1 := HXR.out.fr 1; have f2 := HXR.out.fr 2; have f3 := HXR.out.fr 3
      go_wp2_with fail
      have hOT : OwnT wr (G + 3) (.slice A z.types.length c) z.types := by
        have := HOW.out
        rwa [List.take_of_length_le (Nat.le_refl _)] at this
      have hOY := (((hOT.set (g := G + 1) (by omega) 0 (.slice A z.types.length c)).set (g := G + 1) (by omega) 1 (.slice As z.times.length cs)).set (g := G + 1) (by omega) 2 (.slice Ai z.index.length ci)).set (g := G + 1) (by omega) 3 (.string z.footer)
      have hBY : Below G w ((((wr.setCell ⟨G + 1, 0, none⟩ (.slice A z.types.length c)).setCell ⟨G + 1, 1, none⟩ (.slice As z.times.length cs)).setCell ⟨G + 1, 2, none⟩ (.slice Ai z.index.length ci)).setCell ⟨G + 1, 3, none⟩ (.string z.footer)) :=
        (((HBG.out.setCell (Nat.le_succ _) _).setCell (Nat.le_succ _) _).setCell (Nat.le_succ _) _).setCell (Nat.le_succ _) _
      have HOY := Lib.hid hOY; have HBY := Lib.hid hBY
      clear hOT hOY hBY p0 p1 p2 p3
      refine bodyPost_ret (v := .agg #[.slice A z.types.length c, .slice As z.times.length cs, .slice Ai z.index.length ci, .string z.footer]) (by simp [results, Try.results10, go_sem, r0, r1, r2, r3]) rfl ⟨A, c, rfl, ⟨HOY.out.sl (Nat.le_refl _), ?_, ?_⟩, HBY.out⟩
      · have h1 := (HZ.out _ HBY.out).times
        exact ⟨h1.form, fun j row hj => by
          obtain ⟨g, off, c, e, hg, hc⟩ := h1.at_ j row hj
          exact ⟨g, off, c, e, by have := HBY.out.size; omega, hc⟩⟩
      · have h1 := (HZ.out _ HBY.out).index
        exact ⟨h1.form, fun j row hj => by
          obtain ⟨g, off, c, e, hg, hc⟩ := h1.at_ j row hj
          exact ⟨g, off, c, e, by have := HBY.out.size; omega, hc⟩⟩
end Go.Proofs.Ytljkcnoicdhchaa.Tz
