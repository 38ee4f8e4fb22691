/-
  The document's file system: names by their paths (sorted).
-/
import Derived.Test.YtdbcjiapbehacaaGreatDoorVfH
import Derived.Sort.Defs
namespace Go.Proofs.YtdbcjiapbehacaaGreatDoor.Vf
open Go.RowKit

/-- Does a come behind b? -/
def gtN (a b : Nm) : Bool := !(Op.bytesLess a.p.toList b.p.toList || a.p.toList == b.p.toList)
/-- Where x belongs: behind the last one that is not behind it. -/
def posR (x : Nm) : List Nm → Nat
  | [] => 0
  | y :: ys => if posR x ys = 0 ∧ gtN y x = true then 0 else posR x ys + 1
theorem posR_is {x : Nm} : ∀ {out : List Nm} {k : Nat}, k ≤ out.length → (∀ j y, k ≤ j → out[j]? = some y → gtN y x = true) → (∀ y, 0 < k → out[k - 1]? = some y → gtN y x = false) → posR x out = k
  | [], k, h, _, _ => by simp at h; subst h; rfl
  | y :: ys, 0, _, h1, _ => by
    have ih := posR_is (x := x) (out := ys) (k := 0) (Nat.zero_le _) (fun j z _ hz => h1 (j + 1) z (Nat.zero_le _) (by simpa using hz)) (fun z h0 => absurd h0 (by omega))
    unfold posR
    rw [if_pos ⟨ih, h1 0 y (Nat.le_refl _) (by simp)⟩]
  | y :: ys, k + 1, h, h1, h2 => by
    have ih := posR_is (x := x) (out := ys) (k := k) (by simpa using h) (fun j z hj hz => h1 (j + 1) z (by omega) (by simpa using hz)) (fun z h0 hz => h2 z (by omega) (by
      have : k + 1 - 1 = (k - 1) + 1 := by omega
      rw [this]; simpa using hz))
    unfold posR
    rw [ih]
    split
    · rename_i hc
      have hk : k = 0 := hc.1
      subst hk
      have := h2 y (by omega) (by simp)
      rw [this] at hc; cases hc.2
    · rfl
def insN (x : Nm) (out : List Nm) : List Nm := out.take (posR x out) ++ x :: out.drop (posR x out)
def sortN (l : List Nm) : List Nm := l.foldl (fun o x => insN x o) []
theorem insN_len (x : Nm) (out : List Nm) : (insN x out).length = out.length + 1 := by
  unfold insN
  rw [List.length_append, List.length_cons, List.length_take, List.length_drop]; omega
theorem sortN_snoc (l : List Nm) (x : Nm) : sortN (l ++ [x]) = insN x (sortN l) := by unfold sortN; rw [List.foldl_append]; rfl
theorem foldl_len : ∀ (l o : List Nm), (l.foldl (fun o x => insN x o) o).length = l.length + o.length
  | [], o => by simp
  | x :: l, o => by rw [List.foldl_cons, foldl_len l, insN_len, List.length_cons]; omega
theorem sortN_len (l : List Nm) : (sortN l).length = l.length := by unfold sortN; rw [foldl_len]; simp
/-- A row with a place t that is free. -/
def mid (out : List Nm) (t : Nat) (z : Nm) : List Nm := out.take t ++ z :: out.drop t
theorem mid_get {out : List Nm} {t j : Nat} {z : Nm} (h : j < t) (ht : t ≤ out.length) : (mid out t z)[j]? = out[j]? := by
  unfold mid
  rw [List.getElem?_append_left (by rw [List.length_take]; omega), List.getElem?_take, if_pos h]
theorem mid_set {out : List Nm} {t : Nat} {z y : Nm} (ht : t ≤ out.length) : (mid out t z).set t y = mid out t y := by
  unfold mid
  rw [List.set_append_right _ _ (by rw [List.length_take]; omega), List.length_take, show t - min t out.length = 0 by omega]
  rfl
theorem mid_down {out : List Nm} {t : Nat} {y : Nm} (h0 : 0 < t) (hy : out[t - 1]? = some y) : mid out t y = mid out (t - 1) y := by
  obtain ⟨s, rfl⟩ : ∃ s, t = s + 1 := ⟨t - 1, by omega⟩
  simp only [Nat.add_sub_cancel] at hy ⊢
  have hl := lt_of_get hy
  unfold mid
  rw [take_snoc hy, List.append_assoc, List.drop_eq_getElem_cons hl]
  rw [List.getElem?_eq_getElem hl] at hy
  injection hy with hy
  rw [hy]; rfl
theorem mid_len {out : List Nm} {t : Nat} {z : Nm} : (mid out t z).length = out.length + 1 := by
  unfold mid
  rw [List.length_append, List.length_cons, List.length_take, List.length_drop]; omega
theorem gtr_run (a b : Nm) (w : World) : (binOp .gtr 9 (.string a.p) (.string b.p)).run Tryz.prog w = .ok (.bool (gtN a b)) w := by
  simp [binOp, Op.stringOp, gtN]
theorem own_two {w : World} {base g n cap t : Nat} {xs : List Nm} {y : Nm} (h : OwnR w base 111 2 (.slice (some ⟨g, 0, none⟩) n cap) (xs.map Nm.cells)) (hn : xs.length = n) (ht : t < n) :
    OwnR ((w.setCell ⟨g, t * 2, none⟩ (.string y.p)).setCell ⟨g, t * 2 + 1, none⟩ (.int .i64 y.f)) base 111 2 (.slice (some ⟨g, 0, none⟩) n cap) ((xs.set t y).map Nm.cells) := by
  have hm : (xs.map Nm.cells).length = n := by rw [List.length_map]; exact hn
  have h0 : (xs.map Nm.cells)[t]? = some (Nm.cells xs[t]) := by rw [List.getElem?_map, List.getElem?_eq_getElem (by omega)]; rfl
  have h1 := own_set h hm h0 (k := 0) (by decide) (.string y.p)
  have h2 := own_set h1 (by rw [List.length_set]; exact hm) (i := t) (cs := (Nm.cells xs[t]).set 0 (.string y.p)) (by rw [List.getElem?_set_self (by omega)]) (k := 1) (by decide) (.int .i64 y.f)
  rw [List.set_set] at h2
  rw [List.map_set]
  exact h2
set_option maxRecDepth 100000 in
set_option maxHeartbeats 8000000 in
theorem sorted_any (v : Value) (l : List Nm) (w : World) (h : Reads w 111 2 v (l.map Nm.cells)) (hl : l.length ≤ 1000000) :
    Calls Tryz.prog 68 #[v] w fun e w' => ∃ v', e = .returned v' ∧ OwnR w' w.heap.size 111 2 v' ((sortN l).map Nm.cells) ∧ Below w.heap.size w w' := by
  obtain ⟨A, c, hv⟩ := h.len
  rw [List.length_map] at hv
  have HSRC : Hid (∀ k x, l[k]? = some x → ∃ g, A = some ⟨g, 0, none⟩ ∧ l.length ≤ c ∧ g < w.heap.size ∧ w.cell? ⟨g, k * 2, none⟩ = some (.string x.p) ∧ w.cell? ⟨g, k * 2 + 1, none⟩ = some (.int .i64 x.f)) := Lib.hid fun k x hx => by
    obtain ⟨g, cap, hv2, hcap, hcell⟩ := h.at_ (k := k) (cs := x.cells) (by rw [List.getElem?_map, hx]; rfl)
    have hgw : g < w.heap.size := by
      rcases h with ⟨h0, _⟩ | ⟨g', cap', hv', he⟩
      · rw [List.map_eq_nil_iff] at h0; subst h0; simp at hx
      · rw [hv2] at hv'; injection hv' with e1 _ _; injection e1 with e1; injection e1 with e1 _ _; rw [e1]; exact he.lt
    rw [hv, List.length_map] at hv2
    injection hv2 with e1 _ e3
    subst e1; subst e3
    rw [List.length_map] at hcap
    exact ⟨g, rfl, hcap, hgw, hcell 0 _ rfl, hcell 1 _ rfl⟩
  subst hv
  clear h
  go_enter Tryz.func68, Tryz.ntmps68
  go_wp2_with fail
  go_loopw [3, 4] (fun o i wr => ∃ k : Nat, k ≤ l.length ∧ i = .int .i64 k ∧ OwnR wr w.heap.size 111 2 o ((sortN (l.take k)).map Nm.cells) ∧ Below w.heap.size w wr) (fun _ i _ => l.length - (intOf i).toNat)
  case atStart => exact ⟨0, by omega, rfl, OwnR.nil _ _ _ _, Below.refl _ _⟩
  case round =>
    obtain ⟨k, hk, rfl, ho, hb⟩ := hrel
    by_cases hlt : k < l.length
    · obtain ⟨x, hx⟩ : ∃ x, l[k]? = some x := ⟨_, List.getElem?_eq_getElem hlt⟩
      obtain ⟨g, rfl, hcap, hgw, hx0, hx1⟩ := HSRC.out k x hx
      have HX : Hid (∀ Z, Below w.heap.size w Z → Z.cell? ⟨g, k * 2, none⟩ = some (.string x.p) ∧ Z.cell? ⟨g, k * 2 + 1, none⟩ = some (.int .i64 x.f)) := Lib.hid fun Z hZ => ⟨(hZ.cell (p := ⟨g, k * 2, none⟩) hgw).trans hx0, (hZ.cell (p := ⟨g, k * 2 + 1, none⟩) hgw).trans hx1⟩
      obtain ⟨out, hout⟩ : ∃ out, sortN (l.take k) = out := ⟨_, rfl⟩
      have hsn : sortN (l.take (k + 1)) = insN x out := by rw [take_snoc hx, sortN_snoc, hout]
      have hml : out.length = k := by rw [← hout, sortN_len, List.length_take]; omega
      rw [hout] at ho
      obtain ⟨A1, c1, hov⟩ := ho.reads.len
      rw [List.length_map] at hov
      subst hov
      obtain ⟨wA, rfl⟩ : ∃ wo : World, wo = wr := ⟨_, rfl⟩
      obtain ⟨hcx0, hcx1⟩ := HX.out wA hb
      have HO := Lib.hid ho; have HB := Lib.hid hb; have HSN := Lib.hid hsn
      have hk0 : (0 : Int) ≤ (k : Int) := by omega
      have hk1 : (k : Int) < (l.length : Int) := by omega
      clear ho hb hsn hout hx hx0 hx1
      have hmx : out.length ≤ 1000000 := by omega
      clear hml
      go_wp2_with fail
      go_loopw [5] (fun q wz => ∃ j nn : Nat, q = .int .i64 j ∧ j ≤ out.length ∧ (∀ t y, j ≤ t → out[t]? = some y → gtN y x = true) ∧ wz = wA.drewN nn) (fun q _ => (intOf q).toNat)
      case atStart => exact ⟨out.length, 0, rfl, Nat.le_refl _, fun t y ht hy => absurd (lt_of_get hy) (by omega), rfl⟩
      case round =>
        obtain ⟨j, nn, rfl, hj, hgt, rfl⟩ := hrel
        have HGT := Lib.hid hgt
        clear hgt
        by_cases hj0 : 0 < j
        · obtain ⟨y, hy⟩ : ∃ y, out[j - 1]? = some y := ⟨_, List.getElem?_eq_getElem (by omega)⟩
          obtain ⟨g1, cap1, hv1, hcap1, hcell1⟩ := HO.out.reads.at_ (k := j - 1) (cs := y.cells) (by rw [List.getElem?_map, hy]; rfl)
          rw [List.length_map] at hv1 hcap1
          injection hv1 with e1 _ e3
          subst e1; subst e3
          have hjy : wA.cell? ⟨g1, (j - 1) * 2, none⟩ = some (.string y.p) := hcell1 0 _ rfl
          obtain ⟨i, rfl⟩ : ∃ i, j = i + 1 := ⟨j - 1, by omega⟩
          simp only [Nat.add_sub_cancel] at hy hjy
          have hi1 : ((i + 1 : Nat) : Int) - 1 = (i : Int) := by omega
          have hi0 : (0 : Int) ≤ (i : Int) := by omega
          have hi2 : (i : Int) < (out.length : Int) := by omega
          have hwi : IntKind.i64.wrap (i : Int) = i := IntWalk.i64_in _ (by omega)
          clear hcell1
          have hgr := gtr_run y x
          cases hq : gtN y x
          case false =>
            rw [hq] at hgr
            have HPOS := Lib.hid (posR_is (x := x) hj HGT.out (fun y' _ hy' => by
              rw [Nat.add_sub_cancel, hy] at hy'; injection hy' with hy'; rw [← hy']; exact hq))
            go_wp2_with fail
            go_quiet (fail)
            obtain ⟨W, hW⟩ : ∃ W, (wA.drewN nn).drewN nq = W := ⟨_, rfl⟩
            have hbwa : Below wA.heap.size wA W := by rw [← hW]; exact bl_drewN (bl_drewN (Below.refl _ _) _) _
            try rw [hW]
            try rw [show wA.drewN (nn + nq) = W from hW]
            have hbW : Below w.heap.size w W := HB.out.trans (hbwa.mono HB.out.size)
            have HO1 := Lib.hid ((HO.out.keep hbwa).alloc (.cells #[.string ⟨#[]⟩, .int .i64 0] 111))
            have HB1 : Hid (Below w.heap.size w (W.alloc (.cells #[.string ⟨#[]⟩, .int .i64 0] 111))) := Lib.hid (hbW.alloc hbW.size _)
            have hWs := hbW.size
            clear hW hbwa hbW hcx0 hcx1
            go_wp2_with (first
              | (at_builtin; refine plain_append_one (.tmp 33) (.tmp 35) rfl 59 111 2 24 _ rfl Tryz.underlying59 name_info rfl (by decide) (by decide) w.heap.size _ _ [.string ⟨#[]⟩, .int .i64 0] ⟨W.heap.size, 0, none⟩ 1 rfl rfl HO1.out rfl (new_cells W _ rfl _ _) (by simp [Value.oneCell']) (by rw [List.length_map]; omega) (by simp; omega) ?_; intro v' V hown hgr hat; have hbV := HB1.out.trans (HO1.out.below hgr (B := w.heap.size) (Nat.le_refl _) (by simp; omega)); have hl9 : (out.map Nm.cells ++ [[Value.string ⟨#[]⟩, Value.int .i64 0]]).length = out.length + 1 := (by simp); have hf9 := hown.1; rw [hl9] at hf9; obtain ⟨g2, cap2, hv2, _, _⟩ := hf9.form (by omega); subst hv2; have hmd : out.map Nm.cells ++ [[Value.string ⟨#[]⟩, Value.int .i64 0]] = (mid out out.length ⟨⟨#[]⟩, 0⟩).map Nm.cells := (by unfold mid; rw [List.take_length, List.drop_length, List.map_append]; rfl); rw [hmd] at hown; have HOV := Lib.hid hown; have HBV := Lib.hid hbV; clear hown hgr hat hbV hl9 hf9 hmd)
              | fail)
            go_loopw [6] (fun q wz => ∃ (t : Nat) (z : Nm), q = .int .i64 t ∧ (i + 1) ≤ t ∧ t ≤ out.length ∧ OwnR wz w.heap.size 111 2 (.slice (some ⟨g2, 0, none⟩) (out.length + 1) cap2) ((mid out t z).map Nm.cells) ∧ Below w.heap.size w wz) (fun q _ => (intOf q).toNat)
            case atStart => exact ⟨out.length, ⟨⟨#[]⟩, 0⟩, by go_num, hj, Nat.le_refl _, HOV.out, HBV.out⟩
            case round =>
              obtain ⟨t, z, rfl, hjt, htm, hoz, hbz⟩ := hrel
              have hmz : (mid out t z)[t]? = some z := by unfold mid; rw [List.getElem?_append_right (by rw [List.length_take]; omega), List.length_take, show t - min t out.length = 0 by omega]; rfl
              obtain ⟨g3, cap3, hv3, hcap3, hcell3⟩ := hoz.reads.at_ (k := t) (cs := z.cells) (by rw [List.getElem?_map, hmz]; rfl)
              rw [List.length_map, mid_len] at hv3 hcap3
              injection hv3 with e1 _ e3
              injection e1 with e1; injection e1 with e1 _ _
              subst e1; subst e3
              have hz0 : wr.cell? ⟨g2, t * 2, none⟩ = some (.string z.p) := hcell3 0 _ rfl
              have hz1 : wr.cell? ⟨g2, t * 2 + 1, none⟩ = some (.int .i64 z.f) := hcell3 1 _ rfl
              have hzf0 := hoz.frozen (t * 2)
              have hzf1 := hoz.frozen (t * 2 + 1)
              have hg2 := (hoz.lt g2 rfl)
              have ht0 : (0 : Int) ≤ (t : Int) := by omega
              have ht1 : (t : Int) < (out.length : Int) + 1 := by omega
              have ht2 : (t : Int) < ((out.length + 1 : Nat) : Int) := by omega
              by_cases htj : (i + 1) < t
              · obtain ⟨s, rfl⟩ : ∃ s, t = s + 1 := ⟨t - 1, by omega⟩
                obtain ⟨y2, hy2⟩ : ∃ y, out[s]? = some y := ⟨_, List.getElem?_eq_getElem (by omega)⟩
                obtain ⟨g4, cap4, hv4, _, hcell4⟩ := hoz.reads.at_ (k := s) (cs := y2.cells) (by rw [List.getElem?_map, mid_get (by omega) htm, hy2]; rfl)
                rw [List.length_map, mid_len] at hv4
                injection hv4 with e1 _ e3
                injection e1 with e1; injection e1 with e1 _ _
                subst e1
                clear e3
                have hy0 : wr.cell? ⟨g2, s * 2, none⟩ = some (.string y2.p) := hcell4 0 _ rfl
                have hy1 : wr.cell? ⟨g2, s * 2 + 1, none⟩ = some (.int .i64 y2.f) := hcell4 1 _ rfl
                have hs0 : (0 : Int) ≤ (s : Int) := by omega
                have hs1 : (s : Int) < (out.length : Int) + 1 := by omega
                have hs2 : ((s + 1 : Nat) : Int) - 1 = (s : Int) := by omega
                have hs3 : (((i + 1) : Nat) : Int) < ((s + 1 : Nat) : Int) := by omega
                have hsl : s + 1 < out.length + 1 := by omega
                have hnew := own_two (y := y2) hoz mid_len hsl
                rw [mid_set htm, mid_down (by omega) (by simpa using hy2)] at hnew
                have HNEW := Lib.hid hnew; have HBZ := Lib.hid hbz
                have hBZs := hbz.size
                clear hnew hbz hoz hcell3 hcell4 hmz hy2
                go_wp2_with fail
                refine ⟨⟨s, y2, rfl, by omega, by omega, HNEW.out, HBZ.out.grown (gb_set (gb_set (World.grownBy.refl _ (some g2)) _ _) _ _) hBZs (fun k e => by injection e with e; omega)⟩, by simp [intOf]⟩
              · obtain rfl : t = (i + 1) := by omega
                obtain ⟨hxw0, hxw1⟩ := HX.out wr hbz
                have hsl : (i + 1) < out.length + 1 := by omega
                have hnew := own_two (y := x) hoz mid_len hsl
                rw [mid_set htm] at hnew
                have hfin : mid out ((i + 1)) x = insN x out := by unfold insN; rw [HPOS.out]; rfl
                rw [hfin, ← HSN.out] at hnew
                have HNEW := Lib.hid hnew; have HBZ := Lib.hid hbz
                have hBZs := hbz.size
                clear hnew hbz hoz hcell3 hmz hfin
                go_wp2_with fail
                exact ⟨⟨k + 1, hlt, by go_num, HNEW.out, HBZ.out.grown (gb_set (gb_set (World.grownBy.refl _ (some g2)) _ _) _ _) hBZs (fun k e => by injection e with e; omega)⟩, by simp [intOf]; omega⟩
          case true =>
            rw [hq] at hgr
            go_wp2_with fail
            go_quiet (fail)
            go_wp2_with fail
            refine ⟨⟨i, nn + nq, by go_num, by omega, fun t y' ht hy' => ?_, rfl⟩, by simp [intOf]⟩
            rcases Nat.lt_or_ge i t with hlt2 | hge
            · exact HGT.out t y' (by omega) hy'
            · obtain rfl : t = i := by omega
              rw [hy] at hy'; injection hy' with hy'; rw [← hy']; exact hq
        · obtain rfl : j = 0 := by omega
          have HPOS := Lib.hid (posR_is (x := x) hj HGT.out (fun y' h0 _ => absurd h0 (by omega)))
          go_wp2_with fail
          go_quiet (fail)
          obtain ⟨W, hW⟩ : ∃ W, (wA.drewN nn).drewN nq = W := ⟨_, rfl⟩
          have hbwa : Below wA.heap.size wA W := by rw [← hW]; exact bl_drewN (bl_drewN (Below.refl _ _) _) _
          try rw [hW]
          try rw [show wA.drewN (nn + nq) = W from hW]
          have hbW : Below w.heap.size w W := HB.out.trans (hbwa.mono HB.out.size)
          have HO1 := Lib.hid ((HO.out.keep hbwa).alloc (.cells #[.string ⟨#[]⟩, .int .i64 0] 111))
          have HB1 : Hid (Below w.heap.size w (W.alloc (.cells #[.string ⟨#[]⟩, .int .i64 0] 111))) := Lib.hid (hbW.alloc hbW.size _)
          have hWs := hbW.size
          clear hW hbwa hbW hcx0 hcx1
          go_wp2_with (first
            | (at_builtin; refine plain_append_one (.tmp 33) (.tmp 35) rfl 59 111 2 24 _ rfl Tryz.underlying59 name_info rfl (by decide) (by decide) w.heap.size _ _ [.string ⟨#[]⟩, .int .i64 0] ⟨W.heap.size, 0, none⟩ 1 rfl rfl HO1.out rfl (new_cells W _ rfl _ _) (by simp [Value.oneCell']) (by rw [List.length_map]; omega) (by simp; omega) ?_; intro v' V hown hgr hat; have hbV := HB1.out.trans (HO1.out.below hgr (B := w.heap.size) (Nat.le_refl _) (by simp; omega)); have hl9 : (out.map Nm.cells ++ [[Value.string ⟨#[]⟩, Value.int .i64 0]]).length = out.length + 1 := (by simp); have hf9 := hown.1; rw [hl9] at hf9; obtain ⟨g2, cap2, hv2, _, _⟩ := hf9.form (by omega); subst hv2; have hmd : out.map Nm.cells ++ [[Value.string ⟨#[]⟩, Value.int .i64 0]] = (mid out out.length ⟨⟨#[]⟩, 0⟩).map Nm.cells := (by unfold mid; rw [List.take_length, List.drop_length, List.map_append]; rfl); rw [hmd] at hown; have HOV := Lib.hid hown; have HBV := Lib.hid hbV; clear hown hgr hat hbV hl9 hf9 hmd)
            | fail)
          go_loopw [6] (fun q wz => ∃ (t : Nat) (z : Nm), q = .int .i64 t ∧ 0 ≤ t ∧ t ≤ out.length ∧ OwnR wz w.heap.size 111 2 (.slice (some ⟨g2, 0, none⟩) (out.length + 1) cap2) ((mid out t z).map Nm.cells) ∧ Below w.heap.size w wz) (fun q _ => (intOf q).toNat)
          case atStart => exact ⟨out.length, ⟨⟨#[]⟩, 0⟩, by go_num, hj, Nat.le_refl _, HOV.out, HBV.out⟩
          case round =>
            obtain ⟨t, z, rfl, hjt, htm, hoz, hbz⟩ := hrel
            have hmz : (mid out t z)[t]? = some z := by unfold mid; rw [List.getElem?_append_right (by rw [List.length_take]; omega), List.length_take, show t - min t out.length = 0 by omega]; rfl
            obtain ⟨g3, cap3, hv3, hcap3, hcell3⟩ := hoz.reads.at_ (k := t) (cs := z.cells) (by rw [List.getElem?_map, hmz]; rfl)
            rw [List.length_map, mid_len] at hv3 hcap3
            injection hv3 with e1 _ e3
            injection e1 with e1; injection e1 with e1 _ _
            subst e1; subst e3
            have hz0 : wr.cell? ⟨g2, t * 2, none⟩ = some (.string z.p) := hcell3 0 _ rfl
            have hz1 : wr.cell? ⟨g2, t * 2 + 1, none⟩ = some (.int .i64 z.f) := hcell3 1 _ rfl
            have hzf0 := hoz.frozen (t * 2)
            have hzf1 := hoz.frozen (t * 2 + 1)
            have hg2 := (hoz.lt g2 rfl)
            have ht0 : (0 : Int) ≤ (t : Int) := by omega
            have ht1 : (t : Int) < (out.length : Int) + 1 := by omega
            have ht2 : (t : Int) < ((out.length + 1 : Nat) : Int) := by omega
            by_cases htj : 0 < t
            · obtain ⟨s, rfl⟩ : ∃ s, t = s + 1 := ⟨t - 1, by omega⟩
              obtain ⟨y2, hy2⟩ : ∃ y, out[s]? = some y := ⟨_, List.getElem?_eq_getElem (by omega)⟩
              obtain ⟨g4, cap4, hv4, _, hcell4⟩ := hoz.reads.at_ (k := s) (cs := y2.cells) (by rw [List.getElem?_map, mid_get (by omega) htm, hy2]; rfl)
              rw [List.length_map, mid_len] at hv4
              injection hv4 with e1 _ e3
              injection e1 with e1; injection e1 with e1 _ _
              subst e1
              clear e3
              have hy0 : wr.cell? ⟨g2, s * 2, none⟩ = some (.string y2.p) := hcell4 0 _ rfl
              have hy1 : wr.cell? ⟨g2, s * 2 + 1, none⟩ = some (.int .i64 y2.f) := hcell4 1 _ rfl
              have hs0 : (0 : Int) ≤ (s : Int) := by omega
              have hs1 : (s : Int) < (out.length : Int) + 1 := by omega
              have hs2 : ((s + 1 : Nat) : Int) - 1 = (s : Int) := by omega
              have hs3 : ((0 : Nat) : Int) < ((s + 1 : Nat) : Int) := by omega
              have hsl : s + 1 < out.length + 1 := by omega
              have hnew := own_two (y := y2) hoz mid_len hsl
              rw [mid_set htm, mid_down (by omega) (by simpa using hy2)] at hnew
              have HNEW := Lib.hid hnew; have HBZ := Lib.hid hbz
              have hBZs := hbz.size
              clear hnew hbz hoz hcell3 hcell4 hmz hy2
              go_wp2_with fail
              refine ⟨⟨s, y2, rfl, by omega, by omega, HNEW.out, HBZ.out.grown (gb_set (gb_set (World.grownBy.refl _ (some g2)) _ _) _ _) hBZs (fun k e => by injection e with e; omega)⟩, by simp [intOf]⟩
            · obtain rfl : t = 0 := by omega
              obtain ⟨hxw0, hxw1⟩ := HX.out wr hbz
              have hsl : 0 < out.length + 1 := by omega
              have hnew := own_two (y := x) hoz mid_len hsl
              rw [mid_set htm] at hnew
              have hfin : mid out (0) x = insN x out := by unfold insN; rw [HPOS.out]; rfl
              rw [hfin, ← HSN.out] at hnew
              have HNEW := Lib.hid hnew; have HBZ := Lib.hid hbz
              have hBZs := hbz.size
              clear hnew hbz hoz hcell3 hmz hfin
              go_wp2_with fail
              exact ⟨⟨k + 1, hlt, by go_num, HNEW.out, HBZ.out.grown (gb_set (gb_set (World.grownBy.refl _ (some g2)) _ _) _ _) hBZs (fun k e => by injection e with e; omega)⟩, by simp [intOf]; omega⟩
    · obtain rfl : k = l.length := by omega
      rw [List.take_of_length_le (Nat.le_refl _)] at ho
      have HO := Lib.hid ho; have HB := Lib.hid hb
      clear ho hb
      go_wp2_with fail
      go_ret
      exact ⟨_, rfl, HO.out, HB.out⟩
end Go.Proofs.YtdbcjiapbehacaaGreatDoor.Vf
