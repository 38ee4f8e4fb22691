/-
  Layer 5: the pair's do: List; do two rows of names say the same?
-/
import Derived.Test.YtdbcjiapbehacaaGreatDoorVpR
namespace Go.Proofs.YtdbcjiapbehacaaGreatDoor.Vp
open Go.RowKit Go.Maps
open Go.Proofs.YtdbcjiapbehacaaGreatDoor.Vf (Hold OwnR Owns Fs FineD Moves ret_int wpMixG_free wpMixG_turn wpMixG_end permL Reads Reads.at_ Reads.len OwnR.reads bl_drewN gb_set)

def strs (xs : List ByteArray) : List (List Value) := xs.map fun x => [.string x]
/-- The same texts, one by one. -/
def sameL (xs ys : List ByteArray) : Bool := decide (xs.map (·.toList) = ys.map (·.toList))
theorem sameL_len {xs ys : List ByteArray} (h : xs.length ≠ ys.length) : sameL xs ys = false := by
  unfold sameL
  rw [decide_eq_false_iff_not]
  intro e
  have := congrArg List.length e
  simp at this
  exact h this
set_option maxRecDepth 100000 in
set_option maxHeartbeats 2000000 in
theorem same_any (v u : Value) (xs ys : List ByteArray) (w : World) (hv : Reads w 9 1 v (strs xs)) (hu : Reads w 9 1 u (strs ys)) (hx : xs.length ≤ 1000000) :
    Calls Tryz.prog 38 #[v, u] w fun e w' => e = .returned (.bool (sameL xs ys)) ∧ ∃ m, w' = w.drewN m := by
  obtain ⟨A, ca, rfl⟩ := hv.len
  obtain ⟨B, cb, rfl⟩ := hu.len
  have ex : (strs xs).length = xs.length := List.length_map _
  have ey : (strs ys).length = ys.length := List.length_map _
  rw [ex] at hv ⊢
  rw [ey] at hu ⊢
  have HV := Lib.hid hv; have HU := Lib.hid hu
  clear hv hu ex ey
  by_cases hl : xs.length = ys.length
  · obtain ⟨bq, hbq⟩ : ∃ b, sameL xs ys = b := ⟨_, rfl⟩
    rw [hbq]
    have HBQ := Lib.hid hbq
    have HL := Lib.hid hl
    have hl1 : xs.length ≤ ys.length := by omega
    have hl2 : ys.length ≤ xs.length := by omega
    have hl3 : ((xs.length : Int) != (ys.length : Int)) = false := by rw [hl]; simp
    clear hbq hl
    go_enter Tryz.func38, Tryz.ntmps38
    go_wp2_with fail
    go_loopw [5] (fun i wr => ∃ k m : Nat, k ≤ xs.length ∧ i = .int .i64 k ∧ (∀ j, j < k → (xs[j]?).map (·.toList) = (ys[j]?).map (·.toList)) ∧ wr = w.drewN m) (fun i _ => xs.length - (intOf i).toNat)
    case atStart => exact ⟨0, 0, Nat.zero_le _, rfl, fun j hj => absurd hj (by omega), rfl⟩
    case round =>
      obtain ⟨k, m, hk, rfl, hb, rfl⟩ := hrel
      by_cases hlt : k < xs.length
      · obtain ⟨x, hxk⟩ : ∃ x, xs[k]? = some x := ⟨_, List.getElem?_eq_getElem hlt⟩
        obtain ⟨y, hyk⟩ : ∃ y, ys[k]? = some y := ⟨_, List.getElem?_eq_getElem (by omega)⟩
        obtain ⟨ga, c1, hA, hc1, hcA⟩ := HV.out.at_ (k := k) (cs := [.string x]) (by unfold strs; rw [List.getElem?_map, hxk]; rfl)
        obtain ⟨gb, c2, hB, hc2, hcB⟩ := HU.out.at_ (k := k) (cs := [.string y]) (by unfold strs; rw [List.getElem?_map, hyk]; rfl)
        rw [show (strs xs).length = xs.length from List.length_map _] at hA
        rw [show (strs ys).length = ys.length from List.length_map _] at hB
        injection hA with e1 _ e3
        subst e1; subst e3
        injection hB with e1 _ e3
        subst e1; subst e3
        have c0 : w.cell? ⟨ga, k, none⟩ = some (.string x) := by have := hcA 0 _ rfl; simpa using this
        have d0 : w.cell? ⟨gb, k, none⟩ = some (.string y) := by have := hcB 0 _ rfl; simpa using this
        have hk0 : (0 : Int) ≤ (k : Int) := by omega
        have hk1 : (k : Int) < (xs.length : Int) := by omega
        have hk2 : (k : Int) < (ys.length : Int) := by omega
        have HB := Lib.hid hb; have HX := Lib.hid hxk; have HY := Lib.hid hyk
        clear hb hxk hyk hcA hcB hc1 hc2
        cases heq : (x.toList == y.toList)
        · have hno : bq = false := by
            rw [← HBQ.out]
            unfold sameL
            rw [decide_eq_false_iff_not]
            intro e
            have e2 := congrArg (fun l : List (List UInt8) => l[k]?) e
            simp only [List.getElem?_map, HX.out, HY.out, Option.map_some, Option.some.injEq] at e2
            rw [e2] at heq
            simp at heq
          subst hno
          go_wp2_with fail
          go_quiet (fail)
          go_wp2_with fail
          go_ret
          exact ⟨rfl, m + nq, by simp [World.drewN, Nat.add_assoc]⟩
        · go_wp2_with fail
          go_quiet (fail)
          go_wp2_with fail
          refine ⟨⟨k + 1, _, hlt, by go_num, fun j hj => ?_, rfl⟩, by simp [intOf]; omega⟩
          rcases Nat.lt_or_ge j k with h | h
          · exact HB.out j h
          · obtain rfl : j = k := by omega
            rw [HX.out, HY.out]
            simpa using heq
      · obtain rfl : k = xs.length := by omega
        have hyes : bq = true := by
          rw [← HBQ.out]
          unfold sameL
          rw [decide_eq_true_eq]
          refine List.ext_getElem? fun j => ?_
          rw [List.getElem?_map, List.getElem?_map]
          rcases Nat.lt_or_ge j xs.length with h | h
          · exact hb j h
          · rw [List.getElem?_eq_none h, List.getElem?_eq_none (by omega)]
        subst hyes
        clear hb
        go_wp2_with fail
        go_ret
        exact ⟨rfl, _, rfl⟩
  · rw [sameL_len hl]
    have hl2 : (xs.length : Int) ≠ (ys.length : Int) := by omega
    have hl3 : ((xs.length : Int) != (ys.length : Int)) = true := by simpa using hl2
    go_enter Tryz.func38, Tryz.ntmps38
    go_wp2_with fail
    go_ret
    exact ⟨rfl, 0, rfl⟩

/-- A row of texts, in a block from B on. -/
structure SRow (V : World) (g n B : Nat) : Prop where
  kind : ∃ cur fr, V.heap[g]? = some (.cells cur 9 fr)
  cell : ∀ j, j < n → ∃ x, V.cell? ⟨g, j, none⟩ = some x
  thaw : ∀ j, j < n → V.frozen? ⟨g, j, none⟩ = false
  new : B ≤ g
section
variable {w W V V' : World} {P p pr g n B : Nat} {s : Pf} {l : Loc} {fs : Fs}
theorem SRow.same (h : SRow V g n B) (e : V'.heap[g]? = V.heap[g]?) : SRow V' g n B := by
  obtain ⟨cur, fr, hk⟩ := h.kind
  exact ⟨⟨cur, fr, e.trans hk⟩, fun j hj => by
    obtain ⟨x, hx⟩ := h.cell j hj
    exact ⟨x, (World.cell?_of_block (a := ⟨g, j, none⟩) e).trans hx⟩, fun j hj => (World.frozen?_of_block (a := ⟨g, j, none⟩) e).trans (h.thaw j hj), h.new⟩
theorem SRow.stay (h : SRow V g n B) (st : Stay V V') : SRow V' g n B := by
  obtain ⟨cur, fr, hk⟩ := h.kind
  exact h.same (st g cur _ fr hk (by decide))
theorem SRow.set (h : SRow V g n B) (k : Nat) (x : Value) : SRow (V.setCell ⟨g, k, none⟩ x) g n B := by
  obtain ⟨cur, fr, hk⟩ := h.kind
  refine ⟨⟨cur.setIfInBounds k x, fr, ?_⟩, fun j hj => ?_, fun j hj => (World.frozen?_setCell _ _ _ _).trans (h.thaw j hj), h.new⟩
  · show (V.heap.modify g _)[g]? = _
    rw [Array.getElem?_modify, if_pos rfl, hk]
    rfl
  · obtain ⟨y, hy⟩ := h.cell j hj
    by_cases hjk : j = k
    · subst hjk
      exact ⟨x, World.cell?_setCell_same _ _ _ hy⟩
    · exact ⟨y, (World.cell?_setCell_other _ _ _ _ (fun e => hjk (by injection e with _ e _; exact e.symm))).trans hy⟩
theorem Duo.spoilS (h : Duo w P p s l pr fs V) (hb : SRow V g n B) (hw : w.heap.size ≤ B) (k : Nat) (x : Value) : Duo w P p s l pr fs (V.setCell ⟨g, k, none⟩ x) := by
  obtain ⟨cur, fr, hk⟩ := hb.kind
  exact h.put hk (by decide) (Nat.le_trans hw hb.new) (gb_set (World.grownBy.refl V _) k x)
theorem Stay.same {t : TypeId} (h : Stay V V') (ht : alien t = true) : Vf.Same t V V' := fun g cur hg => h g cur t (0, 0) hg ht
/-- What is listed: of none, nothing. -/
def listX (s : Pf) (path : ByteArray) : List ByteArray := if findDirRes s path = 0 then (listP s path).map (fun l => ⟨l.toArray⟩) else []
theorem listX_size {T : Nat} (hf : Fits s T) (hT : T ≤ 100000) (path : ByteArray) : (listX s path).length ≤ 1000000 := by
  unfold listX
  split
  · rw [List.length_map]
    unfold listP sortB
    rw [List.length_mergeSort]
    have := nms_len path s.names
    have := hf.names
    omega
  · exact Nat.zero_le _
theorem srow_new {n c : Nat} {A : Option Addr} {xs : List (List Value)} (h : OwnR V B 9 1 (.slice A n c) xs) (hn : xs.length = n) : n = 0 ∨ ∃ g, A = some ⟨g, 0, none⟩ ∧ SRow V g n B := by
  by_cases h0 : n = 0
  · exact .inl h0
  · right
    have h1 := h.1
    rw [hn] at h1
    obtain ⟨g, c', hv, hg, hc⟩ := h1.form (by omega)
    injection hv with e1 _ e3
    subst e1; subst e3
    obtain ⟨cur, hk⟩ := h.kind (k := g) rfl
    refine ⟨g, rfl, ⟨cur, _, hk⟩, fun j hj => ?_, fun j hj => frozen_of_row V g j cur _ hk, (h.lt g rfl).1⟩
    have hxj : xs[j]? = some xs[j] := List.getElem?_eq_getElem (by omega)
    have hl := h.2 xs[j] (List.getElem_mem _)
    obtain ⟨g2, c2, hv2, _, hcell⟩ := h.reads.at_ hxj
    injection hv2 with e1 _ _
    injection e1 with e1; injection e1 with e1 _ _
    subst e1
    have := hcell 0 _ (List.getElem?_eq_getElem (by omega))
    exact ⟨_, by simpa using this⟩
theorem listF2 {T : Nat} (h : Duo w P p s l pr fs W) (hf : Fine s T) (hT : T ≤ 100000) (path : ByteArray) (ho : okS path) :
    Calls Tryz.prog 26 #[.pointer (some ⟨p, 0, none⟩), .string path] W fun e W' => (∃ A c, e = .returned (.tuple #[.slice A (listX s path).length c, .int .i64 (findDirRes s path)]) ∧ Reads W' 9 1 (.slice A (listX s path).length c) (strs (listX s path)) ∧ ((listX s path).length = 0 ∨ ∃ g, A = some ⟨g, 0, none⟩ ∧ SRow W' g (listX s path).length W.heap.size)) ∧ LeftF w P p (tickS s) pr fs W W' := by
  refine (listF h hf hT path ho).mono ?_
  rintro e W' ⟨⟨v, he, hv⟩, hL⟩
  refine ⟨?_, hL⟩
  unfold listX
  rcases hv with ⟨h0, rfl⟩ | ⟨h0, hb⟩
  · rw [if_neg h0]
    exact ⟨none, 0, he, .inl ⟨rfl, none, 0, rfl⟩, .inl rfl⟩
  · rw [if_pos h0]
    have e1 : (listP s path).map (fun x => [encStr x]) = strs ((listP s path).map fun l => ⟨l.toArray⟩) := by unfold strs; rw [List.map_map]; rfl
    rw [e1] at hb
    obtain ⟨A, c, rfl⟩ := hb.reads.len
    have el : (strs ((listP s path).map fun l => (⟨l.toArray⟩ : ByteArray))).length = ((listP s path).map fun l => (⟨l.toArray⟩ : ByteArray)).length := List.length_map _
    rw [el] at hb he
    exact ⟨A, c, he, hb.reads, srow_new hb el⟩
set_option maxRecDepth 100000 in
set_option maxHeartbeats 4000000 in
theorem do_list {T t : Nat} (o : Op) (hk : o.kind.tmod 11 = 7) (ha : okS o.a) (h : Duo w P p s l pr fs W) (hf : Fine s T) (hT : T ≤ 100000) (hfd : FineD fs t) (ht : t ≤ 200) :
    Calls Tryz.prog 13 #[.pointer (some ⟨P, 0, none⟩), opV o] W fun e W' => e = .returned (.bool (decide (findDirRes s o.a = (Vf.listRes fs o.a).2) && sameL (listX s o.a) (Vf.listRes fs o.a).1)) ∧ (∃ l', Duo w P p (tickS s) l' pr (Vf.beginFs fs) W') ∧ Stay W W' := by
  have hX := listX_size hf.fits hT o.a
  obtain ⟨R, hR⟩ : ∃ R, findDirRes s o.a = R := ⟨_, rfl⟩
  obtain ⟨X, hXe⟩ : ∃ X, listX s o.a = X := ⟨_, rfl⟩
  obtain ⟨⟨Y, Q⟩, hYQ⟩ : ∃ Y, Vf.listRes fs o.a = Y := ⟨_, rfl⟩
  have HF : Hid (∀ V l, Duo w P p s l pr fs V → Calls Tryz.prog 26 #[.pointer (some ⟨p, 0, none⟩), .string o.a] V fun e V' => (∃ A c, e = .returned (.tuple #[.slice A X.length c, .int .i64 R]) ∧ Reads V' 9 1 (.slice A X.length c) (strs X) ∧ (X.length = 0 ∨ ∃ g, A = some ⟨g, 0, none⟩ ∧ SRow V' g X.length V.heap.size)) ∧ LeftF w P p (tickS s) pr fs V V') := Lib.hid fun V l h => by have := listF2 h hf hT o.a ha; rwa [hR, hXe] at this
  have HG : Hid (∀ V l, Duo w P p (tickS s) l pr fs V → Calls Tryz.prog 37 #[.pointer (some ⟨pr, 0, none⟩), .string o.a] V fun e V' => (∃ v, e = .returned (.tuple #[v, .int .i64 Q]) ∧ Reads V' 9 1 v (strs Y)) ∧ LeftG w P p (tickS s) l pr (Vf.beginFs fs) V V') := Lib.hid fun V l h => by have := listG h hfd ht o.a ha; rwa [hYQ] at this
  rw [hR, hXe, hYQ]
  rw [hXe] at hX
  obtain ⟨bq, hbq⟩ : ∃ b, sameL X Y = b := ⟨_, rfl⟩
  have hq : IntKind.u8.wrap 7 = 7 := by kernel_rfl
  have HWW := Lib.hid h.one.below.size
  obtain ⟨h1, hO, hs1⟩ := box_op h o
  have hW1 : W.heap.size ≤ (W.alloc (.cells #[.int .u8 o.kind, .string o.a, .string o.b, .int .i64 o.n] 32)).heap.size := ((Below.refl W.heap.size W).alloc (Nat.le_refl _) _).size
  obtain ⟨O, hOe⟩ : ∃ O, W.heap.size = O := ⟨_, rfl⟩
  unfold opV
  clear h hf hfd hR hXe hYQ
  go_enter Tryz.func13, Tryz.ntmps13
  go_wp2_with fail
  generalize W.alloc (.cells #[.int .u8 o.kind, .string o.a, .string o.b, .int .i64 o.n] 32) = W1 at h1 hO hs1 hW1 ⊢
  have HOW := Lib.hid hW1
  rw [hOe] at hO
  try rw [hOe]
  have b0 := h1.boxF; have b1 := h1.boxG
  have o1 : W1.cell? ⟨O, 1, none⟩ = some (.string o.a) := by rw [hO.cell]; rfl
  have H1 := Lib.hid h1; have HO := Lib.hid hO; have HS := Lib.hid hs1
  clear h1 hO hs1 hW1
  refine Vf.wp_region_guard (fun z => z.cell? ⟨P, 0, none⟩ = some (.pointer (some ⟨p, 0, none⟩)) ∧ z.cell? ⟨O, 1, none⟩ = some (.string o.a)) [(0, true), (1, true), (2, true), (3, true), (4, true), (5, true), (6, false), (7, true), (8, true), (9, true), (10, true)] _ (by kernel_rfl) rfl (by kernel_rfl) (by kernel_rfl) ⟨b0, o1⟩ ?_
  simp only [permL, List.dropLast, List.getElem?_cons_zero, List.getElem?_cons_succ, List.getLast]
  repeat (apply wpMixG_free
          · rfl
          · intro z hz
            try dsimp only at hz
            go_simp
            all_goals with_reducible rfl
          simp only [Act.put, List.setIfInBounds_toArray, List.set_cons_zero, List.set_cons_succ])
  refine wpMixG_turn (by rfl) (fun K hK => ?_)
  have HK := Lib.hid hK; clear hK
  go_simp
  refine (HF.out _ _ (H1.out.keep (Below.refl _ _).drew)).mono ?_
  rintro e V1 ⟨⟨A, c, rfl, hby, hrow⟩, ⟨l1, d1⟩, st1⟩
  have hO1 := st1.hold (W := W1.drew) HO.out (by decide)
  refine HK.out _ _ ⟨d1.boxF, by rw [hO1.cell]; rfl⟩ ?_
  clear HK
  have b1' := d1.boxG
  have o1' : V1.cell? ⟨O, 1, none⟩ = some (.string o.a) := by rw [hO1.cell]; rfl
  have D1 := Lib.hid d1; have ST1 := Lib.hid ((HS.out.trans (Stay.below (Below.refl _ _).drew)).trans st1); have BY := Lib.hid hby; have HR := Lib.hid hrow
  clear d1 st1 hby hrow b0 b1 o1
  try simp only [Act.put, List.setIfInBounds_toArray, List.set_cons_zero, List.set_cons_succ]
  repeat (apply wpMixG_free
          · rfl
          · intro z hz
            try dsimp only at hz
            go_simp
            all_goals with_reducible rfl
          simp only [Act.put, List.setIfInBounds_toArray, List.set_cons_zero, List.set_cons_succ])
  refine wpMixG_end ?_
  go_simp
  go_wp2_with fail
  refine Vf.wp_region_guard (fun z => z.cell? ⟨P, 1, none⟩ = some (.pointer (some ⟨pr, 0, none⟩)) ∧ z.cell? ⟨O, 1, none⟩ = some (.string o.a)) [(0, true), (1, true), (2, true), (3, true), (4, true), (5, true), (6, false), (7, true), (8, true), (9, true), (10, true)] _ (by kernel_rfl) rfl (by kernel_rfl) (by kernel_rfl) ⟨b1', o1'⟩ ?_
  simp only [permL, List.dropLast, List.getElem?_cons_zero, List.getElem?_cons_succ, List.getLast]
  repeat (apply wpMixG_free
          · rfl
          · intro z hz
            try dsimp only at hz
            go_simp
            all_goals with_reducible rfl
          simp only [Act.put, List.setIfInBounds_toArray, List.set_cons_zero, List.set_cons_succ])
  refine wpMixG_turn (by rfl) (fun K hK => ?_)
  have HK := Lib.hid hK; clear hK
  go_simp
  refine (HG.out _ _ (D1.out.keep (Below.refl _ _).drew)).mono ?_
  rintro e V2 ⟨⟨u, rfl, hu⟩, d2, st2⟩
  have st2' : Stay V1 V2 := (Stay.below (Below.refl _ _).drew).trans st2
  have hO2 := st2'.hold hO1 (by decide)
  refine HK.out _ _ ⟨d2.boxG, by rw [hO2.cell]; rfl⟩ ?_
  clear HK
  have D2 := Lib.hid d2; have ST2 := Lib.hid (ST1.out.trans st2'); have BY2 := Lib.hid (BY.out.keep (st2'.same (by decide))); have HU := Lib.hid hu
  have HR2 : Hid (X.length = 0 ∨ ∃ g, A = some ⟨g, 0, none⟩ ∧ SRow V2 g X.length W1.heap.size) := Lib.hid (HR.out.imp id fun ⟨g, hA, hb⟩ => ⟨g, hA, hb.stay st2'⟩)
  obtain ⟨B, cb, rfl⟩ := hu.len
  have ey : (strs Y).length = Y.length := List.length_map _
  rw [ey] at HU ⊢
  clear ey hu d2 st2 st2' b1' o1'
  try simp only [Act.put, List.setIfInBounds_toArray, List.set_cons_zero, List.set_cons_succ]
  repeat (apply wpMixG_free
          · rfl
          · intro z hz
            try dsimp only at hz
            go_simp
            all_goals with_reducible rfl
          simp only [Act.put, List.setIfInBounds_toArray, List.set_cons_zero, List.set_cons_succ])
  refine wpMixG_end ?_
  go_simp
  by_cases hRQ : R = Q
  · subst hRQ
    go_wp2_with (first
      | (go_at_call 38; refine (same_any _ _ X Y _ BY2.out HU.out hX).mono ?_; rintro e w4 ⟨rfl, m, rfl⟩; rw [hbq])
      | fail)
    go_loopw [19] (fun i wr => ∃ k : Nat, k ≤ X.length ∧ i = .int .i64 k ∧ (∃ l', Duo w P p (tickS s) l' pr (Vf.beginFs fs) wr) ∧ Stay W wr ∧ (X.length = 0 ∨ ∃ g, A = some ⟨g, 0, none⟩ ∧ SRow wr g X.length W1.heap.size)) (fun i _ => X.length - (intOf i).toNat)
    case atStart => exact ⟨0, Nat.zero_le _, rfl, ⟨_, D2.out.keep (bl_drewN (Below.refl _ _) _)⟩, ST2.out.trans (Stay.below (bl_drewN (Below.refl _ _) _)), HR2.out.imp id fun ⟨g, hA, hb⟩ => ⟨g, hA, hb.stay (Stay.below (bl_drewN (Below.refl _ _) _))⟩⟩
    case round =>
      obtain ⟨k, hkn, rfl, ⟨l', hd⟩, hst, hrow⟩ := hrel
      by_cases hlt : k < X.length
      · obtain ⟨g, rfl, hbr⟩ : ∃ g, A = some ⟨g, 0, none⟩ ∧ SRow wr g X.length W1.heap.size := hrow.resolve_left (by omega)
        obtain ⟨x, hx⟩ := hbr.cell k hlt
        have hz := hbr.thaw k hlt
        have hk0 : (0 : Int) ≤ (k : Int) := by omega
        have hk1 : (k : Int) < (X.length : Int) := by omega
        have HD := Lib.hid hd; have HST := Lib.hid hst; have HBR := Lib.hid hbr
        clear hd hst hbr hrow
        go_wp2_with fail
        refine ⟨⟨k + 1, hlt, by go_num, ⟨l', HD.out.spoilS HBR.out (Nat.le_trans HWW.out HOW.out) k _⟩, stay_put HST.out (Nat.le_trans HOW.out HBR.out.new) k _, .inr ⟨g, rfl, HBR.out.set k _⟩⟩, by simp [intOf]; omega⟩
      · have HD := Lib.hid hd; have HST := Lib.hid hst
        clear hd hst hrow
        go_wp2_with fail
        go_ret
        exact ⟨ret_bool (by first | rfl | simp [hbq]), ⟨l', HD.out⟩, HST.out⟩
  · have e1 : (R == Q) = false := by simpa using hRQ
    have e2 : decide (R = Q) = false := by simpa using hRQ
    go_wp2_with fail
    go_loopw [19] (fun i wr => ∃ k : Nat, k ≤ X.length ∧ i = .int .i64 k ∧ (∃ l', Duo w P p (tickS s) l' pr (Vf.beginFs fs) wr) ∧ Stay W wr ∧ (X.length = 0 ∨ ∃ g, A = some ⟨g, 0, none⟩ ∧ SRow wr g X.length W1.heap.size)) (fun i _ => X.length - (intOf i).toNat)
    case atStart => exact ⟨0, Nat.zero_le _, rfl, ⟨_, D2.out⟩, ST2.out, HR2.out⟩
    case round =>
      obtain ⟨k, hkn, rfl, ⟨l', hd⟩, hst, hrow⟩ := hrel
      by_cases hlt : k < X.length
      · obtain ⟨g, rfl, hbr⟩ : ∃ g, A = some ⟨g, 0, none⟩ ∧ SRow wr g X.length W1.heap.size := hrow.resolve_left (by omega)
        obtain ⟨x, hx⟩ := hbr.cell k hlt
        have hz := hbr.thaw k hlt
        have hk0 : (0 : Int) ≤ (k : Int) := by omega
        have hk1 : (k : Int) < (X.length : Int) := by omega
        have HD := Lib.hid hd; have HST := Lib.hid hst; have HBR := Lib.hid hbr
        clear hd hst hbr hrow
        go_wp2_with fail
        refine ⟨⟨k + 1, hlt, by go_num, ⟨l', HD.out.spoilS HBR.out (Nat.le_trans HWW.out HOW.out) k _⟩, stay_put HST.out (Nat.le_trans HOW.out HBR.out.new) k _, .inr ⟨g, rfl, HBR.out.set k _⟩⟩, by simp [intOf]; omega⟩
      · have HD := Lib.hid hd; have HST := Lib.hid hst
        clear hd hst hrow
        go_wp2_with fail
        go_ret
        exact ⟨ret_bool (by rw [e2]; rfl), ⟨l', HD.out⟩, HST.out⟩
end
end Go.Proofs.YtdbcjiapbehacaaGreatDoor.Vp
