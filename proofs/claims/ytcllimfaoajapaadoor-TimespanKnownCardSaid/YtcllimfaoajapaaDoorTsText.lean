/-
  Text: what it answers of any number.
-/
import Derived.Test.YtcllimfaoajapaaDoorTsTextPlain
import Derived.Test.YtcllimfaoajapaaDoorTsParse
import Derived.Deep.RegionHeld3
import Derived.Deep.AppendLies
import Derived.OwnWalk
import Derived.Laws.Pointers
import Derived.KernelRfl
import Derived.Lib.AppendIntMem
import Derived.Lib.BufferOwn
import Derived.Laws.Concat
namespace Go.Proofs.YtcllimfaoajapaaDoor.Ts
open Go.RowKit Go.Shelf

set_option maxHeartbeats 400000 in
theorem text_below (n : Int) (w : World) (h : n < 0) :
    Calls Tryd.prog 12 #[.int .i64 n] w fun e w' => e = .returned (.string ⟨#[]⟩) ∧ Below w.heap.size w w' := by
  go_enter Tryd.func12, Tryd.ntmps12
  go_wp2
  go_ret
  exact ⟨rfl, Below.refl _ _⟩
set_option maxHeartbeats 400000 in
theorem text_zero (w : World) :
    Calls Tryd.prog 12 #[.int .i64 0] w fun e w' => e = .returned (.string ⟨#[48]⟩) ∧ Below w.heap.size w w' := by
  go_enter Tryd.func12, Tryd.ntmps12
  go_wp2
  go_ret
  exact ⟨rfl, Below.refl _ _⟩
set_option maxHeartbeats 400000 in
theorem text_never (w : World) :
    Calls Tryd.prog 12 #[.int .i64 9223372036854775807] w fun e w' => e = .returned (.string ⟨#[105, 110, 102, 105, 110, 105, 116, 121]⟩) ∧ Below w.heap.size w w' := by
  go_enter Tryd.func12, Tryd.ntmps12
  go_wp2
  go_ret
  exact ⟨rfl, Below.refl _ _⟩

theorem tabAt (w w' : World) (h : Lib.TabIs Tryd.prog w "internal/strconv.uint64pow10" .u64 Lib.pow10Tab) (hb : Below w.heap.size w w') : Lib.TabIs Tryd.prog w' "internal/strconv.uint64pow10" .u64 Lib.pow10Tab :=
  by
  unfold Lib.TabIs World.var? at h ⊢
  cases hg : Tryd.prog.globalNamed "internal/strconv.uint64pow10" with
  | none => rw [hg] at h; cases h
  | some g =>
    rw [hg] at h
    simp only [Option.bind_some] at h ⊢
    have hlt : g < w.heap.size := by
      rcases Nat.lt_or_ge g w.heap.size with h' | h'
      · exact h'
      · rw [Array.getElem?_eq_none h'] at h; cases h
    rw [hb.block g hlt]
    exact h

theorem info_str : (Tryd.prog.info? 9).map (fun i => (i.zero, i.size, i.bytes)) = some (some (.string ⟨#[]⟩), 1, 16) := by kernel_rfl

/-- The digits of a number from 0 on, as FormatInt tells them. -/
theorem fmt_k (W u : World) (q : Nat) (ds : ByteArray) (hq : q ≤ 9223372036854775807) (hds : ds.data.toList = Lib.decDigits q) (ht : Lib.TabIs Tryd.prog W "internal/strconv.uint64pow10" .u64 Lib.pow10Tab) (hk : Below W.heap.size W u) :
    Calls Tryd.prog 19 #[.int .i64 (q : Int), .int .i64 10] u fun e w' => e = .returned (.string ds) ∧ Below W.heap.size W w' := by
  refine (Tryd.strconv_FormatInt_10 (q : Int) (by omega) (by omega) u (tabAt W u ht hk)).mono ?_
  rintro e w' ⟨rfl, k, os, rfl⟩
  refine ⟨?_, hk.trans (Lib.below_grow W.heap.size u hk.size k os)⟩
  rw [mk_of ds _ hds]
  simp [Lib.itoa]

theorem ownB {w w' : World} {base e size n : Nat} {v : Value} {xs : List Value} (h : w.ownsRow base e size v n xs) (hb : Below w.heap.size w w') : w'.ownsRow base e size v n xs :=
  h.kept (Lib.grownBy_below (World.grownBy.refl w none) hb) (by cases v.ownBlock <;> simp)
theorem keepA {W w' w1 : World} {o : Obj} {ub b j : Nat} {row : Option Nat} {x : Value} (hub : W.heap.size = ub + 1) (hW0 : W.cell? ⟨ub, j, none⟩ = some x) (ha : ∀ k, row = some k → b ≤ k ∧ k < ub) (hk : Below W.heap.size W w') (hg : (w'.alloc o).grownBy w1 row) : w1.cell? ⟨ub, j, none⟩ = some x :=
  hg.cell (a := ⟨ub, j, none⟩) (by rw [(hk.alloc hk.size o).cell (p := ⟨ub, j, none⟩) (by rw [hub]; show ub < ub + 1; omega)]; exact hW0) (by intro e; have := ha ub e.symm; omega)
theorem keepB {wT W w' w1 : World} {o : Obj} {ub b : Nat} {row : Option Nat} (hub : W.heap.size = ub + 1) (hb : b ≤ ub) (hT : Below b wT W) (ha : ∀ k, row = some k → b ≤ k ∧ k < ub) (hk : Below W.heap.size W w') (hg : (w'.alloc o).grownBy w1 row) : Below b wT w1 :=
  ((hT.trans (hk.mono (by omega))).alloc (by have := hk.size; omega) o).grown hg (by have := hk.size; simp; omega) (fun k e => (ha k e).1)
theorem ownNext {w1 : World} {base : Nat} {v : Value} {xs ys : List (List UInt8)} {x : List UInt8} {b : ByteArray} (hy : ys = xs ++ [x]) (hb : b = ⟨x.toArray⟩) (h : w1.ownsRow base 9 1 v (xs.length + 1) (xs.map (fun l => Value.string ⟨l.toArray⟩) ++ [.string b])) : w1.ownsRow base 9 1 v ys.length (ys.map fun l => Value.string ⟨l.toArray⟩) := by
  rw [hy, List.length_append, List.map_append, List.map_cons, List.map_nil, ← hb]
  exact h
/-- A row that is not empty is a slice, whose cells are known. -/
theorem ownShape {w1 : World} {base : Nat} {v : Value} {xs : List (List UInt8)} (h : w1.ownsRow base 9 1 v xs.length (xs.map fun l => Value.string ⟨l.toArray⟩)) (hx : xs ≠ []) : ∃ g cap : Nat, v = .slice (some ⟨g, 0, none⟩) (xs.map fun l => (⟨l.toArray⟩ : ByteArray)).length cap ∧ g < w1.heap.size ∧ xs.length ≤ cap ∧ ∀ (j : Nat) x, (xs.map fun l => (⟨l.toArray⟩ : ByteArray))[j]? = some x → w1.cell? ⟨g, 0 + j, none⟩ = some (.string x) := by
  have hpos := List.length_pos_iff.mpr hx
  have h' := h
  obtain ⟨_, h | ⟨g, cap, cur, rfl, _, hg, hc, _, _, _⟩⟩ := h
  · omega
  · refine ⟨g, cap, by rw [List.length_map], (h'.lt g rfl).2, hc, fun j x hj => ?_⟩
    have hjl : j < xs.length := by
      have := (List.getElem?_eq_some_iff.mp hj).1; simpa using this
    rw [Nat.zero_add, h'.cellAt j (by omega)]
    rw [List.getElem?_map] at hj ⊢
    cases hxj : xs[j]? with
    | none => rw [hxj] at hj; cases hj
    | some y => rw [hxj] at hj; simp at hj; rw [← hj]; rfl
/-- What holds at each round's head: what is left of the number, and the parts that it has made. -/
def TextRel (n B : Nat) (wT : World) (x v i : Value) (wr : World) : Prop :=
  ∃ k : Nat, k ≤ 6 ∧ x = .int .i64 (tRem n k : Nat) ∧ i = .int .i64 k ∧ wr.ownsRow (B + 1) 9 1 v (tParts n k).length ((tParts n k).map fun l => Value.string ⟨l.toArray⟩) ∧ Below (B + 1) wT wr

/-- The table of units. -/
def unitCells : Array Value := #[Value.string { data := #[100] }, Value.int IntKind.i64 86400000000, Value.string { data := #[104] },
      Value.int IntKind.i64 3600000000, Value.string { data := #[109, 105, 110] }, Value.int IntKind.i64 60000000,
      Value.string { data := #[115] }, Value.int IntKind.i64 1000000, Value.string { data := #[109, 115] },
      Value.int IntKind.i64 1000, Value.string { data := #[117, 115] }, Value.int IntKind.i64 1]
theorem unit_cell (k : Nat) (hk : k < 6) : unitCells[k * 2]? = some (.string ⟨(uName k).toArray⟩) ∧ unitCells[k * 2 + 1]? = some (.int .i64 (uSize k : Nat)) := by
  match k, hk with
  | 0, _ => exact ⟨rfl, rfl⟩
  | 1, _ => exact ⟨rfl, rfl⟩
  | 2, _ => exact ⟨rfl, rfl⟩
  | 3, _ => exact ⟨rfl, rfl⟩
  | 4, _ => exact ⟨rfl, rfl⟩
  | 5, _ => exact ⟨rfl, rfl⟩

theorem join_at (n g m cap : Nat) (t : ByteArray) (w : World) (hn : n ≤ 9223372036854775807) (hm : (tParts n 6).length = m) (hg : g < w.heap.size) (hcap : m ≤ cap) (ht : t.data.toList = textOf n)
    (hcells : ∀ (j : Nat) x, ((tParts n 6).map fun l => (⟨l.toArray⟩ : ByteArray))[j]? = some x → w.cell? ⟨g, 0 + j, none⟩ = some (.string x)) :
    Calls Tryd.prog 20 #[.slice (some ⟨g, 0, none⟩) m cap, .string ⟨#[32]⟩] w fun e w' => e = .returned (.string t) ∧ Below w.heap.size w w' := by
  have hjoin : Lib.join (((tParts n 6).map fun l => (⟨l.toArray⟩ : ByteArray)).map (·.data.toList)) (⟨#[32]⟩ : ByteArray).data.toList = textOf n := by
    rw [List.map_map]
    unfold textOf
    congr 1
    exact List.map_id' _
  have hl6 := tParts_len n 6
  have hlen := textOf_len n hn
  have hm' : ((tParts n 6).map fun l => (⟨l.toArray⟩ : ByteArray)).length = m := by rw [List.length_map]; exact hm
  have H := Tryd.strings_Join g 0 cap ((tParts n 6).map fun l => (⟨l.toArray⟩ : ByteArray)) ⟨#[32]⟩ w hcells hg (by rw [hm']; omega) (by rw [hm']; exact hcap) (by rw [hjoin]; omega)
  rw [hjoin, hm', ← mk_of t _ ht] at H
  exact H

set_option maxRecDepth 100000 in
set_option maxHeartbeats 3200000 in
theorem text_parts (n : Nat) (w : World) (h0 : 1 ≤ n) (h1 : n ≤ 9223372036854775806) (hz : ((n : Int) == 0) = false) (hi : ((n : Int) == 9223372036854775807) = false) (hl : decide ((n : Int) < 0) = false)
    (htab : Lib.TabIs Tryd.prog w "internal/strconv.uint64pow10" .u64 Lib.pow10Tab) :
    Calls Tryd.prog 12 #[.int .i64 (n : Int)] w fun e w' => e = .returned (.string ⟨(textOf n).toArray⟩) ∧ Below w.heap.size w w' := by
  have HTab := Lib.hid htab
  clear htab
  go_enter Tryd.func12, Tryd.ntmps12
  go_wp2
  have HBT := Lib.hid ((Below.refl w.heap.size w).alloc (Nat.le_refl _) (Obj.cells unitCells 44))
  have HU := Lib.hid (fun (k : Nat) (hk : k < 12) => show (w.alloc (Obj.cells unitCells 44)).cell? ⟨w.heap.size, k, none⟩ = unitCells[k]? by simp [go_sem])
  have HSZ := Lib.hid (show (w.alloc (Obj.cells unitCells 44)).heap.size = w.heap.size + 1 by simp)
  generalize hwT : w.alloc (Obj.cells unitCells 44) = wT at HBT HU HSZ
  have hwT' := hwT
  unfold unitCells at hwT'
  rw [hwT']
  clear hwT hwT'
  generalize hB : w.heap.size = B at HU HBT HSZ ⊢
  have HB0 := Lib.hid hB
  clear hB
  go_loopw [0, 3, 24] (fun x v i wr => TextRel n B wT x v i wr) (fun _ _ i _ => 6 - (RowKit.intOf i).toNat)
  case atStart => exact ⟨0, by omega, rfl, rfl, ⟨rfl, .inl ⟨rfl, rfl⟩⟩, Below.refl _ _⟩
  case round =>
    obtain ⟨k, hk, rfl, rfl, hown, hbel⟩ := hrel
    by_cases hlt : k < 6
    · have hu := unit_cell k hlt
      have c1 : wr.cell? ⟨B, k * 2, none⟩ = some (.string ⟨(uName k).toArray⟩) := by
        rw [hbel.cell (p := ⟨B, k * 2, none⟩) (Nat.lt_succ_self B), HU.out _ (by omega)]; exact hu.1
      have c2 : wr.cell? ⟨B, k * 2 + 1, none⟩ = some (.int .i64 (uSize k : Nat)) := by
        rw [hbel.cell (p := ⟨B, k * 2 + 1, none⟩) (Nat.lt_succ_self B), HU.out _ (by omega)]; exact hu.2
      have hpos := uSize_pos k
      have hle := uSize_le k
      have hrem := tRem_le n k
      have HOwn := Lib.hid hown
      have HBel := Lib.hid hbel
      have hwrs : B + 1 ≤ wr.heap.size := by have := hbel.size; rw [HSZ.out] at this; exact this
      clear hown hbel hu
      have hNext : tRem n (k + 1) = tRem n k % uSize k := rfl
      have HNext := Lib.hid hNext
      clear hNext
      by_cases hq : 0 < tRem n k / uSize k
      · have HYes := Lib.hid (tParts_yes hq)
        have HLen := Lib.hid (tPart_len n k (by omega))
        have HPL := Lib.hid (tParts_len n k)
        have HPart := Lib.hid (show tPart n k = Lib.decDigits (tRem n k / uSize k) ++ uName k from rfl)
        generalize tRem n k = x at *
        generalize uSize k = u at *
        have hqe : (x : Int) / (u : Int) = ((x / u : Nat) : Int) := by simp
        have hqb : x / u ≤ x := Nat.div_le_self _ _
        generalize x / u = q at *
        have hqd : decide (0 < (q : Int)) = true := decide_eq_true (by omega)
        generalize hnm : (⟨(uName k).toArray⟩ : ByteArray) = nm at *
        have HNM := Lib.hid (show nm.data.toList = uName k by rw [← hnm])
        clear hnm
        generalize hds : (⟨(Lib.decDigits q).toArray⟩ : ByteArray) = ds
        have HDS := Lib.hid (show ds.data.toList = Lib.decDigits q by rw [← hds])
        clear hds
        have hsz : ds.size + nm.size ≤ 9223372036854775807 := by
          have := HLen.out
          rw [HPart.out, List.length_append] at this
          rw [size_of, size_of, HDS.out, HNM.out]; omega
        go_wp2_with fail
        have ag := HOwn.out.lt
        generalize hub : wr.heap.size = ub at *
        have hW0 : (wr.alloc (Obj.cells #[Value.string nm, Value.int IntKind.i64 u] 44)).cell? ⟨ub, 0, none⟩ = some (.string nm) := by subst hub; simp [go_sem]
        have hW1 : (wr.alloc (Obj.cells #[Value.string nm, Value.int IntKind.i64 u] 44)).cell? ⟨ub, 1, none⟩ = some (.int .i64 u) := by subst hub; simp [go_sem]
        have hWs : (wr.alloc (Obj.cells #[Value.string nm, Value.int IntKind.i64 u] 44)).heap.size = ub + 1 := by subst hub; simp
        have hWo := HOwn.out.alloc (Obj.cells #[Value.string nm, Value.int IntKind.i64 u] 44)
        have hWb : Below (B + 1) wT (wr.alloc (Obj.cells #[Value.string nm, Value.int IntKind.i64 u] 44)) := HBel.out.alloc (by omega) _
        generalize wr.alloc (Obj.cells #[Value.string nm, Value.int IntKind.i64 u] 44) = W at *
        obtain ⟨i0, hi0, hz0, hz1, hz2⟩ := info_parts info_str
        have hWt : Lib.TabIs Tryd.prog W "internal/strconv.uint64pow10" .u64 Lib.pow10Tab := by
          refine tabAt w W HTab.out ?_
          rw [HB0.out]
          exact HBT.out.trans (hWb.mono (by omega))
        have HT := Lib.hid hWt
        have HO := Lib.hid hWo
        have HB := Lib.hid hWb
        have HS := Lib.hid hWs
        have HA := Lib.hid ag
        clear hWt hWo hWb hWs ag
        have hadd : ∀ w', (Op.stringOp .add ds nm).run Tryd.prog w' = .ok (.string (ds ++ nm)) w' := fun w' => run_string_add_sum w' ds nm hsz
        have HLL := Lib.hid (show (tParts n k).length + 1 ≤ maxLen ∧ ((tParts n k).length + 1) * 16 ≤ 140737488355328 by have := HPL.out; unfold maxLen; omega)
        go_region_held3 (fun u' => u'.cell? ⟨ub, 0, none⟩ = some (.string nm))
          (first
            | exact hW0
            | (rw [(show Below W.heap.size W _ by assumption).cell (p := ⟨ub, 0, none⟩) (by rw [HS.out]; show ub < ub + 1; omega)]; exact hW0)
            | exact keepA HS.out hW0 HA.out (by assumption) (by assumption)
            | go_keep)
          (first
            | (go_at_call 19; (with_reducible refine (fmt_k W _ q ds (by omega) HDS.out HT.out (by first | assumption | exact (Below.refl _ _).drew)).mono ?_); rintro e w' ⟨rfl, hk⟩)
            | (refine step_append_lies _ (by rfl) _ _ _ (by rfl) (B + 1) 9 i0 _ 1 16 Tryd.underlying34 hi0 hz0 hz1 hz2 rfl (by omega) u3 (tParts n k).length ((tParts n k).map fun l => Value.string ⟨l.toArray⟩) (by rfl) ((ownB HO.out (by assumption)).alloc _) ⟨_, 0, none⟩ 1 1 [.string (ds ++ nm)] (by rfl) (by rfl) (World.news_of_block (cs := #[.string (ds ++ nm)]) (t := 9) (fr := (0, 0)) (heap_alloc_new _ _)) (by simp [Value.oneCell']) (by omega) HLL.out.1 HLL.out.2 (by have := hk.size; rw [HS.out] at this; simp; omega) _ rfl ?_; intro gg cap w1 hown1 hgrow hat hlt))
        have hc1 := keepA HS.out hW1 HA.out hk hgrow
        have HB1 := Lib.hid (keepB HS.out (by omega) HB.out HA.out hk hgrow)
        have HO1 := Lib.hid hown1
        clear hown1 hgrow hat hk
        go_wp2
        go_roundw
        case rel => exact ⟨k + 1, by omega, by rw [HNext.out]; simp, by go_num, ownNext HYes.out (mk_of (ds ++ nm) _ (by rw [HPart.out, ← HDS.out, ← HNM.out]; simp)) HO1.out, HB1.out⟩
        case measure => simp [RowKit.intOf]; omega
      · have HNo := Lib.hid (tParts_no hq)
        generalize tRem n k = x at *
        generalize uSize k = u at *
        have hqe : (x : Int) / (u : Int) = 0 := by
          have : (x : Int) / (u : Int) = ((x / u : Nat) : Int) := by simp
          rw [this, Nat.eq_zero_of_not_pos hq]; rfl
        go_wp2_with fail
        go_roundw
        case rel => exact ⟨k + 1, by omega, by rw [HNext.out]; simp, by go_num, by rw [HNo.out]; exact HOwn.out.alloc _, HBel.out.alloc hwrs _⟩
        case measure => simp [RowKit.intOf]; omega
    · obtain rfl : k = 6 := by omega
      have hx := tParts_six n h0
      obtain ⟨g, cap, rfl, hg, hcap, hcells⟩ := ownShape hown hx
      rw [List.length_map]
      have HC := Lib.hid hcells
      have HBel := Lib.hid hbel
      clear hown hcells hbel hx
      generalize hm : (tParts n 6).length = m at hcap ⊢
      generalize ht : (⟨(textOf n).toArray⟩ : ByteArray) = t
      have HM := Lib.hid hm
      have HT := Lib.hid (show t.data.toList = textOf n by rw [← ht])
      clear hm ht
      go_wp2_with fail
      refine (join_at n g m cap t _ (by omega) HM.out hg hcap HT.out HC.out).mono ?_
      rintro e w2 ⟨rfl, hB2⟩
      have HB2 := Lib.hid hB2
      clear hB2
      go_wp2
      go_ret
      refine ⟨ret_str (mk_of t _ HT.out), ?_⟩
      rw [HB0.out]
      have hs1 := HBel.out.size
      rw [HSZ.out] at hs1
      exact HBT.out.trans ((HBel.out.mono (by omega)).trans (HB2.out.mono (by omega)))
end Go.Proofs.YtcllimfaoajapaaDoor.Ts
