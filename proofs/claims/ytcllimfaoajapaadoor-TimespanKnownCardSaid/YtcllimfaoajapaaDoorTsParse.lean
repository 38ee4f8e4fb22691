/-
  All parts of a span, and Parse.
-/
import Derived.Test.YtcllimfaoajapaaDoorTsSpan
namespace Go.Proofs.YtcllimfaoajapaaDoor.Ts
open Go.RowKit Go.Shelf Go.Lib

theorem not_empty {d : ByteArray} {l : List UInt8} (h : d.data.toList = l) (hl : l ≠ []) : d.toList.isEmpty = false := by
  rw [Lib.toList_data, h]
  cases l with
  | nil => exact absurd rfl hl
  | cons _ _ => rfl
theorem mk_le {l : List UInt8} {n : Nat} (h : l.length ≤ n) : (ByteArray.mk l.toArray).size ≤ n := h

theorem part_some (base B : Nat) (w0 w : World) (s r3 : ByteArray) (v : Nat) (hs : s.size ≤ 9223372036854775807) (h : Left base B w0 w s) (hp : partOf s.data.toList = some (v, r3.data.toList)) :
    Calls Tryd.prog 29 #[.pointer (some ⟨B, 0, none⟩)] w fun e w' => e = .returned (.tuple #[.int .i64 (cap v : Nat), .bool true]) ∧ Left base B w0 w' r3 := by
  have hs' : s.data.toList.length ≤ 9223372036854775807 := by rw [← size_of]; exact hs
  unfold partOf at hp
  split at hp
  · cases hp
  · rename_i hd
    split at hp
    · cases hp
    · rename_i f r hf
      have hfl := fracOf_len hf
      have h1 := dw_le dg s.data.toList
      have h2 := dw_le bl r
      have h3 := tw_le dg s.data.toList
      split at hp
      · cases hp
      · rename_i hU
        simp only [Option.some.injEq, Prod.mk.injEq] at hp
        exact part_yes base B w0 w s ⟨(s.data.toList.takeWhile dg).toArray⟩ ⟨(s.data.toList.dropWhile dg).toArray⟩ ⟨r.toArray⟩ ⟨(r.takeWhile bl).toArray⟩ ⟨(r.dropWhile bl).toArray⟩ ⟨((r.dropWhile bl).takeWhile lt).toArray⟩ r3 f _ v hs h rfl rfl (mk_le (by omega)) (mk_le (by omega)) (not_empty rfl hd) hf (mk_le (by omega)) hfl.2 rfl rfl (mk_le (by omega)) rfl hp.2.symm rfl hU (unitOf_le _) hp.1
theorem part_none (base B : Nat) (w0 w : World) (s : ByteArray) (hs : s.size ≤ 9223372036854775807) (h : Left base B w0 w s) (hp : partOf s.data.toList = none) :
    Calls Tryd.prog 29 #[.pointer (some ⟨B, 0, none⟩)] w fun e w' => e = .returned (.tuple #[.int .i64 0, .bool false]) ∧ Below base w0 w' := by
  have hs' : s.data.toList.length ≤ 9223372036854775807 := by rw [← size_of]; exact hs
  unfold partOf at hp
  split at hp
  · exact part_bare base B w0 w s hs h ‹_›
  · rename_i hd
    have h1 := dw_le dg s.data.toList
    split at hp
    · rename_i hf
      exact part_nofrac base B w0 w s ⟨(s.data.toList.takeWhile dg).toArray⟩ ⟨(s.data.toList.dropWhile dg).toArray⟩ hs h rfl rfl (mk_le (by omega)) (not_empty rfl hd) hf
    · rename_i f r hf
      have hfl := fracOf_len hf
      have h2 := dw_le bl r
      split at hp
      · rename_i hU
        exact part_nounit base B w0 w s ⟨(s.data.toList.takeWhile dg).toArray⟩ ⟨(s.data.toList.dropWhile dg).toArray⟩ ⟨r.toArray⟩ ⟨(r.takeWhile bl).toArray⟩ ⟨(r.dropWhile bl).toArray⟩ ⟨((r.dropWhile bl).takeWhile lt).toArray⟩ ⟨((r.dropWhile bl).dropWhile lt).toArray⟩ f hs h rfl rfl (mk_le (by omega)) (not_empty rfl hd) hf (mk_le (by omega)) rfl rfl (mk_le (by omega)) rfl rfl hU
      · cases hp

theorem partOf_len {l r : List UInt8} {v : Nat} (hp : partOf l = some (v, r)) : r.length < l.length := by
  unfold partOf at hp
  split at hp
  · cases hp
  · rename_i hd
    have h0 := List.length_pos_iff.mpr hd
    have h1 := tw_dw dg l
    split at hp
    · cases hp
    · rename_i f q hf
      have h2 := (fracOf_len hf).1
      have h3 := dw_le bl q
      have h4 := dw_le lt (q.dropWhile bl)
      split at hp
      · cases hp
      · simp only [Option.some.injEq, Prod.mk.injEq] at hp
        rw [← hp.2]; omega

theorem spanF_fuel : ∀ (k k' : Nat) (l : List UInt8), l.length ≤ k → l.length ≤ k' → spanF k l = spanF k' l
  | 0, k', l, h, _ => by
    have : l = [] := List.length_eq_zero_iff.mp (by omega)
    subst this
    cases k' <;> rfl
  | k + 1, 0, l, _, h => by
    have : l = [] := List.length_eq_zero_iff.mp (by omega)
    subst this
    rfl
  | k + 1, k' + 1, l, h, h' => by
    unfold spanF
    by_cases hl : l = []
    · rw [if_pos hl, if_pos hl]
    · rw [if_neg hl, if_neg hl]
      cases hp : partOf l with
      | none => rfl
      | some x =>
        obtain ⟨v, r⟩ := x
        have h1 := partOf_len hp
        have h2 := dw_le bl r
        show (spanF k (r.dropWhile bl)).map (v + ·) = (spanF k' (r.dropWhile bl)).map (v + ·)
        rw [spanF_fuel k k' (r.dropWhile bl) (by omega) (by omega)]

theorem spanF_succ (k : Nat) (l : List UInt8) : spanF (k + 1) l = if l = [] then some 0 else match partOf l with
    | none => none
    | some (v, r) => (spanF k (r.dropWhile bl)).map (v + ·) := rfl
/-- All parts of what is left. -/
def sumOf (l : List UInt8) : Option Nat := spanF l.length l
theorem sumOf_nil : sumOf [] = some 0 := rfl
theorem sumOf_none {l : List UInt8} (hl : l ≠ []) (hp : partOf l = none) : sumOf l = none := by
  unfold sumOf
  cases l with
  | nil => exact absurd rfl hl
  | cons a l => show spanF (l.length + 1) (a :: l) = none; unfold spanF; rw [if_neg hl, hp]
theorem sumOf_some {l r : List UInt8} {v : Nat} (hl : l ≠ []) (hp : partOf l = some (v, r)) : sumOf l = (sumOf (r.dropWhile bl)).map (v + ·) := by
  have h1 := partOf_len hp
  have h2 := dw_le bl r
  unfold sumOf
  cases l with
  | nil => exact absurd rfl hl
  | cons a l =>
    show spanF (l.length + 1) (a :: l) = _
    rw [spanF_succ, if_neg hl, hp]
    show (spanF l.length (r.dropWhile bl)).map (v + ·) = _
    rw [spanF_fuel l.length (r.dropWhile bl).length (r.dropWhile bl) (by simp at h1; omega) (Nat.le_refl _)]

/-- What a call for a span leaves. -/
def SpanPost (base : Nat) (w0 : World) (o : Option Nat) (e : Ending) (w' : World) : Prop := match o with
  | none => e = .returned (.tuple #[.int .i64 0, .bool false]) ∧ Below base w0 w'
  | some n => e = .returned (.tuple #[.int .i64 (cap n : Nat), .bool true]) ∧ Below base w0 w'
/-- What holds at each round's head. -/
def SpanRel (base B : Nat) (w0 : World) (tot : Option Nat) (x : Value) (wr : World) : Prop :=
  ∃ (l : ByteArray) (acc : Nat), Left base B w0 wr l ∧ l.size ≤ 9223372036854775807 ∧ x = .int .i64 (cap acc : Nat) ∧ (sumOf l.data.toList).map (acc + ·) = tot
/-- How much is left. -/
def leftLen (B : Nat) (w : World) : Nat := match w.cell? ⟨B, 0, none⟩ with
  | some (.string s) => s.size
  | _ => 0
theorem leftLen_of {base B : Nat} {w0 w : World} {s : ByteArray} (h : Left base B w0 w s) : leftLen B w = s.size := by
  unfold leftLen; rw [h.cell]

set_option maxHeartbeats 1000000 in
theorem span_any (base B : Nat) (w0 w : World) (s : ByteArray) (hs : s.size ≤ 9223372036854775807) (h : Left base B w0 w s) (hne : s.toList.isEmpty = false) :
    Calls Tryd.prog 16 #[.pointer (some ⟨B, 0, none⟩)] w (SpanPost base w0 (sumOf s.data.toList)) := by
  have hc := h.cell
  have H := Lib.hid h
  clear h
  generalize htot : sumOf s.data.toList = tot
  have HT := Lib.hid htot
  clear htot
  go_enter Tryd.func16, Tryd.ntmps16
  go_wp2
  go_loopw [4] (fun x wr => SpanRel base B w0 tot x wr) (fun _ wr => leftLen B wr)
  case atStart => exact ⟨s, 0, H.out, hs, rfl, by rw [HT.out]; simp⟩
  case round =>
    clear hc hne
    obtain ⟨l, acc, hL, hls, rfl, ht⟩ := hrel
    have hc := hL.cell
    have HL := Lib.hid hL
    have HR := Lib.hid ht
    clear hL ht
    by_cases hl : l.data.toList = []
    · have hl0 : l = ⟨#[]⟩ := mk_of l [] hl
      subst hl0
      go_wp2
      go_ret2
      have e := HR.out
      rw [sumOf_nil] at e
      rw [← e]
      exact ⟨rfl, HL.out.below⟩
    · have hle : l.toList.isEmpty = false := not_empty rfl hl
      have HN := Lib.hid hl
      clear hl
      cases hp : partOf l.data.toList with
      | none =>
        have HP := Lib.hid hp
        clear hp
        go_wp2_with fail
        refine (part_none base B w0 _ l hls HL.out HP.out).mono ?_
        rintro e w1 ⟨rfl, hB⟩
        have HB := Lib.hid hB
        clear hB
        go_wp2
        go_ret2
        have e := HR.out
        rw [sumOf_none HN.out HP.out] at e
        rw [← e]
        exact ⟨rfl, HB.out⟩
      | some y =>
        obtain ⟨v, r⟩ := y
        have hrl := partOf_len hp
        have hbl := dw_le bl r
        have hrs : (⟨r.toArray⟩ : ByteArray).size ≤ 9223372036854775807 := by rw [size_of] at hls ⊢; show r.length ≤ _; omega
        have hrs2 : (⟨(r.dropWhile bl).toArray⟩ : ByteArray).size < l.size := by rw [size_of, size_of]; show (r.dropWhile bl).length < _; omega
        have hp' : partOf l.data.toList = some (v, (⟨r.toArray⟩ : ByteArray).data.toList) := hp
        have hnew : (sumOf (r.dropWhile bl)).map ((acc + v) + ·) = tot := by
          rw [← HR.out, sumOf_some HN.out hp, Option.map_map]
          congr 1; funext x; simp [Nat.add_assoc]
        have HP := Lib.hid hp'
        have HX := Lib.hid hnew
        have hcv := cap_le v
        have hca := cap_le acc
        have hcc : cap (cap acc + cap v) = cap (acc + v) := cap_add2 _ _
        have HC := Lib.hid hcc
        clear hp hp' hnew hcc hrl hbl
        generalize hR : (⟨(r.dropWhile bl).toArray⟩ : ByteArray) = R at hrs2
        generalize hQ : (⟨r.toArray⟩ : ByteArray) = Q at HP hrs
        have HQR := Lib.hid (show R.data.toList = Q.data.toList.dropWhile bl by rw [← hR, ← hQ])
        have HRR := Lib.hid (show R.data.toList = r.dropWhile bl by rw [← hR])
        clear hR hQ
        go_wp2_with fail
        refine (part_some base B w0 _ l Q v hls HL.out HP.out).mono ?_
        rintro e w1 ⟨rfl, hL1⟩
        have HL1 := Lib.hid hL1
        clear hL1
        go_wp2_with fail
        refine (later_cap (cap acc) (cap v) _ hca hcv).mono ?_
        rintro e w2 ⟨rfl, rfl⟩
        rw [HC.out]
        go_wp2_with fail
        refine (take_bl_v base B w0 _ Q ⟨(Q.data.toList.takeWhile bl).toArray⟩ R hrs HL1.out rfl HQR.out).mono ?_
        rintro e w3 ⟨rfl, hL3⟩
        have hlen := leftLen_of hL3
        have hlen0 := leftLen_of HL.out
        have HL3 := Lib.hid hL3
        have HE := Lib.hid (show leftLen B w3 < leftLen B wr by rw [hlen, hlen0]; exact hrs2)
        clear hL3 hlen hlen0
        go_wp2
        go_roundw
        case rel => exact ⟨R, acc + v, HL3.out, by omega, rfl, by rw [HRR.out]; exact HX.out⟩
        case measure => exact HE.out

set_option maxHeartbeats 400000 in
theorem span_nil (base B : Nat) (w0 w : World) (h : Left base B w0 w ⟨#[]⟩) :
    Calls Tryd.prog 16 #[.pointer (some ⟨B, 0, none⟩)] w fun e w' => e = .returned (.tuple #[.int .i64 0, .bool false]) ∧ Below base w0 w' := by
  have hc := h.cell
  have H := Lib.hid h
  clear h
  go_enter Tryd.func16, Tryd.ntmps16
  go_wp2
  go_ret2
  exact ⟨rfl, H.out.below⟩
theorem span_none (base B : Nat) (w0 w : World) (s : ByteArray) (hs : s.size ≤ 9223372036854775807) (h : Left base B w0 w s) (ho : spanOf s.data.toList = none) :
    Calls Tryd.prog 16 #[.pointer (some ⟨B, 0, none⟩)] w fun e w' => e = .returned (.tuple #[.int .i64 0, .bool false]) ∧ Below base w0 w' := by
  by_cases hl : s.data.toList = []
  · rw [mk_of s _ hl] at h; exact span_nil base B w0 w h
  · have H := span_any base B w0 w s hs h (not_empty rfl hl)
    unfold spanOf at ho
    rw [if_neg hl] at ho
    rw [show sumOf s.data.toList = none from ho] at H
    exact H
theorem span_some (base B : Nat) (w0 w : World) (s : ByteArray) (n : Nat) (hs : s.size ≤ 9223372036854775807) (h : Left base B w0 w s) (ho : spanOf s.data.toList = some n) :
    Calls Tryd.prog 16 #[.pointer (some ⟨B, 0, none⟩)] w fun e w' => e = .returned (.tuple #[.int .i64 (cap n : Nat), .bool true]) ∧ Below base w0 w' := by
  unfold spanOf at ho
  by_cases hl : s.data.toList = []
  · rw [if_pos hl] at ho; cases ho
  · have H := span_any base B w0 w s hs h (not_empty rfl hl)
    rw [if_neg hl] at ho
    rw [show sumOf s.data.toList = some n from ho] at H
    exact H

theorem trim_any (s t : ByteArray) (w : World) (hs : s.size ≤ 9223372036854775807) (ht : t.data.toList = trim s.data.toList) :
    Calls Tryd.prog 15 #[.string s, .string ⟨#[32, 9]⟩] w fun e w' => e = .returned (.string t) ∧ Below w.heap.size w w' := by
  have hcon := Any.strings_Trim_laid Tryd.lays160 (by kernel_rfl) s ⟨#[32, 9]⟩ w hs (by decide) (ascii_of_all (by decide))
  rw [mk_of t _ ht]
  exact hcon
theorem trim_le (l : List UInt8) : (trim l).length ≤ l.length := by
  unfold trim Lib.trimS Lib.trimLeftS Lib.trimRightS
  refine Nat.le_trans (dw_le _ _) ?_
  rw [List.length_reverse]
  refine Nat.le_trans (dw_le _ _) ?_
  rw [List.length_reverse]
  exact Nat.le_refl _

/-- A fresh variable that holds a text. -/
theorem Left.fresh {w w1 : World} (hb : Below w.heap.size w w1) (t : ByteArray) (T : TypeId) : Left w.heap.size w1.heap.size w (w1.alloc (.cells #[.string t] T)) t where
  low := hb.size
  in' := by simp
  cell := by simp [go_sem]
  free := by simp [go_sem]
  below := hb.alloc hb.size _

set_option maxHeartbeats 400000 in
theorem parse_never (s : ByteArray) (w : World) (hs : s.size ≤ 9223372036854775807) (ht : trim s.data.toList = never) :
    Calls Tryd.prog 10 #[.string s] w fun e w' => e = .returned (.tuple #[.int .i64 9223372036854775807, .int .i64 0]) ∧ Below w.heap.size w w' := by
  have HT := Lib.hid ht
  clear ht
  go_enter Tryd.func10, Tryd.ntmps10
  go_wp2_with fail
  refine (trim_any s ⟨#[105, 110, 102, 105, 110, 105, 116, 121]⟩ _ hs HT.out.symm).mono ?_
  rintro e w1 ⟨rfl, hB⟩
  have HB := Lib.hid hB
  clear hB
  go_wp2
  go_ret2
  exact ⟨rfl, HB.out.alloc HB.out.size _⟩

set_option maxHeartbeats 400000 in
theorem parse_none (s t : ByteArray) (w : World) (hs : s.size ≤ 9223372036854775807) (ht : t.data.toList = trim s.data.toList) (hts : t.size ≤ 9223372036854775807) (hn : (t.toList == never) = false) (ho : spanOf t.data.toList = none) :
    Calls Tryd.prog 10 #[.string s] w fun e w' => e = .returned (.tuple #[.int .i64 0, .int .i64 20]) ∧ Below w.heap.size w w' := by
  unfold never at hn
  have HT := Lib.hid ht
  have HO := Lib.hid ho
  clear ht ho
  go_enter Tryd.func10, Tryd.ntmps10
  go_wp2_with fail
  refine (trim_any s t _ hs HT.out).mono ?_
  rintro e w1 ⟨rfl, hB⟩
  have HB := Lib.hid hB
  clear hB
  go_wp2_with fail
  refine (span_none w.heap.size w1.heap.size w _ t hts (Left.fresh HB.out t _) HO.out).mono ?_
  rintro e w2 ⟨rfl, hB⟩
  have HB2 := Lib.hid hB
  clear hB
  go_wp2
  go_ret2
  exact ⟨rfl, HB2.out⟩

set_option maxHeartbeats 400000 in
theorem parse_great (s t : ByteArray) (n : Nat) (w : World) (hs : s.size ≤ 9223372036854775807) (ht : t.data.toList = trim s.data.toList) (hts : t.size ≤ 9223372036854775807) (hn : (t.toList == never) = false) (ho : spanOf t.data.toList = some n) (hg : cap n = 9223372036854775807) :
    Calls Tryd.prog 10 #[.string s] w fun e w' => e = .returned (.tuple #[.int .i64 0, .int .i64 6]) ∧ Below w.heap.size w w' := by
  unfold never at hn
  have HT := Lib.hid ht
  have HO := Lib.hid ho
  have HG := Lib.hid hg
  clear ht ho hg
  go_enter Tryd.func10, Tryd.ntmps10
  go_wp2_with fail
  refine (trim_any s t _ hs HT.out).mono ?_
  rintro e w1 ⟨rfl, hB⟩
  have HB := Lib.hid hB
  clear hB
  go_wp2_with fail
  refine (span_some w.heap.size w1.heap.size w _ t n hts (Left.fresh HB.out t _) HO.out).mono ?_
  rw [HG.out]
  rintro e w2 ⟨rfl, hB⟩
  have HB2 := Lib.hid hB
  clear hB
  go_wp2
  go_ret2
  exact ⟨rfl, HB2.out⟩

set_option maxHeartbeats 400000 in
theorem parse_fine (s t : ByteArray) (n : Nat) (w : World) (hs : s.size ≤ 9223372036854775807) (ht : t.data.toList = trim s.data.toList) (hts : t.size ≤ 9223372036854775807) (hn : (t.toList == never) = false) (ho : spanOf t.data.toList = some n) (hg : cap n = n) (hz : ((n : Int) == 9223372036854775807) = false) :
    Calls Tryd.prog 10 #[.string s] w fun e w' => e = .returned (.tuple #[.int .i64 (n : Int), .int .i64 0]) ∧ Below w.heap.size w w' := by
  unfold never at hn
  have HT := Lib.hid ht
  have HO := Lib.hid ho
  have HG := Lib.hid hg
  clear ht ho hg
  go_enter Tryd.func10, Tryd.ntmps10
  go_wp2_with fail
  refine (trim_any s t _ hs HT.out).mono ?_
  rintro e w1 ⟨rfl, hB⟩
  have HB := Lib.hid hB
  clear hB
  go_wp2_with fail
  refine (span_some w.heap.size w1.heap.size w _ t n hts (Left.fresh HB.out t _) HO.out).mono ?_
  rw [HG.out]
  rintro e w2 ⟨rfl, hB⟩
  have HB2 := Lib.hid hB
  clear hB
  go_wp2
  go_ret2
  exact ⟨rfl, HB2.out⟩

/-- Parse, of any text. -/
theorem parse_any (s : ByteArray) (w : World) (hs : s.size ≤ 9223372036854775807) :
    Calls Tryd.prog 10 #[.string s] w fun e w' => e = .returned (.tuple #[.int .i64 (parsed s.data.toList).1, .int .i64 (parsed s.data.toList).2]) ∧ Below w.heap.size w w' := by
  unfold parsed
  by_cases hn : trim s.data.toList = never
  · rw [if_pos hn]; exact parse_never s w hs hn
  · rw [if_neg hn]
    have hts : (⟨(trim s.data.toList).toArray⟩ : ByteArray).size ≤ 9223372036854775807 := mk_le (Nat.le_trans (trim_le _) (by rw [← size_of]; exact hs))
    have hn' := name_ne (s := ⟨(trim s.data.toList).toArray⟩) hn
    cases ho : spanOf (trim s.data.toList) with
    | none => exact parse_none s ⟨(trim s.data.toList).toArray⟩ w hs rfl hts hn' ho
    | some n =>
      by_cases hg : 9223372036854775807 ≤ n
      · show Calls _ _ _ _ fun e w' => e = .returned (.tuple #[.int .i64 (if 9223372036854775807 ≤ n then ((0, 6) : Int × Int) else ((n : Int), 0)).1, .int .i64 (if 9223372036854775807 ≤ n then ((0, 6) : Int × Int) else ((n : Int), 0)).2]) ∧ _
        rw [if_pos hg]
        exact parse_great s ⟨(trim s.data.toList).toArray⟩ n w hs rfl hts hn' ho (by unfold cap; omega)
      · show Calls _ _ _ _ fun e w' => e = .returned (.tuple #[.int .i64 (if 9223372036854775807 ≤ n then ((0, 6) : Int × Int) else ((n : Int), 0)).1, .int .i64 (if 9223372036854775807 ≤ n then ((0, 6) : Int × Int) else ((n : Int), 0)).2]) ∧ _
        rw [if_neg hg]
        exact parse_fine s ⟨(trim s.data.toList).toArray⟩ n w hs rfl hts hn' ho (by unfold cap; omega) (by rw [beq_eq_false_iff_ne]; omega)

end Go.Proofs.YtcllimfaoajapaaDoor.Ts
