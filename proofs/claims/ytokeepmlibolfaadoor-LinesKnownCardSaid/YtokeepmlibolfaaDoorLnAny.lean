/-
  Layer 11 (lines): strings.ContainsAny of two ASCII bytes, in any text; the name of a section's line.
-/
import Derived.Test.YtokeepmlibolfaaDoorLnRune
namespace Go.Proofs.YtokeepmlibolfaaDoor.Ln
open Go.RowKit
set_option maxRecDepth 100000

theorem decN_cont (n b0 b1 b2 b3 : Nat) (hn : 1 ≤ n) (h : ¬ b0 < 128) : 1 ≤ (Lib.decodeN n b0 b1 b2 b3).2 ∧ (Lib.decodeN n b0 b1 b2 b3).2 ≤ n ∧ (Lib.decodeN n b0 b1 b2 b3).2 ≤ 4 ∧ (2 ≤ (Lib.decodeN n b0 b1 b2 b3).2 → 128 ≤ b1) ∧ (3 ≤ (Lib.decodeN n b0 b1 b2 b3).2 → 128 ≤ b2) ∧ (4 ≤ (Lib.decodeN n b0 b1 b2 b3).2 → 128 ≤ b3) := by
  unfold Lib.decodeN
  rw [if_neg h]
  repeat' split
  all_goals (simp only; omega)
/-- Behind a byte that is not ASCII stand such bytes, as far as its rune goes. -/
theorem dec_cont (s : ByteArray) (pos : Nat) (hp : pos < s.size) (h : ¬ (s.get! pos).toNat < 128) : 128 ≤ (Utf8.decode s pos).1 ∧ (Utf8.decode s pos).1 ≤ 1114111 ∧ 1 ≤ (Utf8.decode s pos).2 ∧ pos + (Utf8.decode s pos).2 ≤ s.size ∧ ∀ j, pos ≤ j → j < pos + (Utf8.decode s pos).2 → 128 ≤ (s.get! j).toNat := by
  have h1 := decode_high (s.size - pos) _ (s.get! (pos + 1)).toNat (s.get! (pos + 2)).toNat (s.get! (pos + 3)).toNat h
  have h2 := decN_cont (s.size - pos) _ (s.get! (pos + 1)).toNat (s.get! (pos + 2)).toNat (s.get! (pos + 3)).toNat (by omega) h
  have h3 := Lib.rune_le s pos
  rw [Lib.decode_at] at h3 ⊢
  generalize Lib.decodeN (s.size - pos) (s.get! pos).toNat (s.get! (pos + 1)).toNat (s.get! (pos + 2)).toNat (s.get! (pos + 3)).toNat = p at *
  obtain ⟨a1, a2, a3, a4, a5, a6⟩ := h2
  refine ⟨h1, h3, a1, by omega, fun j j0 j1 => ?_⟩
  have hc : j = pos ∨ j = pos + 1 ∨ j = pos + 2 ∨ j = pos + 3 := by omega
  rcases hc with rfl | rfl | rfl | rfl
  · omega
  · exact a4 (by omega)
  · exact a5 (by omega)
  · exact a6 (by omega)
theorem get_list {s : ByteArray} {j : Nat} (hj : j < s.size) : s.data.toList[j]? = some (s.get! j) := by
  rw [get_in hj]; exact Lib.data_getElem? s j hj
theorem noany_on {s : ByteArray} {chars : List UInt8} (hc : ∀ b ∈ chars, b.toNat < 128) {i d : Nat} (h : Lib.NoAny s.data.toList chars i) (hd : ∀ j, i ≤ j → j < i + d → 128 ≤ (s.get! j).toNat) : Lib.NoAny s.data.toList chars (i + d) := fun j b hj hb => by
  rcases Nat.lt_or_ge j i with h1 | h1
  · exact h j b h1 hb
  · have hjs : j < s.size := by
      rw [Lib.size_eq]
      rcases Nat.lt_or_ge j s.data.toList.length with h2 | h2
      · exact h2
      · rw [List.getElem?_eq_none h2] at hb; cases hb
    have h2 := hd j h1 hj
    rw [get_list hjs] at hb
    cases hb
    cases hcc : chars.contains (s.get! j) with
    | false => rfl
    | true =>
      have := hc _ (List.contains_iff_mem.mp hcc)
      omega
set_option maxHeartbeats 2000000 in
theorem any_short (s chars : ByteArray) (h2 : 2 ≤ chars.size) (hz : chars.size ≤ 1000) (hlow : Low chars) (h8 : s.size ≤ 8) (w : World) :
    Calls Tryd.prog 41 #[.string s, .string chars] w fun e w' => e = .returned (.int .i64 (Lib.indexAny s.data.toList chars.data.toList)) ∧ Below w.heap.size w w' := by
  have HL := Lib.hid hlow
  have hemp : chars.toList.isEmpty = false := by
    rw [Lib.toList_data]
    cases h : chars.data.toList with
    | nil => have := Lib.size_eq chars; rw [h, List.length_nil] at this; omega
    | cons _ _ => rfl
  have hn1 : ((chars.size : Int) == 1) = false := beq_eq_false_iff_ne.2 (by omega)
  have HU : Hid (∀ V, Calls Tryd.prog 55 #[.int .i64 (s.size : Int)] V fun e w' => e = .returned (.bool false) ∧ w' = V) := Lib.hid fun V => by
    have := Tryd.strings_shouldUseASCIISet (s.size : Int) V
    rwa [show decide ((8 : Int) < (s.size : Int)) = false from decide_eq_false (by omega)] at this
  clear hlow
  go_enter Tryd.func41, Tryd.ntmps41
  go_wp2_with (first | (go_at_call 55; refine (HU.out _).mono ?_; clear HU; rintro e V ⟨rfl, rfl⟩) | fail)
  go_loopg [9, 10] s.size (fun gf _ _ wx => ∃ pos : Nat, wx.heap[V.heap.size]? = some (.stringIter s pos) ∧ Below V.heap.size V wx ∧ s.size ≤ pos + gf ∧ pos ≤ s.size ∧ Lib.NoAny s.data.toList chars.data.toList pos)
  case atStart => exact ⟨0, World.iter_heap V s 0, (Below.refl _ V).alloc (Nat.le_refl _) _, by omega, by omega, Lib.NoAny.zero _ _⟩
  case round =>
    obtain ⟨pos, hit, hbw, hfu, hle, hno⟩ := hrel
    have HN := Lib.hid hno
    clear hno
    by_cases hps : pos < s.size
    · obtain ⟨g', rfl⟩ : ∃ g', gk = g' + 1 := ⟨gk - 1, by omega⟩
      have hnx : ∀ ty, (Instr.next (.pointer (some ⟨V.heap.size, 0, none⟩)) true ty).run Tryd.prog wr = _ := fun ty => Lib.run_next_any_at wr V.heap.size s pos ty hit hps
      by_cases hlo : (s.get! pos).toNat < 128
      · have hdec : Utf8.decode s pos = ((s.get! pos).toNat, 1) := by rw [Lib.decode_at, decode_low _ _ _ _ _ hlo]
        obtain ⟨x, hx⟩ : ∃ x, s.get! pos = x := ⟨_, rfl⟩
        have hxl : s.data.toList[pos]? = some x := by rw [← hx]; exact get_list hps
        rw [hdec, hx] at hnx
        rw [hx] at hlo
        have hit2 := Lib.iterAt_heap wr V.heap.size s pos (pos + 1) hit
        have hbw2 := Lib.below_iterAt hbw (k := V.heap.size) (Nat.le_refl _) s (pos + 1)
        obtain ⟨W, hWd⟩ : ∃ W, wr.iterAt V.heap.size s (pos + 1) = W := ⟨_, rfl⟩
        rw [hWd] at hit2 hbw2
        simp only [hWd] at hnx
        have HI : Hid (∀ V', Calls Tryd.prog 54 #[.string chars, .int .i32 (x.toNat : Int)] V' fun e w' => e = .returned (.int .i64 (Lib.indexByte chars.data.toList x)) ∧ w' = V') := Lib.hid fun V' => by
          have := Tryd.strings_IndexRune_ascii chars (x.toNat : Int) V' (by omega) (by omega)
          rwa [show ((x.toNat : Int)).toNat.toUInt8 = x by simp] at this
        have hcon := Lib.contains_iff_indexByte chars.data.toList x
        have HX := Lib.hid hxl
        clear hdec hlo hx hxl hWd hit hbw
        cases hin : chars.data.toList.contains x with
        | false =>
          rw [hin] at hcon
          have hlt : ¬ ((0 : Int) ≤ Lib.indexByte chars.data.toList x) := of_decide_eq_false hcon.symm
          have HN2 := Lib.hid (HN.out.succ HX.out hin)
          clear hcon hin
          generalize Lib.indexByte chars.data.toList x = ix at *
          go_wp2_with (first | (go_at_call 54; refine (HI.out _).mono ?_; clear HI; rintro e V2 ⟨rfl, rfl⟩) | fail)
          go_roundg g'
          case measure => omega
          case rel => exact ⟨pos + 1, hit2, hbw2, by omega, by omega, HN2.out⟩
        | true =>
          rw [hin] at hcon
          have hge : (0 : Int) ≤ Lib.indexByte chars.data.toList x := of_decide_eq_true hcon.symm
          have HR := Lib.hid (Lib.indexAny_hit HN.out HX.out hin)
          clear hcon hin
          generalize Lib.indexByte chars.data.toList x = ix at *
          go_wp2_with (first | (go_at_call 54; refine (HI.out _).mono ?_; clear HI; rintro e V2 ⟨rfl, rfl⟩) | fail)
          go_ret
          exact ⟨by rw [HR.out]; rfl, hbw2⟩
      · obtain ⟨e1, e2, e3, e4, e5⟩ := dec_cont s pos hps hlo
        have HN2 := Lib.hid (noany_on HL.out HN.out e5)
        obtain ⟨R, hR⟩ : ∃ R, (Utf8.decode s pos).1 = R := ⟨_, rfl⟩
        obtain ⟨d, hd⟩ : ∃ d, (Utf8.decode s pos).2 = d := ⟨_, rfl⟩
        rw [hR, hd] at hnx
        rw [hd] at HN2 e3 e4
        rw [hR] at e1 e2
        have HI : Hid (∀ V', Calls Tryd.prog 54 #[.string chars, .int .i32 (R : Int)] V' fun e w' => e = .returned (.int .i64 (-1)) ∧ Below V'.heap.size V' w') := Lib.hid fun V' => index_hi chars HL.out hz R e1 e2 V'
        have hit2 := Lib.iterAt_heap wr V.heap.size s pos (pos + d) hit
        have hbw2 := Lib.below_iterAt hbw (k := V.heap.size) (Nat.le_refl _) s (pos + d)
        have hlt := (Array.getElem?_eq_some_iff.1 hit2).1
        obtain ⟨W, hWd⟩ : ∃ W, wr.iterAt V.heap.size s (pos + d) = W := ⟨_, rfl⟩
        rw [hWd] at hit2 hbw2 hlt
        simp only [hWd] at hnx
        have HT := Lib.hid hit2
        have HB := Lib.hid hbw2
        have HLt := Lib.hid hlt
        clear hlo e5 hR hd hWd hit hbw hit2 hbw2 hlt
        go_wp2_with (first | (go_at_call 54; refine (HI.out _).mono ?_; clear HI; rintro e V2 ⟨rfl, hb⟩; have HB2 := Lib.hid hb; clear hb) | fail)
        go_roundg g'
        case measure => omega
        case rel => exact ⟨pos + d, (HB2.out.block V.heap.size HLt.out).trans HT.out, HB.out.trans (HB2.out.mono HB.out.size), by omega, by omega, HN2.out⟩
    · obtain rfl : pos = s.size := by omega
      have hnx : ∀ ty, (Instr.next (.pointer (some ⟨V.heap.size, 0, none⟩)) true ty).run Tryd.prog wr = _ := fun ty => Lib.run_next_end_at wr V.heap.size s s.size ty hit hps
      have HR := Lib.hid (Lib.indexAny_none (chars := chars.data.toList) (s := s.data.toList) (by rw [← Lib.size_eq]; exact HN.out))
      go_wp2
      go_ret
      exact ⟨by rw [HR.out]; rfl, hbw⟩
theorem index_any (s chars : ByteArray) (h2 : 2 ≤ chars.size) (hz : chars.size ≤ 1000) (hlow : Low chars) (hs : s.size < 4294967281) (w : World) :
    Calls Tryd.prog 41 #[.string s, .string chars] w fun e w' => e = .returned (.int .i64 (Lib.indexAny s.data.toList chars.data.toList)) ∧ Below w.heap.size w w' := by
  by_cases h8 : s.size ≤ 8
  · exact any_short s chars h2 hz hlow h8 w
  · have h116 : (Tryd.prog.info? (Tryd.lays153_ren.t 116)).map (fun i => (i.zero, i.size)) = some (some (.agg (Array.replicate 256 (.bool false))), 256) := by kernel_rfl
    refine (Any.strings_IndexAny_long Tryd.lays153 (zero_of_info h116).1 (zero_of_info h116).2 s chars w h2 (by omega) hs (by omega) (fun j b hb => hlow b (List.mem_of_getElem? hb))).mono ?_
    rintro e w' ⟨rfl, rfl⟩
    exact ⟨rfl, ((Below.refl _ _).alloc (Nat.le_refl _) _).alloc (by simp) _⟩
set_option maxHeartbeats 800000 in
theorem contains_any (l : List UInt8) (hl : l.length < 4294967281) (w : World) :
    Calls Tryd.prog 31 #[.string (bs l), .string ⟨#[91, 93]⟩] w fun e w' => e = .returned (.bool (Lib.containsAny l [91, 93])) ∧ Below w.heap.size w w' := by
  have HI : Hid (∀ V, Calls Tryd.prog 41 #[.string (bs l), .string ⟨#[91, 93]⟩] V fun e w' => e = .returned (.int .i64 (Lib.indexAny l [91, 93])) ∧ Below V.heap.size V w') := Lib.hid fun V => by
    have := index_any (bs l) ⟨#[91, 93]⟩ (by decide) (by decide) (by intro b hb; simp at hb; rcases hb with rfl | rfl <;> decide) hl V
    rwa [bs_list] at this
  unfold Lib.containsAny
  clear hl
  generalize Lib.indexAny l [91, 93] = ix at *
  generalize bs l = S at *
  go_enter Tryd.func31, Tryd.ntmps31
  go_wp2_with (first | (go_at_call 41; refine (HI.out _).mono ?_; clear HI; rintro e V2 ⟨rfl, hb⟩; have HB2 := Lib.hid hb; clear hb) | fail)
  go_ret
  exact ⟨rfl, HB2.out⟩
theorem drop_bs (l : List UInt8) : (bs l).extract 1 (bs l).size = bs (l.drop 1) := by
  rw [bs_extract, bs_size, List.take_of_length_le (by rw [List.length_drop]; exact Nat.le_refl _)]
theorem suffix_len (l : List UInt8) : (Lib.trimSuffix l [93]).length ≤ l.length := by
  unfold Lib.trimSuffix
  split
  · rw [List.length_take]; exact Nat.min_le_right _ _
  · exact Nat.le_refl _
set_option maxHeartbeats 800000 in
theorem name_any (l : List UInt8) (h1 : 1 ≤ l.length) (hl : l.length < 4294967281) (w : World) :
    Calls Tryd.prog 15 #[.string (bs l)] w fun e w' => e = .returned (.string (bs (nameL l))) ∧ Below w.heap.size w w' := by
  have hd : (l.drop 1).length < 4294967281 := by rw [List.length_drop]; omega
  have hsl := suffix_len (l.drop 1)
  have HC : Hid (∀ V, Calls Tryd.prog 26 #[.string (bs (l.drop 1)), .string ⟨#[93]⟩] V fun e w' => e = .returned (.tuple #[.string (bs (Lib.trimSuffix (l.drop 1) [93])), .bool (Lib.hasSuffix (l.drop 1) [93])]) ∧ w' = V) := Lib.hid fun V => by
    have := Tryd.strings_CutSuffix (bs (l.drop 1)) ⟨#[93]⟩ V (by rw [bs_size]; omega)
    rw [bs_list] at this
    exact this
  have HA : Hid (∀ V, Calls Tryd.prog 31 #[.string (bs (Lib.trimSuffix (l.drop 1) [93])), .string ⟨#[91, 93]⟩] V fun e w' => e = .returned (.bool (Lib.containsAny (Lib.trimSuffix (l.drop 1) [93]) [91, 93])) ∧ Below V.heap.size V w') := Lib.hid fun V => contains_any _ (by omega) V
  have hx : (bs l).extract 1 (bs l).size = bs (l.drop 1) := drop_bs l
  have hz : (1 : Int) ≤ ((bs l).size : Int) := by rw [bs_size]; omega
  have HN : Hid (bs (nameL l) = if Lib.hasSuffix (l.drop 1) [93] && !Lib.containsAny (Lib.trimSuffix (l.drop 1) [93]) [91, 93] then bs (Lib.trimSuffix (l.drop 1) [93]) else ⟨#[]⟩) := Lib.hid (by unfold nameL; split <;> rfl)
  clear hl hd hsl h1
  generalize bs (nameL l) = NM at *
  generalize Lib.containsAny (Lib.trimSuffix (l.drop 1) [93]) [91, 93] = c2 at *
  generalize Lib.hasSuffix (l.drop 1) [93] = c1 at *
  generalize bs (Lib.trimSuffix (l.drop 1) [93]) = T at *
  generalize bs (l.drop 1) = D at *
  generalize bs l = S at *
  cases c1 with
  | false =>
    obtain rfl : NM = ⟨#[]⟩ := HN.out
    go_enter Tryd.func15, Tryd.ntmps15
    go_wp2_with (first
      | (go_at_call 26; refine (HC.out _).mono ?_; clear HC; rintro e V ⟨rfl, rfl⟩)
      | fail)
    go_ret
    exact ⟨rfl, Below.refl _ _⟩
  | true =>
    cases c2 with
    | true =>
      obtain rfl : NM = ⟨#[]⟩ := HN.out
      go_enter Tryd.func15, Tryd.ntmps15
      go_wp2_with (first
        | (go_at_call 26; refine (HC.out _).mono ?_; clear HC; rintro e V ⟨rfl, rfl⟩)
        | (go_at_call 31; refine (HA.out _).mono ?_; clear HA; rintro e V2 ⟨rfl, hb⟩; have HB := Lib.hid hb; clear hb)
        | fail)
      go_ret
      exact ⟨rfl, HB.out⟩
    | false =>
      obtain rfl : NM = T := HN.out
      go_enter Tryd.func15, Tryd.ntmps15
      go_wp2_with (first
        | (go_at_call 26; refine (HC.out _).mono ?_; clear HC; rintro e V ⟨rfl, rfl⟩)
        | (go_at_call 31; refine (HA.out _).mono ?_; clear HA; rintro e V2 ⟨rfl, hb⟩; have HB := Lib.hid hb; clear hb)
        | fail)
      go_ret
      exact ⟨rfl, HB.out⟩
end Go.Proofs.YtokeepmlibolfaaDoor.Ln
