/-
  Layer 11 (lines): strings.IndexRune in a text of ASCII bytes, at any rune.
-/
import Derived.Test.YtokeepmlibolfaaDoorLnKey
import Derived.Lib.DecodeN
import Derived.Lib.OthersKept
import Derived.Lib.TrimU
import Derived.Lib.QuoteLoop
import Derived.Laws.Runes
import Derived.WalkMore
namespace Go.Proofs.YtokeepmlibolfaaDoor.Ln
open Go.RowKit

theorem bs_get (l : List UInt8) (i : Nat) : (bs l).get! i = l.getD i 0 := by
  show (l.toArray)[i]! = _
  simp [List.getD_eq_getElem?_getD]
  rfl
theorem decode_low (n b0 b1 b2 b3 : Nat) (h : b0 < 128) : Lib.decodeN n b0 b1 b2 b3 = (b0, 1) := by simp [Lib.decodeN, h]
theorem decode_high (n b0 b1 b2 b3 : Nat) (h : ¬ b0 < 128) : 128 ≤ (Lib.decodeN n b0 b1 b2 b3).1 := by
  unfold Lib.decodeN
  rw [if_neg h]
  repeat' split
  all_goals (first | (simp only; omega) | simp)
theorem bs_extract (l : List UInt8) (i j : Nat) : (bs l).extract i j = bs ((l.drop i).take (j - i)) := by
  have h : ((bs l).extract i j).data.toList = (l.drop i).take (j - i) := by simp [ByteArray.data_extract]
  rw [← bs_of ((bs l).extract i j), h]
theorem quiet_mine {P : Program} {f : FuncId} {args : Array Value} {w : World} {n : Nat} {v : Value}
    (h : Calls P f args (w.drewN n) fun e w' => e = .returned v ∧ w.drewN n = w') : Calls P f args (w.drewN n) fun e w'' => e = .returned v ∧ ∃ m, w'' = w.drewN m :=
  h.mono fun _ _ ⟨he, hm⟩ => ⟨he, n, hm.symm⟩
theorem enc_form (r : Nat) (h : 128 ≤ r) (h2 : r ≤ 1114111) : ∃ n : Nat, (Utf8.encode (r : Int)).size = n + 1 ∧ 1 ≤ n ∧ n ≤ 3 ∧ 128 ≤ ((Utf8.encode (r : Int)).get! n).toNat := by
  have hc : ∃ c : Nat, 128 ≤ c ∧ c ≤ 1114111 ∧ (if Utf8.valid (r : Int) then (r : Int).toNat else Utf8.runeError) = c := by
    split
    · exact ⟨r, h, h2, by simp⟩
    · exact ⟨65533, by decide, by decide, rfl⟩
  obtain ⟨c, c1, c2, hc⟩ := hc
  have hu : ∀ x : Nat, 128 ≤ (UInt8.ofNat (128 + x % 64)).toNat := fun x => by
    rw [UInt8.toNat_ofNat']; omega
  unfold Utf8.encode
  simp only [hc]
  rw [if_neg (by omega)]
  split
  · exact ⟨1, rfl, by decide, by decide, hu c⟩
  · split
    · exact ⟨2, rfl, by decide, by decide, hu c⟩
    · exact ⟨3, rfl, by decide, by decide, hu c⟩
theorem get_in {s : ByteArray} {i : Nat} (h : i < s.size) : s.get! i = s[i]'h := by
  show s.data[i]! = s.data[i]'h
  exact getElem!_pos s.data i h
/-- Only ASCII bytes. -/
def Low (s : ByteArray) : Prop := ∀ b ∈ s.data.toList, b.toNat < 128
theorem Low.at_ {s : ByteArray} (h : Low s) {i : Nat} (hi : i < s.size) : (s.get! i).toNat < 128 := by
  have hi2 : i < s.data.toList.length := by rw [Array.length_toList]; exact hi
  have e : s.get! i = s.data.toList[i] := by
    have := bs_get s.data.toList i
    rw [bs_of] at this
    rw [this, List.getD_eq_getElem?_getD, List.getElem?_eq_getElem hi2]; rfl
  rw [e]
  exact h _ (List.getElem_mem hi2)
theorem Low.drop {s : ByteArray} (h : Low s) (i j : Nat) : Low (s.extract i j) := fun b hb => by
  have e : (s.extract i j).data.toList = (s.data.toList.drop i).take (j - i) := by
    have := congrArg (fun x => x.data.toList) (bs_extract s.data.toList i j)
    rw [bs_of] at this
    exact this.trans (bs_list _)
  rw [e] at hb
  exact h b (List.mem_of_mem_drop (List.mem_of_mem_take hb))
theorem index_high {c : UInt8} (hc : 128 ≤ c.toNat) : ∀ {l : List UInt8}, (∀ b ∈ l, b.toNat < 128) → Lib.indexByte l c = -1
  | [], _ => rfl
  | a :: l, h => by
    unfold Lib.indexByte
    have h1 : (a == c) = false := by
      cases h2 : a == c with
      | false => rfl
      | true =>
        have e : a = c := by simpa using h2
        have := h a (by simp)
        rw [e] at this; omega
    rw [h1, index_high hc (fun b hb => h b (by simp [hb]))]
    rfl
set_option maxHeartbeats 1000000 in
set_option maxRecDepth 100000 in
theorem index_err (s : ByteArray) (hs : Low s) (w : World) :
    Calls Tryd.prog 54 #[.string s, .int .i32 65533] w fun e w' => e = .returned (.int .i64 (-1)) ∧ Below w.heap.size w w' := by
  have HS := Lib.hid hs
  clear hs
  go_enter Tryd.func54, Tryd.ntmps54
  go_wp2
  go_loopg [] s.size (fun gf wx => ∃ pos : Nat, wx.heap[w.heap.size]? = some (.stringIter s pos) ∧ Below w.heap.size w wx ∧ s.size ≤ pos + gf)
  case atStart => exact ⟨0, World.iter_heap w s 0, (Below.refl _ w).alloc (Nat.le_refl _) _, by omega⟩
  case round =>
    obtain ⟨pos, hit, hbw, hfu⟩ := hrel
    by_cases hps : pos < s.size
    · obtain ⟨g', rfl⟩ : ∃ g', gk = g' + 1 := ⟨gk - 1, by omega⟩
      have hnx : ∀ ty, (Instr.next (.pointer (some ⟨w.heap.size, 0, none⟩)) true ty).run Tryd.prog wr = _ := fun ty => Lib.run_next_any_at wr w.heap.size s pos ty hit hps
      have hdec : Utf8.decode s pos = ((s.get! pos).toNat, 1) := by rw [Lib.decode_at, decode_low _ _ _ _ _ (HS.out.at_ hps)]
      have hlo := HS.out.at_ hps
      obtain ⟨R, hR⟩ : ∃ R, (s.get! pos).toNat = R := ⟨_, rfl⟩
      rw [hdec, hR] at hnx
      rw [hR] at hlo
      have hne : (((R : Nat) : Int) == 65533) = false := by simp; omega
      have hne2 : decide ((R : Int) = 65533) = false := by simp; omega
      have hit2 := Lib.iterAt_heap wr w.heap.size s pos (pos + 1) hit
      have hbw2 := Lib.below_iterAt hbw (k := w.heap.size) (Nat.le_refl _) s (pos + 1)
      obtain ⟨W, hWd⟩ : ∃ W, wr.iterAt w.heap.size s (pos + 1) = W := ⟨_, rfl⟩
      rw [hWd] at hit2 hbw2
      simp only [hWd] at hnx
      clear hR hdec hlo
      go_wp2
      go_roundg g'
      case measure => omega
      case rel => exact ⟨pos + 1, hit2, hbw2, by omega⟩
    · have hnx : ∀ ty, (Instr.next (.pointer (some ⟨w.heap.size, 0, none⟩)) true ty).run Tryd.prog wr = _ := fun ty => Lib.run_next_end_at wr w.heap.size s pos ty hit hps
      go_wp2
      go_ret
      exact ⟨rfl, hbw⟩
set_option maxHeartbeats 1000000 in
set_option maxRecDepth 100000 in
theorem index_bad (s : ByteArray) (r : Nat) (h : 128 ≤ r) (hv : Lib.validRune (r : Int) = false) (hne : r ≠ 65533) (w : World) :
    Calls Tryd.prog 54 #[.string s, .int .i32 r] w fun e w' => e = .returned (.int .i64 (-1)) ∧ Below w.heap.size w w' := by
  have HV : Hid (∀ V, Calls Tryd.prog 67 #[.int .i32 (r : Int)] V fun e w' => e = .returned (.bool false) ∧ w' = V) := Lib.hid fun V => by
    have := Tryd.utf8_ValidRune (r : Int) V
    rwa [hv] at this
  have d0 : decide ((0 : Int) ≤ (r : Int)) = true := by simp
  have d1 : decide ((r : Int) < 128) = false := by simp; omega
  have d2 : (((r : Nat) : Int) == 65533) = false := by simp; omega
  have d3 : decide ((r : Int) = 65533) = false := by simp; omega
  clear h hv hne
  go_enter Tryd.func54, Tryd.ntmps54
  go_wp2_with (first
    | (go_at_call 67; refine (HV.out _).mono ?_; rintro e V1 ⟨rfl, rfl⟩)
    | fail)
  go_ret
  exact ⟨rfl, Below.refl _ _⟩
set_option maxHeartbeats 1000000 in
set_option maxRecDepth 100000 in
theorem index_in (s : ByteArray) (hs : Low s) (hz : s.size ≤ 1000) (r : Nat) (h : 128 ≤ r) (h2 : r ≤ 1114111) (hv : Lib.validRune (r : Int) = true) (hne : r ≠ 65533) (w : World) :
    Calls Tryd.prog 54 #[.string s, .int .i32 r] w fun e w' => e = .returned (.int .i64 (-1)) ∧ Below w.heap.size w w' := by
  have HV : Hid (∀ V, Calls Tryd.prog 67 #[.int .i32 (r : Int)] V fun e w' => e = .returned (.bool true) ∧ w' = V) := Lib.hid fun V => by
    have := Tryd.utf8_ValidRune (r : Int) V
    rwa [hv] at this
  obtain ⟨n, e1, e2, e3, e4⟩ := enc_form r h h2
  obtain ⟨E, hE⟩ : ∃ E, Utf8.encode (r : Int) = E := ⟨_, rfl⟩
  rw [hE] at e1 e4
  have d0 : decide ((0 : Int) ≤ (r : Int)) = true := by simp
  have d1 : decide ((r : Int) < 128) = false := by simp; omega
  have d2 : (((r : Nat) : Int) == 65533) = false := by simp; omega
  have d3 : decide ((r : Int) = 65533) = false := by simp; omega
  have n0 : (0 : Int) ≤ (n : Int) := by omega
  have n1 : (E.size : Int) = (n : Int) + 1 := by omega
  have n2 : (n : Int) ≤ 3 := by omega
  have n4 : (n : Int) < (E.size : Int) := by omega
  have z1 : (s.size : Int) ≤ 1000 := by omega
  clear h h2 hv hne
  by_cases hn : n < s.size
  · have n3 : (n : Int) < (s.size : Int) := by omega
    have hEn : n < E.size := by omega
    obtain ⟨c, hc⟩ : ∃ c, E[n]'hEn = c := ⟨_, rfl⟩
    rw [get_in hEn, hc] at e4
    have hsn := hs.at_ hn
    obtain ⟨b, hb⟩ : ∃ b, s[n]'hn = b := ⟨_, rfl⟩
    rw [get_in hn, hb] at hsn
    have x1 : ((b.toNat : Int) == (c.toNat : Int)) = false := by simp; omega
    have x2 : decide ((b.toNat : Int) = (c.toNat : Int)) = false := by simp; omega
    have x3 : ((b.toNat : Int) != (c.toNat : Int)) = true := by simp; omega
    obtain ⟨p, hp⟩ : ∃ p : Nat, (n : Int) + 1 = (p : Int) := ⟨n + 1, by omega⟩
    have p0 : (0 : Int) ≤ (p : Int) := by omega
    have p1 : (p : Int) ≤ (s.size : Int) := by omega
    have p2 : IntKind.i64.wrap (p : Int) = (p : Int) := IntWalk.i64_in _ (by omega)
    have HI : Hid (∀ V, Calls Tryd.prog 66 #[.string (s.extract p s.size), .int .u8 (c.toNat : Int)] V fun e w' => e = .returned (.int .i64 (-1)) ∧ V = w') := Lib.hid fun V => by
      refine (Tryd.strings_IndexByte (s.extract p s.size) (c.toNat : Int) V).mono ?_
      rintro e w' ⟨rfl, rfl⟩
      refine ⟨?_, rfl⟩
      rw [show Lib.indexByte (s.extract p s.size).data.toList ((c.toNat : Int).toNat.toUInt8) = -1 by
        rw [Int.toNat_natCast, Nat.toUInt8_eq, UInt8.ofNat_toNat]
        exact index_high e4 (hs.drop _ _)]
    have HP := Lib.hid hp
    clear hs e4 hsn hp
    go_enter Tryd.func54, Tryd.ntmps54
    go_wp2_with (first
      | (go_at_call 67; refine (HV.out _).mono ?_; rintro e V1 ⟨rfl, rfl⟩; (try rw [hE]))
      | fail)
    have hcv : ∀ W, (convert 21 9 (.int .i32 (r : Int))).run Tryd.prog W = .ok (.string E) W := fun W => by
      rw [run_convert_int_string W _ _ .i32 (r : Int) (by kernel_rfl) (by kernel_rfl), hE]
    go_step3
    go_wp2_with fail
    go_loop [9, 10] (fun i f => i = .int .i64 n ∧ f = .int .i64 0) (fun _ _ => 0)
    case atStart => exact ⟨rfl, rfl⟩
    case round =>
      obtain ⟨rfl, rfl⟩ := hrel
      go_wp2_with fail
      go_step3
      clear n1 e1
      have hp := HP.out
      go_wp2_with fail
      go_quiet (fail)
      rename_i nq
      have HB2 := Lib.hid (below_drewN (Below.refl V1.heap.size V1) nq)
      generalize V1.drewN nq = W2 at *
      go_wp2_with fail
      go_quiet ((go_at_call 66; exact quiet_mine (HI.out _)))
      go_wp2_with fail
      rw [Exit.noGoto_ret]
      simp +zetaDelta only [go_sem]
      go_ret
      exact ⟨rfl, below_drewN HB2.out _⟩
  · have n3 : ¬ (n : Int) < (s.size : Int) := by omega
    clear hs e4
    go_enter Tryd.func54, Tryd.ntmps54
    go_wp2_with (first
      | (go_at_call 67; refine (HV.out _).mono ?_; rintro e V1 ⟨rfl, rfl⟩; (try rw [hE]))
      | fail)
    have hcv : ∀ W, (convert 21 9 (.int .i32 (r : Int))).run Tryd.prog W = .ok (.string E) W := fun W => by
      rw [run_convert_int_string W _ _ .i32 (r : Int) (by kernel_rfl) (by kernel_rfl), hE]
    go_step3
    go_wp2_with fail
    go_loop [9, 10] (fun i f => i = .int .i64 n ∧ f = .int .i64 0) (fun _ _ => 0)
    case atStart => exact ⟨rfl, rfl⟩
    case round =>
      obtain ⟨rfl, rfl⟩ := hrel
      go_wp2_with fail
      go_ret
      exact ⟨rfl, Below.refl _ _⟩
theorem valid_of (n : Int) (h : (0 ≤ n ∧ n < 55296) ∨ (57343 < n ∧ n ≤ 1114111)) : Lib.validRune n = true := by unfold Lib.validRune; simp; omega
theorem index_hi (s : ByteArray) (hs : Low s) (hz : s.size ≤ 1000) (r : Nat) (h : 128 ≤ r) (h2 : r ≤ 1114111) (w : World) :
    Calls Tryd.prog 54 #[.string s, .int .i32 r] w fun e w' => e = .returned (.int .i64 (-1)) ∧ Below w.heap.size w w' := by
  by_cases hne : r = 65533
  · subst hne; exact index_err s hs w
  · cases hv : Lib.validRune (r : Int) with
    | true => exact index_in s hs hz r h h2 hv hne w
    | false => exact index_bad s r h hv hne w
end Go.Proofs.YtokeepmlibolfaaDoor.Ln
