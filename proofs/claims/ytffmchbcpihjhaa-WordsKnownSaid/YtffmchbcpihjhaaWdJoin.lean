/-
  Layer 12 (words): Join: is a word plain, a word in quotes, words in a row.
-/
import Derived.Test.YtffmchbcpihjhaaWdBuf
import Derived.Test.YtffmchbcpihjhaaWdTx
namespace Go.Proofs.Ytffmchbcpihjhaa.Wd
open Go.RowKit
set_option maxRecDepth 100000

set_option maxHeartbeats 400000 in
theorem isControl_at (b : UInt8) (w : World) : Calls Try.prog 31 #[.int .u8 (b.toNat : Int)] w fun e w' => e = .returned (.bool (ctl b)) ∧ w = w' := by
  have e2 : ((b.toNat : Int) == 127) = (b == 127) := u8_is b 127 (by decide)
  unfold ctl
  by_cases h : b.toNat < 32
  · have h1 : (b.toNat : Int) < 32 := by omega
    rw [decide_eq_true h]
    clear h e2
    generalize (b.toNat : Int) = x at *
    go_enter Try.func31, Try.ntmps31
    go_wp2
    go_ret
    exact ⟨rfl, rfl⟩
  · have h1 : ¬ (b.toNat : Int) < 32 := by omega
    rw [decide_eq_false h]
    clear h
    generalize (b == 127) = q at *
    generalize (b.toNat : Int) = x at *
    go_enter Try.func31, Try.ntmps31
    go_wp2
    go_ret
    exact ⟨rfl, rfl⟩
theorem get_list {l : List UInt8} {k : Nat} (hk : k < (bs l).size) : (bs l)[k] = l.getD k 0 := by
  have hk2 : k < l.length := hk
  rw [List.getD_eq_getElem?_getD, List.getElem?_eq_getElem hk2]
  rfl
theorem take_all {f : UInt8 → Bool} {l : List UInt8} {k : Nat} (hk : k < l.length) (h : (l.take k).all f = true) (hx : f (l.getD k 0) = true) : (l.take (k + 1)).all f = true := by
  rw [List.take_add_one, List.getElem?_eq_getElem hk]
  rw [List.getD_eq_getElem?_getD, List.getElem?_eq_getElem hk] at hx
  simp only [List.all_append, h, Bool.true_and, Option.toList_some, List.all_cons, List.all_nil, Bool.and_true]
  exact hx
theorem not_all {f : UInt8 → Bool} {l : List UInt8} {k : Nat} (hk : k < l.length) (hx : f (l.getD k 0) = false) : l.all f = false := by
  rw [List.all_eq_false]
  refine ⟨l[k], List.getElem_mem hk, ?_⟩
  rw [List.getD_eq_getElem?_getD, List.getElem?_eq_getElem hk] at hx
  simpa using hx
set_option maxHeartbeats 4000000 in
theorem isPlain_at (l : List UInt8) (hl : l.length ≤ 1000000) (V : World) : Calls Try.prog 21 #[.string (bs l)] V fun e V' => e = .returned (.bool (plainB l)) ∧ V = V' := by
  have hsz : (bs l).size = l.length := rfl
  have HGET : Hid (∀ k (hk : k < (bs l).size), (bs l)[k] = l.getD k 0) := Lib.hid fun k hk => get_list hk
  have hem : ((bs l).toList == (bs []).toList) = l.isEmpty := by
    rw [bs_eq]; cases l <;> rfl
  have hem2 := bs_empty l
  obtain ⟨n, hn⟩ : ∃ n, (bs l).size = n := ⟨_, rfl⟩
  have HN : Hid (l.length = n ∧ n ≤ 1000000) := Lib.hid ⟨by omega, by omega⟩
  clear hsz hl
  generalize bs l = S at *
  go_enter Try.func21, Try.ntmps21
  go_wp2_with fail
  go_loopw [7] (fun i wr => ∃ k : Nat, k ≤ n ∧ i = .int .i64 k ∧ wr = V ∧ (l.take k).all okB = true) (fun i _ => n - (intOf i).toNat)
  case atStart => exact ⟨0, Nat.zero_le _, rfl, rfl, rfl⟩
  case round =>
    obtain ⟨k, hk, rfl, rfl, hall⟩ := hrel
    have HALL := Lib.hid hall
    clear hall
    by_cases hlt : k < n
    · have hz : k < S.size := by rw [hn]; exact hlt
      have hx := HGET.out k hz
      obtain ⟨c, hc⟩ : ∃ c, l.getD k 0 = c := ⟨_, rfl⟩
      have HC := Lib.hid hc
      rw [hc] at hx
      have hnb : (n : Int) ≤ 1000000 := by have := HN.out; omega
      have HBL := Lib.hid (isBlank_at c)
      have HCT := Lib.hid (isControl_at c)
      have e34 : ((c.toNat : Int) == 34) = (c == 34) := u8_is c 34 (by decide)
      have e39 : ((c.toNat : Int) == 39) = (c == 39) := u8_is c 39 (by decide)
      have e92 : ((c.toNat : Int) == 92) = (c == 92) := u8_is c 92 (by decide)
      have HOK : Hid (okB c = !(blk c || ctl c || (c == 34) || (c == 39) || (c == 92))) := Lib.hid rfl
      have HNO : Hid (okB c = false → plainB l = false) := Lib.hid fun h => by
        unfold plainB
        rw [not_all (show k < l.length by have := HN.out; omega) (by rw [HC.out]; exact h)]
        rfl
      have HYES : Hid (okB c = true → (l.take (k + 1)).all okB = true) := Lib.hid fun h => take_all (show k < l.length by have := HN.out; omega) HALL.out (by rw [HC.out]; exact h)
      clear hc hem hem2
      generalize blk c = b1 at *
      generalize ctl c = b2 at *
      generalize (c == 34) = b3 at *
      generalize (c == 39) = b4 at *
      generalize (c == 92) = b5 at *
      cases b1 with
      | true =>
        have HR : Hid (plainB l = false) := Lib.hid (HNO.out (by rw [HOK.out]; rfl))
        go_wp2_with (first
          | (go_at_call 25; refine (HBL.out _).mono ?_; rintro e W ⟨rfl, rfl⟩)
          | (go_at_call 31; refine (HCT.out _).mono ?_; rintro e W ⟨rfl, rfl⟩)
          | fail)
        go_ret
        rw [HR.out]
        exact ⟨rfl, rfl⟩
      | false =>
        cases b2 with
        | true =>
          have HR : Hid (plainB l = false) := Lib.hid (HNO.out (by rw [HOK.out]; rfl))
          go_wp2_with (first
            | (go_at_call 25; refine (HBL.out _).mono ?_; rintro e W ⟨rfl, rfl⟩)
            | (go_at_call 31; refine (HCT.out _).mono ?_; rintro e W ⟨rfl, rfl⟩)
            | fail)
          go_ret
          rw [HR.out]
          exact ⟨rfl, rfl⟩
        | false =>
          cases b3 with
          | true =>
            have HR : Hid (plainB l = false) := Lib.hid (HNO.out (by rw [HOK.out]; rfl))
            go_wp2_with (first
              | (go_at_call 25; refine (HBL.out _).mono ?_; rintro e W ⟨rfl, rfl⟩)
              | (go_at_call 31; refine (HCT.out _).mono ?_; rintro e W ⟨rfl, rfl⟩)
              | fail)
            go_ret
            rw [HR.out]
            exact ⟨rfl, rfl⟩
          | false =>
            cases b4 with
            | true =>
              have HR : Hid (plainB l = false) := Lib.hid (HNO.out (by rw [HOK.out]; rfl))
              go_wp2_with (first
                | (go_at_call 25; refine (HBL.out _).mono ?_; rintro e W ⟨rfl, rfl⟩)
                | (go_at_call 31; refine (HCT.out _).mono ?_; rintro e W ⟨rfl, rfl⟩)
                | fail)
              go_ret
              rw [HR.out]
              exact ⟨rfl, rfl⟩
            | false =>
              cases b5 with
              | true =>
                have HR : Hid (plainB l = false) := Lib.hid (HNO.out (by rw [HOK.out]; rfl))
                go_wp2_with (first
                  | (go_at_call 25; refine (HBL.out _).mono ?_; rintro e W ⟨rfl, rfl⟩)
                  | (go_at_call 31; refine (HCT.out _).mono ?_; rintro e W ⟨rfl, rfl⟩)
                  | fail)
                go_ret
                rw [HR.out]
                exact ⟨rfl, rfl⟩
              | false =>
                have HR := Lib.hid (HYES.out (by rw [HOK.out]; rfl))
                go_wp2_with (first
                  | (go_at_call 25; refine (HBL.out _).mono ?_; rintro e W ⟨rfl, rfl⟩)
                  | (go_at_call 31; refine (HCT.out _).mono ?_; rintro e W ⟨rfl, rfl⟩)
                  | fail)
                go_roundw
                case rel => exact ⟨k + 1, by omega, by go_num, (by first | rfl | trivial), HR.out⟩
                case measure => exact meas _ _ _ (by go_num) hlt
    · obtain rfl : k = n := by omega
      have hkk : ¬ (k : Int) < (k : Int) := by omega
      have HR : Hid (plainB l = !l.isEmpty) := Lib.hid (by
        have h := HALL.out
        rw [List.take_of_length_le (by have := HN.out; omega)] at h
        unfold plainB
        rw [h]; rfl)
      have hnn : (S.toList != (bs []).toList) = !l.isEmpty := by rw [← hem]; rfl
      generalize l.isEmpty = em at *
      go_wp2_with fail
      go_ret
      rw [HR.out]
      exact ⟨rfl, rfl⟩
theorem byte_c (b : Nat) (T : List UInt8) (c : UInt8) (x : Int) (hx : (c.toNat : Int) = x) (w : World) (h : Bd b T w) (hl : T.length ≤ 10000000) : Calls Try.prog 20 #[.pointer (some ⟨b, 0, none⟩), .int .u8 x] w fun e w' => e = .returned .nilIface ∧ Bd b (T ++ [c]) w' ∧ Below b w w' := by
  rw [← hx]; exact byte_at b T c w h hl
theorem str_c (b : Nat) (T l : List UInt8) (S : ByteArray) (hS : bs l = S) (w : World) (h : Bd b T w) (hl : T.length ≤ 10000000) (hs : l.length ≤ 10000000) : Calls Try.prog 22 #[.pointer (some ⟨b, 0, none⟩), .string S] w fun e w' => (∃ v, e = .returned v) ∧ Bd b (T ++ l) w' ∧ Below b w w' := by
  rw [← hS]; exact str_at b T l w h hl hs
theorem quo_len (b : UInt8) : (quoB b).length ≤ 4 := by
  unfold quoB
  repeat' split
  all_goals simp
theorem quos_len : ∀ l : List UInt8, (l.flatMap quoB).length ≤ 4 * l.length
  | [] => Nat.le_refl _
  | b :: l => by
    rw [List.flatMap_cons, List.length_append, List.length_cons]
    have := quo_len b
    have := quos_len l
    omega
theorem quos_step {l : List UInt8} {k : Nat} (hk : k < l.length) : (l.take (k + 1)).flatMap quoB = (l.take k).flatMap quoB ++ quoB (l.getD k 0) := by
  rw [List.take_add_one, List.getElem?_eq_getElem hk, List.getD_eq_getElem?_getD, List.getElem?_eq_getElem hk, List.flatMap_append]
  show _ ++ (quoB l[k] ++ []) = _
  rw [List.append_nil]
  rfl
/-- A word's quotes, so far. -/
def QT (acc l : List UInt8) (k : Nat) : List UInt8 := acc ++ 34 :: (l.take k).flatMap quoB
theorem qt_step {acc l : List UInt8} {k : Nat} (hk : k < l.length) : QT acc l (k + 1) = QT acc l k ++ quoB (l.getD k 0) := by
  unfold QT
  rw [quos_step hk, ← List.cons_append, ← List.append_assoc]
theorem qt_len (acc l : List UInt8) (k : Nat) (ha : acc.length ≤ 5000000) (hl : l.length ≤ 1000000) : (QT acc l k).length ≤ 9000001 := by
  unfold QT
  rw [List.length_append, List.length_cons]
  have := quos_len (l.take k)
  have : (l.take k).length ≤ l.length := by rw [List.length_take]; omega
  omega
abbrev digs : ByteArray := ⟨#[48, 49, 50, 51, 52, 53, 54, 55, 56, 57, 97, 98, 99, 100, 101, 102]⟩
theorem dig_all : ∀ d : Fin 16, ((hexD d.val).toNat : Int) = ((digs[d.val]'d.isLt).toNat : Int) := by decide
theorem dig_eq (m d : Nat) (hm : m < digs.size) (h : m = d) : ((hexD d).toNat : Int) = ((digs[m]'hm).toNat : Int) := by
  subst h
  exact dig_all ⟨m, hm⟩
set_option maxHeartbeats 4000000 in
theorem quote_at (l : List UInt8) (hl : l.length ≤ 1000000) (acc : List UInt8) (ha : acc.length ≤ 5000000) (b : Nat) (V : World) (h : Bd b acc V) : Calls Try.prog 23 #[.pointer (some ⟨b, 0, none⟩), .string (bs l)] V fun e V' => e = .returned (.tuple #[]) ∧ Bd b (acc ++ 34 :: (l.flatMap quoB ++ [34])) V' ∧ Below b V V' := by
  have HGET : Hid (∀ k (hk : k < (bs l).size), (bs l)[k] = l.getD k 0) := Lib.hid fun k hk => get_list hk
  obtain ⟨n, hn⟩ : ∃ n, (bs l).size = n := ⟨_, rfl⟩
  have HN : Hid (l.length = n ∧ n ≤ 1000000) := Lib.hid ⟨by rw [← hn]; rfl, by rw [← hn]; exact hl⟩
  have HTL : Hid (∀ k, (QT acc l k).length ≤ 9000001) := Lib.hid fun k => qt_len acc l k ha hl
  have H0 := Lib.hid (byte_c b acc 34 34 rfl V h (by omega))
  clear h hl ha
  generalize bs l = S at *
  go_enter Try.func23, Try.ntmps23
  go_wp2_with (first
    | (go_at_call 20; refine (H0.out).mono ?_; clear H0; rintro e W1 ⟨rfl, hb1, hk1⟩; have HB1 := Lib.hid hb1; have HK1 := Lib.hid hk1; clear hb1 hk1)
    | fail)
  go_loopw [10] (fun i wr => ∃ k : Nat, k ≤ n ∧ i = .int .i64 k ∧ Bd b (QT acc l k) wr ∧ Below b V wr) (fun i _ => n - (intOf i).toNat)
  case atStart => exact ⟨0, Nat.zero_le _, rfl, HB1.out, HK1.out⟩
  case round =>
    obtain ⟨k, hk, rfl, hbd, hbl⟩ := hrel
    have HBD := Lib.hid hbd
    have HBL := Lib.hid hbl
    have HT := Lib.hid (HTL.out k)
    clear hbd hbl
    by_cases hlt : k < n
    · have hz : k < S.size := by rw [hn]; exact hlt
      have hx := HGET.out k hz
      obtain ⟨c, hc⟩ : ∃ c, l.getD k 0 = c := ⟨_, rfl⟩
      rw [hc] at hx
      have HST : Hid (QT acc l (k + 1) = QT acc l k ++ quoB c) := Lib.hid (by rw [qt_step (show k < l.length by have := HN.out; omega), hc])
      have hnb : (n : Int) ≤ 1000000 := by have := HN.out; omega
      obtain ⟨X, hX⟩ : ∃ X : Int, (c.toNat : Int) = X := ⟨_, rfl⟩
      have HXI := Lib.hid hX
      have e34 : (X == 34) = (c == 34) := by rw [← hX]; exact u8_is c 34 (by decide)
      have e92 : (X == 92) = (c == 92) := by rw [← hX]; exact u8_is c 92 (by decide)
      have e10 : (X == 10) = (c == 10) := by rw [← hX]; exact u8_is c 10 (by decide)
      have e9 : (X == 9) = (c == 9) := by rw [← hX]; exact u8_is c 9 (by decide)
      have HCT := Lib.hid (isControl_at c)
      rw [hX] at HCT
      generalize QT acc l k = T at *
      clear hc
      by_cases h34 : c = 34 ∨ c = 92
      · have HQ : Hid (quoB c = [92, c]) := Lib.hid (by unfold quoB; rw [if_pos h34])
        have hd : ((c == 34) = true) ∨ ((c == 34) = false ∧ (c == 92) = true) := by
          cases h1 : (c == 34) with
          | true => exact .inl rfl
          | false => exact .inr ⟨rfl, by rcases h34 with h | h; · rw [h] at h1; cases h1
                                         · rw [h]; rfl⟩
        have HA : Hid (∀ W, Bd b T W → Calls Try.prog 20 #[.pointer (some ⟨b, 0, none⟩), .int .u8 92] W fun e w' => e = .returned .nilIface ∧ Bd b (T ++ [92]) w' ∧ Below b W w') := Lib.hid fun W h => byte_c b T 92 92 rfl W h (by have := HT.out; omega)
        have HB : Hid (∀ W, Bd b (T ++ [92]) W → Calls Try.prog 20 #[.pointer (some ⟨b, 0, none⟩), .int .u8 X] W fun e w' => e = .returned .nilIface ∧ Bd b (T ++ [92] ++ [c]) w' ∧ Below b W w') := Lib.hid fun W h => byte_c b (T ++ [92]) c X HXI.out W h (by have := HT.out; simp; omega)
        clear h34
        rcases hd with h1 | ⟨h1, h2⟩
        all_goals
          rw [h1] at e34
          try rw [h2] at e92
          go_wp2_with (first
            | (go_at_call 20; refine (HA.out _ HBD.out).mono ?_; clear HA; rintro e W2 ⟨rfl, hb2, hk2⟩; have HB2 := Lib.hid hb2; have HK2 := Lib.hid hk2; clear hb2 hk2)
            | (go_at_call 20; refine (HB.out _ HB2.out).mono ?_; clear HB; rintro e W3 ⟨rfl, hb3, hk3⟩; have HB3 := Lib.hid hb3; have HK3 := Lib.hid hk3; clear hb3 hk3)
            | fail)
          go_roundw
          case rel => exact ⟨k + 1, by omega, by go_num, by rw [HST.out, HQ.out]; have := HB3.out; rw [List.append_assoc] at this; exact this, (HBL.out.trans HK2.out).trans HK3.out⟩
          case measure => exact meas _ _ _ (by go_num) hlt
      · have h34' := not_or.mp h34
        rw [beq_eq_false_iff_ne.mpr h34'.1] at e34
        rw [beq_eq_false_iff_ne.mpr h34'.2] at e92
        by_cases h10 : c = 10
        · have HQ : Hid (quoB c = [92, 110]) := Lib.hid (by rw [h10]; rfl)
          have HA : Hid (∀ W, Bd b T W → Calls Try.prog 22 #[.pointer (some ⟨b, 0, none⟩), .string ⟨#[92, 110]⟩] W fun e w' => (∃ v, e = .returned v) ∧ Bd b (T ++ [92, 110]) w' ∧ Below b W w') := Lib.hid fun W h => str_c b T [92, 110] _ rfl W h (by have := HT.out; omega) (by decide)
          rw [beq_iff_eq.mpr h10] at e10
          clear h10
          go_wp2_with (first
            | (go_at_call 22; refine (HA.out _ HBD.out).mono ?_; clear HA; rintro e W2 ⟨⟨v2, rfl⟩, hb2, hk2⟩; have HB2 := Lib.hid hb2; have HK2 := Lib.hid hk2; clear hb2 hk2)
            | fail)
          go_roundw
          case rel => exact ⟨k + 1, by omega, by go_num, by rw [HST.out, HQ.out]; exact HB2.out, HBL.out.trans HK2.out⟩
          case measure => exact meas _ _ _ (by go_num) hlt
        · rw [beq_eq_false_iff_ne.mpr h10] at e10
          by_cases h9 : c = 9
          · have HQ : Hid (quoB c = [92, 116]) := Lib.hid (by rw [h9]; rfl)
            have HA : Hid (∀ W, Bd b T W → Calls Try.prog 22 #[.pointer (some ⟨b, 0, none⟩), .string ⟨#[92, 116]⟩] W fun e w' => (∃ v, e = .returned v) ∧ Bd b (T ++ [92, 116]) w' ∧ Below b W w') := Lib.hid fun W h => str_c b T [92, 116] _ rfl W h (by have := HT.out; omega) (by decide)
            rw [beq_iff_eq.mpr h9] at e9
            clear h9
            go_wp2_with (first
              | (go_at_call 22; refine (HA.out _ HBD.out).mono ?_; clear HA; rintro e W2 ⟨⟨v2, rfl⟩, hb2, hk2⟩; have HB2 := Lib.hid hb2; have HK2 := Lib.hid hk2; clear hb2 hk2)
              | fail)
            go_roundw
            case rel => exact ⟨k + 1, by omega, by go_num, by rw [HST.out, HQ.out]; exact HB2.out, HBL.out.trans HK2.out⟩
            case measure => exact meas _ _ _ (by go_num) hlt
          · rw [beq_eq_false_iff_ne.mpr h9] at e9
            cases hct : ctl c with
            | true =>
              rw [hct] at HCT
              have HQ : Hid (quoB c = [92, 120, hexD (c.toNat / 16), hexD (c.toNat % 16)]) := Lib.hid (by unfold quoB; rw [if_neg h34, if_neg h10, if_neg h9, if_pos hct])
              have HA : Hid (∀ W, Bd b T W → Calls Try.prog 22 #[.pointer (some ⟨b, 0, none⟩), .string ⟨#[92, 120]⟩] W fun e w' => (∃ v, e = .returned v) ∧ Bd b (T ++ [92, 120]) w' ∧ Below b W w') := Lib.hid fun W h => str_c b T [92, 120] _ rfl W h (by have := HT.out; omega) (by decide)
              have HXB : Hid (X = (c.toNat : Int) ∧ c.toNat < 256) := Lib.hid ⟨HXI.out.symm, c.toNat_lt⟩
              have hdv : (X / 16).toNat = c.toNat / 16 := by have := HXB.out; omega
              have hm1 : (X / 16).toNat < 16 := by have := HXB.out; omega
              have HD1 : Hid (∀ W, Bd b (T ++ [92, 120]) W → Calls Try.prog 20 #[.pointer (some ⟨b, 0, none⟩), .int .u8 (((⟨#[48, 49, 50, 51, 52, 53, 54, 55, 56, 57, 97, 98, 99, 100, 101, 102]⟩ : ByteArray)[(X / 16).toNat]'hm1).toNat : Int)] W fun e w' => e = .returned .nilIface ∧ Bd b (T ++ [92, 120] ++ [hexD (c.toNat / 16)]) w' ∧ Below b W w') := Lib.hid fun W h => byte_c b (T ++ [92, 120]) (hexD (c.toNat / 16)) _ (dig_eq _ _ hm1 hdv) W h (by have := HT.out; simp; omega)
              have hdv2 : (X % 16).toNat = c.toNat % 16 := by have := HXB.out; omega
              have hm2 : (X % 16).toNat < 16 := by have := HXB.out; omega
              have HD2 : Hid (∀ W, Bd b (T ++ [92, 120] ++ [hexD (c.toNat / 16)]) W → Calls Try.prog 20 #[.pointer (some ⟨b, 0, none⟩), .int .u8 (((⟨#[48, 49, 50, 51, 52, 53, 54, 55, 56, 57, 97, 98, 99, 100, 101, 102]⟩ : ByteArray)[(X % 16).toNat]'hm2).toNat : Int)] W fun e w' => e = .returned .nilIface ∧ Bd b (T ++ [92, 120] ++ [hexD (c.toNat / 16)] ++ [hexD (c.toNat % 16)]) w' ∧ Below b W w') := Lib.hid fun W h => byte_c b (T ++ [92, 120] ++ [hexD (c.toNat / 16)]) (hexD (c.toNat % 16)) _ (dig_eq _ _ hm2 hdv2) W h (by have := HT.out; simp; omega)
              clear hdv hdv2
              have hX0 : 0 ≤ X := by omega
              have hX1 : X < 256 := by have := c.toNat_lt; omega
              clear h34 h34' h10 h9 hct
              go_wp2_with (first
                | (go_at_call 31; refine (HCT.out _).mono ?_; clear HCT; rintro e W ⟨rfl, rfl⟩)
                | (go_at_call 22; refine (HA.out _ HBD.out).mono ?_; clear HA; rintro e W2 ⟨⟨v2, rfl⟩, hb2, hk2⟩; have HB2 := Lib.hid hb2; have HK2 := Lib.hid hk2; clear hb2 hk2)
                | (go_at_call 20; refine (HD1.out _ HB2.out).mono ?_; clear HD1; rintro e W3 ⟨rfl, hb3, hk3⟩; have HB3 := Lib.hid hb3; have HK3 := Lib.hid hk3; clear hb3 hk3)
                | (go_at_call 20; refine (HD2.out _ HB3.out).mono ?_; clear HD2; rintro e W4 ⟨rfl, hb4, hk4⟩; have HB4 := Lib.hid hb4; have HK4 := Lib.hid hk4; clear hb4 hk4)
                | fail)
              go_roundw
              case rel => exact ⟨k + 1, by omega, by go_num, by rw [HST.out, HQ.out]; have := HB4.out; simp only [List.append_assoc, List.cons_append, List.nil_append] at this; exact this, ((HBL.out.trans HK2.out).trans HK3.out).trans HK4.out⟩
              case measure => exact meas _ _ _ (by go_num) hlt
            | false =>
              rw [hct] at HCT
              have HQ : Hid (quoB c = [c]) := Lib.hid (by unfold quoB; rw [if_neg h34, if_neg h10, if_neg h9, if_neg (by rw [hct]; decide)])
              have HB : Hid (∀ W, Bd b T W → Calls Try.prog 20 #[.pointer (some ⟨b, 0, none⟩), .int .u8 X] W fun e w' => e = .returned .nilIface ∧ Bd b (T ++ [c]) w' ∧ Below b W w') := Lib.hid fun W h => byte_c b T c X HXI.out W h (by have := HT.out; omega)
              clear h34 h34' h10 h9 hct
              go_wp2_with (first
                | (go_at_call 31; refine (HCT.out _).mono ?_; clear HCT; rintro e W ⟨rfl, rfl⟩)
                | (go_at_call 20; refine (HB.out _ HBD.out).mono ?_; clear HB; rintro e W2 ⟨rfl, hb2, hk2⟩; have HB2 := Lib.hid hb2; have HK2 := Lib.hid hk2; clear hb2 hk2)
                | fail)
              go_roundw
              case rel => exact ⟨k + 1, by omega, by go_num, by rw [HST.out, HQ.out]; exact HB2.out, HBL.out.trans HK2.out⟩
              case measure => exact meas _ _ _ (by go_num) hlt
    · obtain rfl : k = n := by omega
      have hkk : ¬ (k : Int) < (k : Int) := by omega
      have HE : Hid (QT acc l k = acc ++ 34 :: l.flatMap quoB) := Lib.hid (by unfold QT; rw [List.take_of_length_le (by have := HN.out; omega)])
      have HA : Hid (Calls Try.prog 20 #[.pointer (some ⟨b, 0, none⟩), .int .u8 34] wr fun e w' => e = .returned .nilIface ∧ Bd b (QT acc l k ++ [34]) w' ∧ Below b wr w') := Lib.hid (byte_c b _ 34 34 rfl wr HBD.out (by have := HT.out; omega))
      go_wp2_with (first
        | (go_at_call 20; refine (HA.out).mono ?_; clear HA; rintro e W2 ⟨rfl, hb2, hk2⟩; have HB2 := Lib.hid hb2; have HK2 := Lib.hid hk2; clear hb2 hk2)
        | fail)
      go_end0
      refine ⟨rfl, ?_, HBL.out.trans HK2.out⟩
      have := HB2.out
      rw [HE.out] at this
      simpa using this
/-- Words joined, so far. -/
def JT : List (List UInt8) → List UInt8
  | [] => []
  | w :: ws => joinW w ++ ws.flatMap fun v => 32 :: joinW v
theorem jt_all : ∀ l : List (List UInt8), JT l = joinL l
  | [] => rfl
  | [w] => by rw [joinL]; show joinW w ++ [] = _; rw [List.append_nil]
  | w :: v :: l => by
    have := jt_all (v :: l)
    show joinW w ++ ((32 :: joinW v) ++ l.flatMap fun v => 32 :: joinW v) = joinW w ++ 32 :: joinL (v :: l)
    rw [← this]
    rfl
theorem jt_first {l : List (List UInt8)} {x : List UInt8} (h : l[0]? = some x) : JT (l.take 1) = joinW x := by
  cases l with
  | nil => simp at h
  | cons a l =>
    have h : a = x := by simpa using h
    subst h
    show joinW a ++ [] = _
    rw [List.append_nil]
theorem jt_next {l : List (List UInt8)} {k : Nat} {x : List UInt8} (hk : 0 < k) (h : l[k]? = some x) : JT (l.take (k + 1)) = JT (l.take k) ++ 32 :: joinW x := by
  cases l with
  | nil => simp at h
  | cons a l =>
    obtain ⟨j, rfl⟩ : ∃ j, k = j + 1 := ⟨k - 1, by omega⟩
    rw [List.getElem?_cons_succ] at h
    rw [List.take_succ_cons, List.take_succ_cons]
    show joinW a ++ _ = joinW a ++ _ ++ _
    rw [List.take_add_one, h, List.flatMap_append, List.append_assoc]
    congr 2
    show (32 :: joinW x) ++ [] = _
    rw [List.append_nil]
theorem joinW_len (w : List UInt8) : (joinW w).length ≤ 4 * w.length + 2 := by
  unfold joinW
  split
  · omega
  · rw [List.length_cons, List.length_append]
    have := quos_len w
    rw [List.length_singleton]; omega
theorem jt_len (l : List (List UInt8)) (B : Nat) (hB : ∀ o ∈ l, o.length ≤ B) : ∀ k, (JT (l.take k)).length ≤ k * (4 * B + 3)
  | 0 => by simp [JT]
  | k + 1 => by
    have ih := jt_len l B hB k
    cases hx : l[k]? with
    | none =>
      rw [List.getElem?_eq_none_iff] at hx
      rw [List.take_of_length_le (by omega)]
      rw [List.take_of_length_le hx] at ih
      have : k * (4 * B + 3) ≤ (k + 1) * (4 * B + 3) := Nat.mul_le_mul_right _ (by omega)
      omega
    | some x =>
      have h1 := joinW_len x
      have h2 := hB x (List.mem_of_getElem? hx)
      rcases Nat.eq_zero_or_pos k with rfl | hk
      · rw [Nat.zero_add, jt_first hx, Nat.one_mul]; omega
      · rw [jt_next hk hx, List.length_append, List.length_cons]
        have : (k + 1) * (4 * B + 3) = k * (4 * B + 3) + (4 * B + 3) := by rw [Nat.add_mul, Nat.one_mul]
        omega
set_option maxHeartbeats 4000000 in
theorem join_any (A : Option Addr) (c : Nat) (l : List (List UInt8)) (hl : l.length ≤ 64) (ho : ∀ o ∈ l, o.length ≤ 5000) (V : World) (hA : StrRow V A l) : Calls Try.prog 13 #[.slice A l.length c] V fun e V' => e = .returned (.string (bs (joinL l))) ∧ Below V.heap.size V V' := by
  obtain ⟨n, hn⟩ : ∃ n, l.length = n := ⟨_, rfl⟩
  have HN : Hid (l.length = n ∧ n ≤ 64) := Lib.hid ⟨hn, by omega⟩
  have HO := Lib.hid ho
  have HA := Lib.hid hA
  have HLEN : Hid (∀ k, k ≤ 64 → (JT (l.take k)).length ≤ 1280200) := Lib.hid fun k hk => by
    have := jt_len l 5000 ho k
    have : k * (4 * 5000 + 3) ≤ 64 * (4 * 5000 + 3) := Nat.mul_le_mul_right _ hk
    omega
  rw [hn]
  clear hA ho hl hn
  obtain ⟨b, hb⟩ : ∃ b, V.heap.size = b := ⟨_, rfl⟩
  have HB0 := Lib.fresh_isBuilder 47 5 V
  have HK0 := (Below.refl V.heap.size V).alloc (Nat.le_refl _) (.cells #[.pointer none, .slice none 0 0] 47)
  obtain ⟨W0, hW0⟩ : ∃ W0, V.alloc (.cells #[.pointer none, .slice none 0 0] 47) = W0 := ⟨_, rfl⟩
  rw [hW0, hb] at HB0
  rw [hW0] at HK0
  have HB0 := Lib.hid HB0
  have HK0 := Lib.hid HK0
  have HVB := Lib.hid hb
  go_enter Try.func13, Try.ntmps13
  go_wp2_with fail
  clear hW0 hb
  go_loopw [8] (fun i wr => ∃ k : Nat, k ≤ n ∧ i = .int .i64 k ∧ Bd b (JT (l.take k)) wr ∧ Below V.heap.size V wr) (fun i _ => n - (intOf i).toNat)
  case atStart => exact ⟨0, Nat.zero_le _, rfl, HB0.out, HK0.out⟩
  case round =>
    obtain ⟨k, hk, rfl, hbd, hbl⟩ := hrel
    have HBD := Lib.hid hbd
    have HBL := Lib.hid hbl
    by_cases hlt : k < n
    · obtain ⟨x, hx⟩ : ∃ x, l[k]? = some x := ⟨_, List.getElem?_eq_getElem (by have := HN.out; omega)⟩
      obtain ⟨a, e1, _, a1⟩ := (HA.out.keep hbl) k x hx
      subst e1
      have HX : Hid (x.length ≤ 5000) := Lib.hid (HO.out x (List.mem_of_getElem? hx))
      have HKN : Hid (n ≤ 64) := Lib.hid HN.out.2
      have hnb : (n : Int) ≤ 64 := by have := HN.out; omega
      have HIP := Lib.hid (isPlain_at x (by have := HX.out; omega))
      have HTL : Hid ((JT (l.take k)).length ≤ 1280200) := Lib.hid (HLEN.out k (by have := HN.out; omega))
      clear hbd hbl
      rcases Nat.eq_zero_or_pos k with hk0 | hk0
      · have HST : Hid (JT (l.take (k + 1)) = JT (l.take k) ++ joinW x) := Lib.hid (by subst hk0; rw [jt_first hx]; rfl)
        have hkz : ¬ (0 : Int) < (k : Int) := by omega
        clear hk0
        cases hp : plainB x with
        | true =>
          have HW : Hid (∀ W, Bd b (JT (l.take k)) W → Calls Try.prog 22 #[.pointer (some ⟨b, 0, none⟩), .string (bs x)] W fun e w' => (∃ v, e = .returned v) ∧ Bd b (JT (l.take k) ++ x) w' ∧ Below b W w') := Lib.hid fun W h => str_at b _ x W h (by have := HTL.out; simp; omega) (by have := HX.out; omega)
          have HJW : Hid (joinW x = x) := Lib.hid (by unfold joinW; rw [if_pos hp])
          rw [hp] at HIP
          clear hp
          generalize bs x = S at *
          go_wp2_with (first
            | (go_at_call 21; refine (HIP.out _).mono ?_; clear HIP; rintro e W5 ⟨rfl, rfl⟩)
            | (go_at_call 22; refine (HW.out _ HBD.out).mono ?_; clear HW; rintro e W3 ⟨⟨v3, rfl⟩, hb3, hk3⟩; have HB3 := Lib.hid hb3; have HK3 := Lib.hid hk3; clear hb3 hk3)
            | fail)
          go_roundw
          case rel => exact ⟨k + 1, by omega, by go_num, by rw [HST.out, HJW.out]; have := HB3.out; exact this, HBL.out.trans (by rw [HVB.out]; exact HK3.out)⟩
          case measure => exact meas _ _ _ (by go_num) hlt
        | false =>
          have HW : Hid (∀ W, Bd b (JT (l.take k)) W → Calls Try.prog 23 #[.pointer (some ⟨b, 0, none⟩), .string (bs x)] W fun e w' => e = .returned (.tuple #[]) ∧ Bd b (JT (l.take k) ++ 34 :: (x.flatMap quoB ++ [34])) w' ∧ Below b W w') := Lib.hid fun W h => quote_at x (by have := HX.out; omega) _ (by have := HTL.out; simp; omega) b W h
          have HJW : Hid (joinW x = 34 :: (x.flatMap quoB ++ [34])) := Lib.hid (by unfold joinW; rw [if_neg (by rw [hp]; decide)])
          rw [hp] at HIP
          clear hp
          generalize bs x = S at *
          go_wp2_with (first
            | (go_at_call 21; refine (HIP.out _).mono ?_; clear HIP; rintro e W5 ⟨rfl, rfl⟩)
            | (go_at_call 23; refine (HW.out _ HBD.out).mono ?_; clear HW; rintro e W3 ⟨rfl, hb3, hk3⟩; have HB3 := Lib.hid hb3; have HK3 := Lib.hid hk3; clear hb3 hk3)
            | fail)
          go_roundw
          case rel => exact ⟨k + 1, by omega, by go_num, by rw [HST.out, HJW.out]; have := HB3.out; exact this, HBL.out.trans (by rw [HVB.out]; exact HK3.out)⟩
          case measure => exact meas _ _ _ (by go_num) hlt
      · have HST : Hid (JT (l.take (k + 1)) = JT (l.take k) ++ 32 :: joinW x) := Lib.hid (jt_next hk0 hx)
        have hkz : (0 : Int) < (k : Int) := by omega
        clear hk0
        have H32 := Lib.hid (byte_c b _ 32 32 rfl wr HBD.out (by have := HTL.out; omega))
        cases hp : plainB x with
        | true =>
          have HW : Hid (∀ W, Bd b (JT (l.take k) ++ [32]) W → Calls Try.prog 22 #[.pointer (some ⟨b, 0, none⟩), .string (bs x)] W fun e w' => (∃ v, e = .returned v) ∧ Bd b (JT (l.take k) ++ [32] ++ x) w' ∧ Below b W w') := Lib.hid fun W h => str_at b _ x W h (by have := HTL.out; simp; omega) (by have := HX.out; omega)
          have HJW : Hid (joinW x = x) := Lib.hid (by unfold joinW; rw [if_pos hp])
          rw [hp] at HIP
          clear hp
          generalize bs x = S at *
          go_wp2_with (first
            | (go_at_call 21; refine (HIP.out _).mono ?_; clear HIP; rintro e W5 ⟨rfl, rfl⟩)
            | (go_at_call 20; refine (H32.out).mono ?_; clear H32; rintro e W2 ⟨rfl, hb2, hk2⟩; have HB2 := Lib.hid hb2; have HK2 := Lib.hid hk2; clear hb2 hk2)
            | (go_at_call 22; refine (HW.out _ HB2.out).mono ?_; clear HW; rintro e W3 ⟨⟨v3, rfl⟩, hb3, hk3⟩; have HB3 := Lib.hid hb3; have HK3 := Lib.hid hk3; clear hb3 hk3)
            | fail)
          go_roundw
          case rel => exact ⟨k + 1, by omega, by go_num, by rw [HST.out, HJW.out]; have := HB3.out; simpa using this, HBL.out.trans (by rw [HVB.out]; exact HK2.out.trans HK3.out)⟩
          case measure => exact meas _ _ _ (by go_num) hlt
        | false =>
          have HW : Hid (∀ W, Bd b (JT (l.take k) ++ [32]) W → Calls Try.prog 23 #[.pointer (some ⟨b, 0, none⟩), .string (bs x)] W fun e w' => e = .returned (.tuple #[]) ∧ Bd b (JT (l.take k) ++ [32] ++ 34 :: (x.flatMap quoB ++ [34])) w' ∧ Below b W w') := Lib.hid fun W h => quote_at x (by have := HX.out; omega) _ (by have := HTL.out; simp; omega) b W h
          have HJW : Hid (joinW x = 34 :: (x.flatMap quoB ++ [34])) := Lib.hid (by unfold joinW; rw [if_neg (by rw [hp]; decide)])
          rw [hp] at HIP
          clear hp
          generalize bs x = S at *
          go_wp2_with (first
            | (go_at_call 21; refine (HIP.out _).mono ?_; clear HIP; rintro e W5 ⟨rfl, rfl⟩)
            | (go_at_call 20; refine (H32.out).mono ?_; clear H32; rintro e W2 ⟨rfl, hb2, hk2⟩; have HB2 := Lib.hid hb2; have HK2 := Lib.hid hk2; clear hb2 hk2)
            | (go_at_call 23; refine (HW.out _ HB2.out).mono ?_; clear HW; rintro e W3 ⟨rfl, hb3, hk3⟩; have HB3 := Lib.hid hb3; have HK3 := Lib.hid hk3; clear hb3 hk3)
            | fail)
          go_roundw
          case rel => exact ⟨k + 1, by omega, by go_num, by rw [HST.out, HJW.out]; have := HB3.out; simpa using this, HBL.out.trans (by rw [HVB.out]; exact HK2.out.trans HK3.out)⟩
          case measure => exact meas _ _ _ (by go_num) hlt
    · obtain rfl : k = n := by omega
      have hkk : ¬ (k : Int) < (k : Int) := by omega
      have HE : Hid (JT (l.take k) = joinL l) := Lib.hid (by rw [List.take_of_length_le (by have := HN.out; omega), jt_all])
      have HTX := Lib.hid (text_at b _ wr HBD.out)
      clear hbd hbl
      go_wp2_with (first
        | (go_at_call 24; refine (HTX.out).mono ?_; clear HTX; rintro e W2 ⟨rfl, hk2⟩; have HK2 := Lib.hid hk2; clear hk2)
        | fail)
      go_ret
      rw [HE.out]
      exact ⟨rfl, HBL.out.trans (by rw [HVB.out]; exact HK2.out)⟩
end Go.Proofs.Ytffmchbcpihjhaa.Wd
