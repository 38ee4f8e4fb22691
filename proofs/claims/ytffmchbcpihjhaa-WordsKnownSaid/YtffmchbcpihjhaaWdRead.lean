/-
  Layer 12 (words): the program's reader: its state, and its small steps.
-/
import Derived.Test.YtffmchbcpihjhaaWdPlain
import Derived.Test.YtffmchbcpihjhaaProg
import Derived.Lib.Hide
import Derived.WalkKit
import Derived.Below
import Derived.Lib.Strings
import Derived.Deep.QuietTactic
import Derived.BigQuiet
namespace Go.Proofs.Ytffmchbcpihjhaa.Wd
open Go.RowKit
set_option maxRecDepth 100000

theorem u8_is (b : UInt8) (c : Nat) (hc : c < 256) : ((b.toNat : Int) == (c : Int)) = (b == UInt8.ofNat c) := by
  rw [Bool.eq_iff_iff, beq_iff_eq, beq_iff_eq]
  constructor
  · intro h
    have h : b.toNat = c := by omega
    rw [← h]; simp
  · intro h
    rw [h, UInt8.toNat_ofNat']
    omega
theorem bs_empty (l : List UInt8) : (bs l).toList.isEmpty = l.isEmpty := by
  rw [Lib.toList_data]
theorem bs_list (l : List UInt8) : (bs l).data.toList = l := by simp
theorem bs_of (s : ByteArray) : bs s.data.toList = s := by unfold bs; rw [Array.toArray_toList]
theorem tail_bs (c : UInt8) (t : List UInt8) : (bs (c :: t)).extract (1 : Int).toNat (bs (c :: t)).size = bs t := by
  rw [← bs_of ((bs (c :: t)).extract (1 : Int).toNat (bs (c :: t)).size)]
  have h := Lib.extract_toList (bs (c :: t)) 1 (bs (c :: t)).size
  rw [Lib.toList_data, bs_list] at h
  congr 1
  refine Eq.trans h ?_
  show ((c :: t).drop 1).take ((c :: t).length - 1) = t
  simp
/-- What a byte behind a backslash stands for, as the map says. -/
def escV (b : UInt8) : Value := match esc1 b with
  | some x => .tuple #[.int .u8 x.toNat, .bool true]
  | none => .tuple #[.int .u8 0, .bool false]
/-- The reader: at rb what is left, and the map at mb. -/
structure Rd (V : World) (rb mb : Nat) (r : List UInt8) : Prop where
  c0 : V.cell? ⟨rb, 0, none⟩ = some (.string (bs r))
  c1 : V.cell? ⟨rb, 1, none⟩ = some (.map (some mb))
  fz : V.frozen? ⟨rb, 0, none⟩ = false
  ne : mb ≠ rb
  lr : rb < V.heap.size
  lm : mb < V.heap.size
  lk : ∀ V', V'.heap[mb]? = V.heap[mb]? → ∀ b : UInt8, (Instr.lookup 36 (.map (some mb)) (.int .u8 (b.toNat : Int)) true).run Try.prog V' = .ok (escV b) V'
theorem Rd.set {V : World} {rb mb : Nat} {r : List UInt8} (h : Rd V rb mb r) (r' : List UInt8) : Rd (V.setCell ⟨rb, 0, none⟩ (.string (bs r'))) rb mb r' where
  c0 := World.cell?_setCell_same (w := V) (a := ⟨rb, 0, none⟩) (v := .string (bs r')) h.c0
  c1 := (World.cell?_setCell_other (w := V) (a := ⟨rb, 0, none⟩) (b := ⟨rb, 1, none⟩) (v := .string (bs r')) (h := fun e => by injection e with _ e _; cases e)).trans h.c1
  fz := by
    have hf := h.fz
    have hc := h.c0
    unfold World.frozen? at hf ⊢
    cases hb : V.heap[rb]? with
    | none => simp [World.cell?, hb] at hc
    | some o =>
      cases o with
      | cells c t fr => simp only [hb] at hf; simp only [World.setCell, Array.getElem?_modify, hb, if_true, Option.map_some]; exact hf
      | _ => simp [World.cell?, hb] at hc
  ne := h.ne
  lr := by have := h.lr; simpa using this
  lm := by have := h.lm; simpa using this
  lk := fun V' hV b => h.lk V' (hV.trans (Below.heap_setCell V ⟨rb, 0, none⟩ _ mb h.ne)) b
theorem Rd.keep {V V' : World} {rb mb : Nat} {r : List UInt8} (h : Rd V rb mb r) (hr : V'.heap[rb]? = V.heap[rb]?) (hm : V'.heap[mb]? = V.heap[mb]?) (hs : V.heap.size ≤ V'.heap.size) : Rd V' rb mb r where
  c0 := (World.cell?_of_block (a := ⟨rb, 0, none⟩) hr).trans h.c0
  c1 := (World.cell?_of_block (a := ⟨rb, 1, none⟩) hr).trans h.c1
  fz := (World.frozen?_of_block (a := ⟨rb, 0, none⟩) hr).trans h.fz
  ne := h.ne
  lr := Nat.lt_of_lt_of_le h.lr hs
  lm := Nat.lt_of_lt_of_le h.lm hs
  lk := fun W hW b => h.lk W (hW.trans hm) b
theorem set_grown (V : World) (rb : Nat) (v : Value) : V.grownBy (V.setCell ⟨rb, 0, none⟩ v) (some rb) := ⟨rfl, rfl, rfl, by simp, fun k _ hk => Below.heap_setCell V ⟨rb, 0, none⟩ v k (fun e => hk (by rw [e]))⟩
theorem grown_trans {V V' V'' : World} {r : Option Nat} (h : V.grownBy V' r) (k : V'.grownBy V'' r) : V.grownBy V'' r := ⟨k.os.trans h.os, k.tape.trans h.tape, k.output.trans h.output, Nat.le_trans h.size k.size, fun q hq hn => (k.block q (Nat.lt_of_lt_of_le hq h.size) hn).trans (h.block q hq hn)⟩
theorem grown_refl (V : World) (r : Option Nat) : V.grownBy V r := ⟨rfl, rfl, rfl, Nat.le_refl _, fun _ _ _ => rfl⟩

/-- How much is left. -/
def restZ (V : World) (rb : Nat) : Nat := match V.cell? ⟨rb, 0, none⟩ with
  | some (.string s) => s.size
  | _ => 0
theorem Rd.rest {V : World} {rb mb : Nat} {r : List UInt8} (h : Rd V rb mb r) : restZ V rb = r.length := by
  unfold restZ
  rw [h.c0]
  rfl
set_option maxHeartbeats 400000 in
theorem isBlank_at (b : UInt8) (w : World) : Calls Try.prog 25 #[.int .u8 (b.toNat : Int)] w fun e w' => e = .returned (.bool (blk b)) ∧ w = w' := by
  have e1 : ((b.toNat : Int) == 32) = (b == 32) := u8_is b 32 (by decide)
  have e2 : ((b.toNat : Int) == 9) = (b == 9) := u8_is b 9 (by decide)
  unfold blk
  generalize (b == 32) = q1 at *
  generalize (b == 9) = q2 at *
  generalize (b.toNat : Int) = x at *
  cases q1 with
  | true =>
    go_enter Try.func25, Try.ntmps25
    go_wp2
    go_ret
    exact ⟨rfl, rfl⟩
  | false =>
    go_enter Try.func25, Try.ntmps25
    go_wp2
    go_ret
    exact ⟨rfl, rfl⟩
set_option maxHeartbeats 800000 in
theorem next_at (c : UInt8) (t : List UInt8) (rb mb : Nat) (V : World) (h : Rd V rb mb (c :: t)) : Calls Try.prog 26 #[.pointer (some ⟨rb, 0, none⟩)] V fun e V' => e = .returned (.int .u8 (c.toNat : Int)) ∧ Rd V' rb mb t ∧ V.grownBy V' (some rb) := by
  have c0 := h.c0
  have fz := h.fz
  have hz : 0 < (bs (c :: t)).size := by show 0 < (c :: t).length; simp
  have hx : (bs (c :: t))[0] = c := rfl
  have hs : ∀ W, (Instr.slice 9 (.string (bs (c :: t))) (some (.int .i64 1)) none none).run Try.prog W = .ok (.string (bs t)) W := fun W => by
    have hz2 : (1 : Int) ≤ ((bs (c :: t)).size : Int) := by omega
    have := run_slice_string_l (P := Try.prog) W 9 (bs (c :: t)) Try.underlying9 .i64 (1 : Int) (by omega) hz2
    rw [this]
    exact congrArg (fun s => Result.ok (Value.string s) W) (tail_bs c t)
  have H := Lib.hid h
  clear h
  generalize bs (c :: t) = S at *
  generalize hT : bs t = T at *
  go_enter Try.func26, Try.ntmps26
  go_wp2
  go_ret
  exact ⟨rfl, by rw [← hT]; exact H.out.set t, set_grown _ _ _⟩
set_option maxHeartbeats 1600000 in
theorem passBlanks_any (r : List UInt8) (rb mb : Nat) (V : World) (h : Rd V rb mb r) : Calls Try.prog 16 #[.pointer (some ⟨rb, 0, none⟩)] V fun e V' => e = .returned (.bool (!(r.dropWhile blk).isEmpty)) ∧ Rd V' rb mb (r.dropWhile blk) ∧ V.grownBy V' (some rb) := by
  have H := Lib.hid h
  clear h
  go_enter Try.func16, Try.ntmps16
  go_wp2_with fail
  go_loopw [17] (fun _ wr => ∃ r' : List UInt8, r'.dropWhile blk = r.dropWhile blk ∧ r'.length ≤ r.length ∧ Rd wr rb mb r' ∧ V.grownBy wr (some rb)) (fun _ wr => restZ wr rb)
  case atStart => exact ⟨r, rfl, Nat.le_refl _, H.out, grown_refl _ _⟩
  case round =>
    obtain ⟨r', hd, hr, hR, hg⟩ := hrel
    have c0 := hR.c0
    have HR := Lib.hid hR
    have HG := Lib.hid hg
    have HD := Lib.hid hd
    clear hR hg hd
    cases r' with
    | nil =>
      have hem : (bs ([] : List UInt8)).toList.isEmpty = true := bs_empty []
      go_wp2_with fail
      go_ret
      have hd : [] = r.dropWhile blk := HD.out
      rw [← hd]
      exact ⟨rfl, HR.out, HG.out⟩
    | cons c t =>
      have hem : (bs (c :: t)).toList.isEmpty = false := bs_empty _
      have hz : 0 < (bs (c :: t)).size := by show 0 < (c :: t).length; simp
      have hx : (bs (c :: t))[0] = c := rfl
      cases hb : blk c with
      | true =>
        have HBL := Lib.hid (isBlank_at c)
        rw [hb] at HBL
        have HD2 : Hid (t.dropWhile blk = r.dropWhile blk) := Lib.hid (by rw [← HD.out, List.dropWhile_cons, if_pos hb])
        have HLT : Hid (t.length + 1 ≤ r.length) := Lib.hid hr
        clear hb HD hr
        generalize bs (c :: t) = S at *
        go_wp2_with (first
          | (go_at_call 25; (try rw [hx]); refine (HBL.out _).mono ?_; rintro e W ⟨rfl, rfl⟩)
          | (go_at_call 26; refine (next_at c t rb mb wr HR.out).mono ?_; rintro e W ⟨rfl, hR2, hG2⟩; have HR2 := Lib.hid hR2; have HG2 := Lib.hid (grown_trans HG.out hG2); clear hR2 hG2)
          | fail)
        go_roundw
        case rel => exact ⟨t, HD2.out, by have := HLT.out; omega, HR2.out, HG2.out⟩
        case measure => rw [HR2.out.rest, HR.out.rest]; exact Nat.lt_succ_self _
      | false =>
        have HBL := Lib.hid (isBlank_at c)
        rw [hb] at HBL
        have HD2 : Hid (r.dropWhile blk = c :: t) := Lib.hid (by rw [← HD.out, List.dropWhile_cons, if_neg (by rw [hb]; decide)])
        clear hb HD hr
        generalize hS : bs (c :: t) = S at *
        go_wp2_with (first
          | (go_at_call 25; (try rw [hx]); refine (HBL.out _).mono ?_; rintro e W ⟨rfl, rfl⟩)
          | fail)
        go_ret
        rw [HD2.out]
        exact ⟨rfl, HR.out, HG.out⟩
end Go.Proofs.Ytffmchbcpihjhaa.Wd
