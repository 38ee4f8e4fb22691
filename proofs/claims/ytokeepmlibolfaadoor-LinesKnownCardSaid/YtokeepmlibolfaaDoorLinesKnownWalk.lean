/-
  Layer 11 (lines): the law LinesKnown, walked (written by a program).
-/
import Derived.Test.YtokeepmlibolfaaDoorLinesParseWalk
import Derived.Test.YtokeepmlibolfaaDoorLinesBackWalk
import Derived.Test.YtokeepmlibolfaaDoorLinesPassedWalk
import Derived.Test.YtokeepmlibolfaaDoorLnLong
import Derived.Test.YtokeepmlibolfaaDoorLnBig
import Derived.Deep.OwnRows
import Derived.Test.YtokeepmlibolfaaDoorLnRow
namespace Go.Proofs.YtokeepmlibolfaaDoor.Ln
open Go.RowKit
set_option maxRecDepth 100000

def textsK : List (List UInt8) := [[], [10], [91], [91, 93], [91, 65], [91, 65, 93, 93], [91, 65, 93, 120], [91, 65, 32, 66, 93, 10, 107, 61, 118], [91, 65, 93, 10, 61, 118], [91, 65, 93, 10, 107], [91, 65, 93, 10, 107, 61], [91, 65, 93, 10, 32, 107, 32, 61, 32, 97, 32, 61, 32, 98, 32], [91, 65, 93, 10, 49, 107, 61, 118], [91, 65, 93, 10, 107, 49, 61, 118], [91, 65, 93, 10, 107, 45, 120, 61, 118], [91, 65, 93, 13, 10, 107, 61, 118, 13, 10], [91, 65, 93, 10, 107, 61, 118, 92], [91, 65, 93, 10, 107, 61, 118, 92, 10, 10, 120, 61, 49], [91, 65, 93, 10, 107, 61, 118, 92, 10, 59, 99, 92, 10, 35, 100, 10, 119, 92, 10], [92, 10], [32, 32, 92, 10, 91, 65, 93, 10, 107, 61, 118], [91, 65, 93, 10, 91, 93, 10, 107, 61, 118, 10, 91, 66, 93, 10, 106, 61, 119], [35, 92, 10, 91, 65, 93, 10, 107, 61, 118], [91, 65, 93, 10, 107, 61, 92, 92, 10, 120, 61, 49], [91, 65, 93, 10, 107, 61, 118, 92, 13, 10, 119], [91, 65, 93, 10, 107, 9, 61, 9, 9, 118, 9, 10, 0, 61, 49], [91, 255, 93, 10, 107, 61, 255]]
def threeK : List (List UInt8) := [[97], [98, 10], [99, 92]]
/-- What is kept from call to call. -/
structure Kb (m : Int) (w V : World) : Prop where
  h0 : 0 < w.heap.size
  hm : V.cell? ⟨0, 0, none⟩ = some (.int .i64 m)
  b : Below w.heap.size w V
theorem Kb.keep {m : Int} {w V V' : World} (h : Kb m w V) (hb : Below V.heap.size V V') : Kb m w V' :=
  ⟨h.h0, (hb.cell (p := ⟨0, 0, none⟩) (by have := h.b.size; have := h.h0; show 0 < V.heap.size; omega)).trans h.hm, h.b.trans (hb.mono h.b.size)⟩
theorem Kb.pos {m : Int} {w V : World} (h : Kb m w V) : 0 < V.heap.size := by have := h.b.size; have := h.h0; omega
theorem kb_c {m : Int} {w V : World} (h : Kb m w V) (l : List UInt8) : (cW V l).cell? ⟨0, 0, none⟩ = some (.int .i64 m) ∧ 0 < (cW V l).heap.size := ⟨((cW_below l V).cell (p := ⟨0, 0, none⟩) h.pos).trans h.hm, by rw [cW_size]; omega⟩
theorem known_parse {m : Int} {w V : World} (h : Kb m w V) (l : List UInt8) : Calls Tryd.prog 3 #[cV V l] (cW V l) fun e w' => e = .returned (.bool true) ∧ Kb m w w' ∧ Below V.heap.size V w' :=
  (linesParse_any (some ⟨V.heap.size, 0, none⟩) l.length _ l m (cW V l) (kb_c h l).1 (kb_c h l).2 rfl (conv_back l V)).mono fun e w' ⟨he, hb⟩ => ⟨he, h.keep ((cW_below l V).trans (hb.mono (by rw [cW_size]; omega))), (cW_below l V).trans (hb.mono (by rw [cW_size]; omega))⟩
theorem known_back {m : Int} {w V : World} (h : Kb m w V) (l : List UInt8) : Calls Tryd.prog 4 #[cV V l] (cW V l) fun e w' => e = .returned (.bool true) ∧ Kb m w w' ∧ Below V.heap.size V w' :=
  (linesBack_any (some ⟨V.heap.size, 0, none⟩) l.length _ l m (cW V l) (kb_c h l).1 (kb_c h l).2 rfl (conv_back l V)).mono fun e w' ⟨he, hb⟩ => ⟨he, h.keep ((cW_below l V).trans (hb.mono (by rw [cW_size]; omega))), (cW_below l V).trans (hb.mono (by rw [cW_size]; omega))⟩
theorem str_row (W : World) (ls : List (List UInt8)) : StrRow (W.alloc (.cells (ls.map fun l => Value.string (bs l)).toArray 9)) (some ⟨W.heap.size, 0, none⟩) ls := fun i o hi => by
  refine ⟨_, rfl, ?_, ?_⟩
  · show W.heap.size < (W.heap.push _).size
    simp
  · exact new_cells W W.heap.size rfl (ls.map fun l => Value.string (bs l)) 9 i _ (by rw [List.getElem?_map, hi]; rfl)
theorem known_passed {m : Int} {w V : World} (h : Kb m w V) (l : List UInt8) : Calls Tryd.prog 5 #[cV V l, .slice (some ⟨(cW V l).heap.size, 0, none⟩) 3 3] ((cW V l).alloc (.cells #[.string ⟨#[97]⟩, .string ⟨#[98, 10]⟩, .string ⟨#[99, 92]⟩] 9)) fun e w' => e = .returned (.bool true) ∧ Kb m w w' ∧ Below V.heap.size V w' := by
  have hb1 : Below (cW V l).heap.size (cW V l) ((cW V l).alloc (.cells #[.string ⟨#[97]⟩, .string ⟨#[98, 10]⟩, .string ⟨#[99, 92]⟩] 9)) := (Below.refl _ _).alloc (Nat.le_refl _) _
  refine (linesPassed_any (some ⟨V.heap.size, 0, none⟩) l.length _ l (some ⟨(cW V l).heap.size, 0, none⟩) 3 3 threeK m _ ((hb1.cell (p := ⟨0, 0, none⟩) (kb_c h l).2).trans (kb_c h l).1) (by have := hb1.size; have := (kb_c h l).2; omega) rfl rfl (fun o ho => ?_) (str_row (cW V l) threeK) (fun W' hW' => conv_back l V W' (hb1.trans (hW'.mono hb1.size)))).mono fun e w' ⟨he, hb⟩ => ⟨he, h.keep ((cW_below l V).trans ((hb1.mono (by rw [cW_size]; omega)).trans (hb.mono (by have := hb1.size; rw [cW_size] at this; omega)))), (cW_below l V).trans ((hb1.mono (by rw [cW_size]; omega)).trans (hb.mono (by have := hb1.size; rw [cW_size] at this; omega)))⟩
  simp only [threeK, List.mem_cons, List.not_mem_nil, or_false] at ho
  unfold maxLen
  rcases ho with rfl | rfl | rfl <;> decide
theorem known_lit {m : Int} {w V : World} (h : Kb m w V) (l : List UInt8) (hl : l.length ≤ 65536) : Calls Tryd.prog 9 #[cV V l] (cW V l) fun e W' => ∃ p1 k1 p2 k2, e = .returned (.tuple #[.slice p1 (parseL l).found.length k1, .slice p2 (parseL l).wrong.length k2]) ∧ RowAt W' p2 2 ((parseL l).wrong.map diagC) ∧ Kb m w W' ∧ V.heap.size ≤ W'.heap.size ∧ Below V.heap.size V W' := (parse_lit l m V h.hm h.pos hl).mono fun e W' h' => by
  obtain ⟨v1, v2, rfl, o1, o2, hb⟩ := h'
  obtain ⟨p1, k1, rfl, _⟩ := lines_at_row o1
  obtain ⟨p2, k2, rfl, r2⟩ := diags_at_row o2
  have hb2 : Below V.heap.size V W' := (cW_below l V).trans (hb.mono (by omega))
  exact ⟨p1, k1, p2, k2, rfl, r2, h.keep hb2, hb2.size, hb2⟩
theorem u8_made : (Tryd.prog.info? 5).map (fun i => (i.zero, i.size, i.bytes)) = some (some (.int .u8 0), 1, 1) := by kernel_rfl
theorem known_zero {m : Int} {w V : World} (h : Kb m w V) (n : Nat) (h1 : 4097 ≤ n) (h2 : n ≤ 65536) : Calls Tryd.prog 9 #[.slice (some ⟨V.heap.size, 0, none⟩) n n] (V.alloc (.cells (madeCells #[.int .u8 0] n) 5)) fun e W' => ∃ p1 k1 p2 k2, e = .returned (.tuple #[.slice p1 0 k1, .slice p2 1 k2]) ∧ RowAt W' p2 2 [[.int .i64 1, .int .i64 3]] ∧ Kb m w W' ∧ Below V.heap.size V W' := by
  obtain ⟨q, rfl⟩ : ∃ q, n = q + 1 := ⟨n - 1, by omega⟩
  have hb1 : Below V.heap.size V (V.alloc (.cells (madeCells #[.int .u8 0] (q + 1)) 5)) := (Below.refl _ _).alloc (Nat.le_refl _) _
  have hk := h.keep hb1
  have hz := zeros_bad q (by omega)
  have hcell : ∀ W', Below (V.alloc (.cells (madeCells #[.int .u8 0] (q + 1)) 5)).heap.size (V.alloc (.cells (madeCells #[.int .u8 0] (q + 1)) 5)) W' → ∀ i b, (List.replicate (q + 1) (0 : UInt8))[i]? = some b → W'.cell? ((⟨V.heap.size, 0, none⟩ : Addr).add i) = some (.int .u8 (b.toNat : Int)) := fun W' hW' i b hi => by
    rw [List.getElem?_replicate] at hi
    split at hi
    · rename_i hiq
      cases hi
      have hadd : (⟨V.heap.size, 0, none⟩ : Addr).add i = ⟨V.heap.size, i, none⟩ := by unfold Addr.add; split <;> simp_all
      have hlt : V.heap.size < (V.alloc (.cells (madeCells #[.int .u8 0] (q + 1)) 5)).heap.size := by show V.heap.size < (V.heap.push _).size; simp
      have hg := (hW'.block V.heap.size hlt).trans (heap_alloc_new V _)
      rw [hadd]
      simp only [World.cell?, hg]
      simp [madeCells, hiq]
      rw [Nat.mod_one]
      rfl
    · cases hi
  have hp := parse_any (some ⟨V.heap.size, 0, none⟩) (q + 1) (List.replicate (q + 1) 0) m _ hk.hm hk.pos (fun W' hW' => by rw [List.length_replicate]; exact conv_any W' _ (q + 1) (q + 1) _ (by rw [List.length_replicate]) (hcell W' hW')) (by rw [List.length_replicate]; omega)
  rw [List.length_replicate, hz] at hp
  refine hp.mono fun e W' h' => ?_
  obtain ⟨v1, v2, rfl, o1, o2, hb⟩ := h'
  obtain ⟨p1, k1, rfl, _⟩ := lines_at_row o1
  obtain ⟨p2, k2, rfl, r2⟩ := diags_at_row o2
  exact ⟨p1, k1, p2, k2, rfl, r2, hk.keep hb, hb1.trans (hb.mono hb1.size)⟩
/-- The size of a text. -/
def strZ : Value → Nat
  | .string s => s.size
  | _ => 0
theorem long_facts : ∃ R1 R2 L1 L2 : List UInt8, List.replicate (2 ^ 12) 120 = R1 ∧ (bs R1).size = 4096 ∧ (∀ V, (Instr.slice 9 (.string (bs R1)) none (some (.int .i64 4094)) none).run Tryd.prog V = .ok (.string (bs R2)) V) ∧ ([91, 65, 93, 10, 107, 61] ++ R1 = L1) ∧ ([91, 65, 93, 10, 107, 61] ++ R2 = L2) ∧ L1.length ≤ 5000 ∧ L2.length ≤ 5000 ∧ parseL L1 = ⟨[], [(2, 3)], [65]⟩ ∧ (parseL L2).found.length = 1 ∧ (parseL L2).wrong.length = 0 := by
  obtain ⟨n, hn⟩ : ∃ n, n = 4096 := ⟨_, rfl⟩
  obtain ⟨k, hk⟩ : ∃ k, k = 4094 := ⟨_, rfl⟩
  have h1 := long_bad n (by omega)
  have h2 := long_good k (by omega) (by omega)
  have hsz : (bs (List.replicate n (120 : UInt8))).size = n := by rw [bs_size, List.length_replicate]
  refine ⟨List.replicate n 120, List.replicate k 120, longL n, longL k, by rw [hn], by rw [hsz, hn], fun V => ?_, rfl, rfl, ?_, ?_, h1, h2.1, h2.2⟩
  · have := run_slice_string_h (P := Tryd.prog) V 9 (bs (List.replicate n 120)) Tryd.underlying9 .i64 (4094 : Int) (by omega) (by omega)
    rw [this, cut_bs, show (4094 : Int).toNat = k by omega, List.take_replicate, Nat.min_eq_left (by omega)]
    rfl
  · unfold longL; rw [List.length_append, List.length_replicate]; simp only [List.length_cons, List.length_nil]; omega
  · unfold longL; rw [List.length_append, List.length_replicate]; simp only [List.length_cons, List.length_nil]; omega
theorem meas_str (s t : ByteArray) (n : Nat) (h1 : s.size = n) (h2 : t.size = n + n) (h0 : 0 < n) (h3 : n ≤ 4096) : 8192 - strZ (.string t) < 8192 - strZ (.string s) := by
  show 8192 - t.size < 8192 - s.size
  omega
set_option maxHeartbeats 4000000 in
theorem linesKnown_any (m : Int) (w : World) (hm : w.cell? ⟨0, 0, none⟩ = some (.int .i64 m)) (h0 : 0 < w.heap.size) : Calls Tryd.prog 6 #[] w fun e w' => e = .returned (.bool true) ∧ Below w.heap.size w w' := by
  have HK0 : Hid (Kb m w w) := Lib.hid ⟨h0, hm, Below.refl _ _⟩
  have HROW : Hid (StrRow (w.alloc (.cells (textsK.map fun l => Value.string (bs l)).toArray 9)) (some ⟨w.heap.size, 0, none⟩) textsK) := Lib.hid (str_row w textsK)
  clear hm h0
  go_enter Tryd.func6, Tryd.ntmps6
  go_wp2_with fail
  have HB1 : Hid (∀ o, Below w.heap.size w (w.alloc o)) := Lib.hid fun o => (Below.refl _ _).alloc (Nat.le_refl _) o
  go_loopw [14] (fun i wr => ∃ k : Nat, k ≤ 27 ∧ i = .int .i64 k ∧ StrRow wr (some ⟨w.heap.size, 0, none⟩) textsK ∧ Kb m w wr) (fun i _ => 27 - (intOf i).toNat)
  case atStart => exact ⟨0, by omega, rfl, HROW.out, HK0.out.keep (HB1.out _)⟩
  case round =>
    obtain ⟨k, hk, rfl, hr, hkb⟩ := hrel
    have HR := Lib.hid hr
    have HKB := Lib.hid hkb
    clear hr hkb HROW HB1
    by_cases hlt : k < 27
    · obtain ⟨l, hl⟩ : ∃ l, textsK[k]? = some l := ⟨_, List.getElem?_eq_getElem hlt⟩
      obtain ⟨a, ea, _, hc⟩ := HR.out k l hl
      have hc : wr.cell? ⟨w.heap.size, k, none⟩ = some (.string (bs l)) := by
        cases ea
        have h2 : (⟨w.heap.size, 0, none⟩ : Addr).add k = ⟨w.heap.size, k, none⟩ := by unfold Addr.add; split <;> simp_all
        rw [h2] at hc
        exact hc
      have hcv := conv_run l
      clear ea hl
      generalize bs l = S at *
      go_wp2_with (first
        | (go_at_call 3; refine (known_parse HKB.out l).mono ?_; rintro e W1 ⟨rfl, hk1, hb1⟩; have K1 := Lib.hid hk1; have R1 := Lib.hid (HR.out.keep hb1); clear hk1 hb1)
        | (go_at_call 4; refine (known_back K1.out l).mono ?_; rintro e W2 ⟨rfl, hk2, hb2⟩; have K2 := Lib.hid hk2; have R2 := Lib.hid (R1.out.keep hb2); clear hk2 hb2)
        | (go_at_call 5; refine (known_passed K2.out l).mono ?_; rintro e W3 ⟨rfl, hk3, hb3⟩; have K3 := Lib.hid hk3; have R3 := Lib.hid (R2.out.keep hb3); clear hk3 hb3)
        | fail)
      go_roundw
      case rel => exact ⟨k + 1, hlt, by go_num, R3.out, K3.out⟩
      case measure => simp only [intOf]; omega
    · obtain rfl : k = 27 := by omega
      obtain ⟨L0, L1, T0, T1, q1, q2, q3, q4, q5, q6, q7, q8, q9, q10⟩ := long_facts
      have HQ1 := Lib.hid q1
      have ha1 := add_bs [91, 65, 93, 10, 107, 61] L0 T0 q4 (by omega)
      have ha2 := add_bs [91, 65, 93, 10, 107, 61] L1 T1 q5 (by omega)
      have hc1 := conv_run T0
      have hc2 := conv_run T1
      have HP1 : Hid (∀ V, Kb m w V → Calls Tryd.prog 9 #[cV V T0] (cW V T0) fun e W' => ∃ p1 k1 g k2, e = .returned (.tuple #[.slice p1 0 k1, .slice (some ⟨g, 0, none⟩) 1 k2]) ∧ g < W'.heap.size ∧ W'.cell? ⟨g, 1, none⟩ = some (.int .i64 3) ∧ Kb m w W' ∧ Below V.heap.size V W') := Lib.hid fun V hV => (known_lit hV T0 (by omega)).mono fun e W' h => by
        obtain ⟨p1, k1, p2, k2, he, hr, hk, _, hb⟩ := h
        rw [q8] at he hr
        obtain ⟨g, rfl, hg, hc⟩ := hr 0 _ rfl
        exact ⟨p1, k1, g, k2, he, hg, hc 1 _ rfl, hk, hb⟩
      have HP2 : Hid (∀ V, Kb m w V → Calls Tryd.prog 9 #[cV V T1] (cW V T1) fun e W' => ∃ p1 k1 p2 k2, e = .returned (.tuple #[.slice p1 1 k1, .slice p2 0 k2]) ∧ Kb m w W' ∧ Below V.heap.size V W') := Lib.hid fun V hV => (known_lit hV T1 (by omega)).mono fun e W' h => by
        obtain ⟨p1, k1, p2, k2, he, hr, hk, _, hb⟩ := h
        rw [q9, q10] at he
        exact ⟨p1, k1, p2, k2, he, hk, hb⟩
      clear q1 q4 q5 q6 q7 q8 q9 q10 HR
      generalize hS0 : bs L0 = S0 at *
      generalize bs L1 = S1 at *
      generalize bs T0 = U0 at *
      generalize bs T1 = U1 at *
      have HS0 := Lib.hid hS0
      clear hS0
      go_wp2_with fail
      go_loop [3] (fun s => ∃ j : Nat, j ≤ 12 ∧ s = .string (bs (List.replicate (2 ^ j) 120))) (fun s => 8192 - strZ s)
      case atStart => exact ⟨0, by omega, rfl⟩
      case round =>
        obtain ⟨j, hj, rfl⟩ := hrel
        by_cases hj2 : j < 12
        · have hpw : 2 ^ j ≤ 2 ^ 11 := Nat.pow_le_pow_right (by omega) (by omega)
          have hp0 : 0 < 2 ^ j := Nat.pow_pos (by omega)
          have hsx : (bs (List.replicate (2 ^ j) (120 : UInt8))).size = 2 ^ j := by rw [bs_size, List.length_replicate]
          have hsy : (bs (List.replicate (2 ^ j + 2 ^ j) (120 : UInt8))).size = 2 ^ j + 2 ^ j := by rw [bs_size, List.length_replicate]
          have hnx : 2 ^ (j + 1) = 2 ^ j + 2 ^ j := by rw [Nat.pow_succ]; omega
          have ha := add_bs (List.replicate (2 ^ j) 120) (List.replicate (2 ^ j) 120) (List.replicate (2 ^ j + 2 ^ j) 120) (by rw [List.replicate_append_replicate]) (by rw [List.length_replicate]; omega)
          have HNX : Hid (bs (List.replicate (2 ^ j + 2 ^ j) (120 : UInt8)) = bs (List.replicate (2 ^ (j + 1)) 120)) := Lib.hid (by rw [hnx])
          clear hnx
          generalize bs (List.replicate (2 ^ j + 2 ^ j) (120 : UInt8)) = Y at *
          generalize bs (List.replicate (2 ^ j) (120 : UInt8)) = X at *
          generalize 2 ^ j = n at *
          have hlt2 : (X.size : Int) < 4096 := by omega
          go_wp2_with fail
          go_round
          case rel => exact ⟨j + 1, by omega, congrArg Value.string HNX.out⟩
          case measure => exact meas_str X Y n hsx hsy hp0 (by omega)
        · obtain rfl : j = 12 := by omega
          rw [HQ1.out, HS0.out]
          have hge : ¬ (S0.size : Int) < 4096 := by omega
          obtain ⟨Z1, hZ1⟩ : ∃ Z, madeCells #[.int .u8 0] 65537 = Z := ⟨_, rfl⟩
          obtain ⟨Z2, hZ2⟩ : ∃ Z, madeCells #[.int .u8 0] 65536 = Z := ⟨_, rfl⟩
          have hmk1 : ∀ W : World, (Instr.makeSlice 22 (.int .i64 65537) (.int .i64 65537)).run Tryd.prog W = .ok (.slice (some ⟨W.heap.size, 0, none⟩) 65537 65537) (W.alloc (.cells Z1 5)) := fun W => by
            rw [← hZ1]
            exact run_make_row' (P := Tryd.prog) 22 5 (.int .u8 0) 1 Tryd.underlying22 u8_made rfl .i64 .i64 65537 (by omega) (by omega) W
          have hmk2 : ∀ W : World, (Instr.makeSlice 22 (.int .i64 65536) (.int .i64 65536)).run Tryd.prog W = .ok (.slice (some ⟨W.heap.size, 0, none⟩) 65536 65536) (W.alloc (.cells Z2 5)) := fun W => by
            rw [← hZ2]
            exact run_make_row' (P := Tryd.prog) 22 5 (.int .u8 0) 1 Tryd.underlying22 u8_made rfl .i64 .i64 65536 (by omega) (by omega) W
          have HP3 : Hid (∀ V, Kb m w V → Calls Tryd.prog 9 #[.slice (some ⟨V.heap.size, 0, none⟩) 65537 65537] (V.alloc (.cells Z1 5)) fun e W' => ∃ g k2, e = .returned (.tuple #[.slice none 0 0, .slice (some ⟨g, 0, none⟩) 1 k2]) ∧ g < W'.heap.size ∧ W'.cell? ⟨g, 0, none⟩ = some (.int .i64 0) ∧ W'.cell? ⟨g, 1, none⟩ = some (.int .i64 3) ∧ Kb m w W' ∧ Below V.heap.size V W') := Lib.hid fun V hV => (parse_huge (some ⟨V.heap.size, 0, none⟩) 65537 65537 (V.alloc (.cells Z1 5)) (by omega)).mono fun e W' h => by
            obtain ⟨k2, he, c0, c1, hb⟩ := h
            have hb1 : Below V.heap.size V (V.alloc (.cells Z1 5)) := (Below.refl _ _).alloc (Nat.le_refl _) _
            have hb2 := hb1.trans (hb.mono hb1.size)
            exact ⟨_, k2, he, here (p := ⟨_, 0, none⟩) c0, c0, c1, hV.keep hb2, hb2⟩
          have HP4 : Hid (∀ V, Kb m w V → Calls Tryd.prog 9 #[.slice (some ⟨V.heap.size, 0, none⟩) 65536 65536] (V.alloc (.cells Z2 5)) fun e W' => ∃ p1 k1 g k2, e = .returned (.tuple #[.slice p1 0 k1, .slice (some ⟨g, 0, none⟩) 1 k2]) ∧ W'.cell? ⟨g, 0, none⟩ = some (.int .i64 1) ∧ W'.cell? ⟨g, 1, none⟩ = some (.int .i64 3) ∧ Kb m w W' ∧ Below V.heap.size V W') := Lib.hid fun V hV => by
            have h := known_zero hV 65536 (by omega) (by omega)
            rw [hZ2] at h
            refine h.mono fun e W' h => ?_
            obtain ⟨p1, k1, p2, k2, he, hr, hk, hb⟩ := h
            obtain ⟨g, rfl, _, hc⟩ := hr 0 _ rfl
            exact ⟨p1, k1, g, k2, he, hc 0 _ rfl, hc 1 _ rfl, hk, hb⟩
          have HWK : Hid (∀ V, Kb m w V → Calls Tryd.prog 8 #[] V fun e w' => e = .returned (.bool true) ∧ Below w.heap.size w w') := Lib.hid fun V hV => (works_any m V hV.hm hV.pos).mono fun e w' ⟨he, hb⟩ => ⟨he, hV.b.trans (hb.mono hV.b.size)⟩
          clear hZ1 hZ2
          go_wp2_with (first
            | (go_at_call 9; refine (HP1.out wr HKB.out).mono ?_; clear HP1; rintro e V1 ⟨p1, k1, g1, k2, rfl, hg1, c1, hk1, hb1⟩; have K1 := Lib.hid hk1; have G1 := Lib.hid hg1; have C1 := Lib.hid c1; clear hk1 hb1 hg1 c1)
            | (go_at_call 9; refine (HP2.out V1 K1.out).mono ?_; clear HP2; rintro e V2 ⟨p3, k3, p4, k4, rfl, hk2, hb2⟩; have K2 := Lib.hid hk2; have a1 := (hb2.cell (p := ⟨g1, 1, none⟩) G1.out).trans C1.out; clear hk2 hb2)
            | (go_at_call 9; refine (HP3.out V2 K2.out).mono ?_; clear HP3; rintro e V3 ⟨g5, k6, rfl, hg5, b0, b1, hk3, hb3⟩; have K3 := Lib.hid hk3; have G5 := Lib.hid hg5; have B0 := Lib.hid b0; have B1 := Lib.hid b1; clear hk3 hb3 hg5 b0 b1)
            | (go_at_call 9; refine (HP4.out V3 K3.out).mono ?_; clear HP4; rintro e V4 ⟨p7, k7, g8, k8, rfl, d0, d1, hk4, hb4⟩; have K4 := Lib.hid hk4; have e0 := (hb4.cell (p := ⟨g5, 0, none⟩) G5.out).trans B0.out; have e1 := (hb4.cell (p := ⟨g5, 1, none⟩) G5.out).trans B1.out; clear hk4 hb4)
            | (go_at_call 8; refine (HWK.out V4 K4.out).mono ?_; rintro e V ⟨rfl, hb9⟩; have HB9 := Lib.hid hb9; clear hb9)
            | fail)
          go_ret
          exact ⟨rfl, HB9.out⟩
end Go.Proofs.YtokeepmlibolfaaDoor.Ln
