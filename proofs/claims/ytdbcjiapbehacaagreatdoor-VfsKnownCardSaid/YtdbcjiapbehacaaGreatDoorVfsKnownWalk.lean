/-
  Layer 5: the law VfsKnown: its walk (written by gen_known5.py).
-/
import Derived.Test.YtdbcjiapbehacaaGreatDoorVqN
namespace Go.Proofs.YtdbcjiapbehacaaGreatDoor.Vp
open Go.RowKit Go.Maps
open Go.Proofs.YtdbcjiapbehacaaGreatDoor.Vf (Hold OwnR Owns Fs FineD Moves bl_drewN Reads Reads.at_ Reads.len OwnR.reads wpList_append_row)

def row14 (L : ByteArray) : List ByteArray := [⟨#[]⟩, ⟨#[47]⟩, ⟨#[97]⟩, ⟨#[47, 97, 47]⟩, ⟨#[47, 47]⟩, ⟨#[47, 97, 47, 47, 98]⟩, ⟨#[47, 97, 0]⟩, L, L ++ ⟨#[120]⟩, L ++ L, ⟨#[47, 97]⟩, ⟨#[47, 97, 47, 98]⟩, ⟨#[47, 97, 47, 98, 47, 99]⟩, ⟨#[47, 195, 169]⟩]
theorem row14_get {L : ByteArray} {k : Nat} (h : k < 14) (hL : L.size = 65) : ∃ S, (row14 L)[k]? = some S ∧ S.size ≤ 1000 := by
  have hl : k < (row14 L).length := h
  refine ⟨_, List.getElem?_eq_getElem hl, ?_⟩
  have h1 : (L ++ ⟨#[120]⟩).size = 66 := by rw [ByteArray.size_append, hL]; rfl
  have h2 : (L ++ L).size = 130 := by rw [ByteArray.size_append, hL]
  have key : ∀ x ∈ row14 L, x.size ≤ 1000 := by
    unfold row14
    simp only [List.forall_mem_cons]
    refine ⟨by decide, by decide, by decide, by decide, by decide, by decide, by decide, by omega, by omega, by omega, by decide, by decide, by decide, by decide, fun x hx => by cases hx⟩
  exact key _ (List.getElem_mem hl)
def seq13 (k : Nat) (N : Int) : List Op := [⟨0, ⟨#[47, 100]⟩, ⟨#[]⟩, 0⟩, ⟨8, ⟨#[]⟩, ⟨#[]⟩, (k : Int)⟩, ⟨1, ⟨#[47, 100, 47, 116]⟩, ⟨#[97, 98, 99, 100, 101, 102]⟩, 0⟩, ⟨2, ⟨#[47, 100, 47, 116]⟩, ⟨#[]⟩, 0⟩, ⟨4, ⟨#[47, 100, 47, 116]⟩, ⟨#[47, 100, 47, 115]⟩, 0⟩, ⟨3, ⟨#[47, 100]⟩, ⟨#[]⟩, 0⟩, ⟨1, ⟨#[47, 100, 47, 115]⟩, ⟨#[120, 121]⟩, 0⟩, ⟨5, ⟨#[47, 100, 47, 115]⟩, ⟨#[]⟩, 0⟩, ⟨10, ⟨#[]⟩, ⟨#[]⟩, (k : Int)⟩, ⟨9, ⟨#[]⟩, ⟨#[]⟩, N⟩, ⟨7, ⟨#[47, 100]⟩, ⟨#[]⟩, 0⟩, ⟨6, ⟨#[47, 100, 47, 115]⟩, ⟨#[]⟩, 0⟩, ⟨6, ⟨#[47, 100, 47, 116]⟩, ⟨#[]⟩, 0⟩]
theorem ok_op (m : Nat) (a b : ByteArray) (n : Int) (hm : m ≤ 255) (ha : a.size ≤ 1000) (hb : b.size ≤ 1000) (hn : -9223372036854775808 ≤ n ∧ n ≤ 9223372036854775807) : Op.Ok ⟨m, a, b, n⟩ := ⟨⟨Int.natCast_nonneg m, by show (m : Int) ≤ 255; omega⟩, by unfold maxLen; show a.size ≤ _; omega, by unfold maxLen; show b.size ≤ _; omega, hn⟩
theorem seq13_ok {k : Nat} {N : Int} (hk : k < 12) (hN : 0 ≤ N ∧ N ≤ 1000) : ∀ o ∈ seq13 k N, o.Ok := by
  have hk2 : -9223372036854775808 ≤ (k : Int) ∧ (k : Int) ≤ 9223372036854775807 := by omega
  have hN2 : -9223372036854775808 ≤ N ∧ N ≤ 9223372036854775807 := by omega
  have h0 : -9223372036854775808 ≤ (0 : Int) ∧ (0 : Int) ≤ 9223372036854775807 := by decide
  unfold seq13
  simp only [List.forall_mem_cons]
  refine ⟨ok_op 0 _ _ _ (by decide) (by decide) (by decide) h0, ok_op 8 _ _ _ (by decide) (by decide) (by decide) hk2, ok_op 1 _ _ _ (by decide) (by decide) (by decide) h0, ok_op 2 _ _ _ (by decide) (by decide) (by decide) h0, ok_op 4 _ _ _ (by decide) (by decide) (by decide) h0, ok_op 3 _ _ _ (by decide) (by decide) (by decide) h0, ok_op 1 _ _ _ (by decide) (by decide) (by decide) h0, ok_op 5 _ _ _ (by decide) (by decide) (by decide) h0, ok_op 10 _ _ _ (by decide) (by decide) (by decide) hk2, ok_op 9 _ _ _ (by decide) (by decide) (by decide) hN2, ok_op 7 _ _ _ (by decide) (by decide) (by decide) h0, ok_op 6 _ _ _ (by decide) (by decide) (by decide) h0, ok_op 6 _ _ _ (by decide) (by decide) (by decide) h0, fun x hx => by cases hx⟩
set_option maxRecDepth 100000 in
set_option maxHeartbeats 8000000 in
theorem vfsKnown_any (w : World) : Calls Tryz.prog 7 #[] w fun e w' => e = .returned (.bool true) ∧ Below w.heap.size w w' := by
  have HWK := Lib.hid (fun W => works_any W)
  have HPL : Hid (∀ V A n c os, n ≤ 1000 → Ops V V.heap.size A n os → ∀ most : Int, (-1000 ≤ most ∧ most ≤ 1000) → Calls Tryz.prog 3 #[.int .i64 most, .slice A n c] V fun e V' => e = .returned (.bool true) ∧ Below V.heap.size V V') := Lib.hid fun V A n c os hn ho most hm => vfsPlays_any most A n c os V (by omega) (by omega) ho
  have HKP : Hid (∀ V A n c os, n ≤ 1000 → Ops V V.heap.size A n os → ∀ (t : ByteArray) (x : Int), t.size ≤ 1000 → Calls Tryz.prog 4 #[.slice A n c, .slice A n c, .string t, .int .i64 x] V fun e V' => e = .returned (.bool true) ∧ Below V.heap.size V V') := Lib.hid fun V A n c os hn ho t x ht => vfsKeeps_any A A n c n c os os t x V (by omega) (by omega) ho ho (by omega)
  have HRN : Hid (∀ V t u c s x, 0 ≤ c → c ≤ 255 → Calls Tryz.prog 5 #[.string t, .string u, .int .u8 c, .bool s, .int .i64 x] V fun e V' => e = .returned (.bool true) ∧ Below V.heap.size V V') := Lib.hid fun V t u c s x h1 h2 => vfsRename_any t u c s x V ⟨h1, h2⟩
  go_enter Tryz.func7, Tryz.ntmps7
  go_wp2_with fail
  go_loopw [1, 2] (fun x i wr => ∃ (k : Nat) (L : ByteArray), k ≤ 64 ∧ x = .string L ∧ L.size = k + 1 ∧ i = .int .i64 k ∧ wr = w) (fun _ i _ => 64 - (intOf i).toNat)
  case atStart => exact ⟨0, _, by omega, rfl, rfl, rfl, rfl⟩
  case round =>
    obtain ⟨k, L, hk, rfl, hL, rfl, rfl⟩ := hrel
    by_cases hlt : k < 64
    · have hk1 : (k : Int) < 64 := by omega
      have hk0 : (0 : Int) ≤ (k : Int) := by omega
      have y1 : ¬ 9223372036854775807 < L.size + 1 := by omega
      have z1 : L.size + 1 ≤ 9223372036854775807 := by omega
      have z2 : L.size + (⟨#[120]⟩ : ByteArray).size ≤ 9223372036854775807 := z1
      go_wp2_with fail
      exact ⟨⟨k + 1, L ++ ⟨#[120]⟩, by omega, rfl, by rw [ByteArray.size_append]; show L.size + 1 = _; omega, by go_num, by first | rfl | trivial⟩, by simp [intOf]; omega⟩
    · have hk1 : ¬ (k : Int) < 64 := by omega
      have hL65 : L.size = 65 := by omega
      have z1 : L.size + 1 ≤ 9223372036854775807 := by omega
      have z2 : L.size + (⟨#[120]⟩ : ByteArray).size ≤ 9223372036854775807 := z1
      have z3 : L.size + L.size ≤ 9223372036854775807 := by omega
      clear hlt
      go_wp2_with fail
      clear hk1 hk
      have hG := heap_alloc_new wr (.cells #[.string ⟨#[]⟩, .string ⟨#[47]⟩, .string ⟨#[97]⟩, .string ⟨#[47, 97, 47]⟩, .string ⟨#[47, 47]⟩, .string ⟨#[47, 97, 47, 47, 98]⟩, .string ⟨#[47, 97, 0]⟩, .string L, .string (L ++ ⟨#[120]⟩), .string (L ++ L), .string ⟨#[47, 97]⟩, .string ⟨#[47, 97, 47, 98]⟩, .string ⟨#[47, 97, 47, 98, 47, 99]⟩, .string ⟨#[47, 195, 169]⟩] 9)
      have hbl : Below wr.heap.size wr (wr.alloc (.cells #[.string ⟨#[]⟩, .string ⟨#[47]⟩, .string ⟨#[97]⟩, .string ⟨#[47, 97, 47]⟩, .string ⟨#[47, 47]⟩, .string ⟨#[47, 97, 47, 47, 98]⟩, .string ⟨#[47, 97, 0]⟩, .string L, .string (L ++ ⟨#[120]⟩), .string (L ++ L), .string ⟨#[47, 97]⟩, .string ⟨#[47, 97, 47, 98]⟩, .string ⟨#[47, 97, 47, 98, 47, 99]⟩, .string ⟨#[47, 195, 169]⟩] 9)) := (Below.refl _ _).alloc (Nat.le_refl _) _
      have hsz : (wr.alloc (.cells #[.string ⟨#[]⟩, .string ⟨#[47]⟩, .string ⟨#[97]⟩, .string ⟨#[47, 97, 47]⟩, .string ⟨#[47, 47]⟩, .string ⟨#[47, 97, 47, 47, 98]⟩, .string ⟨#[47, 97, 0]⟩, .string L, .string (L ++ ⟨#[120]⟩), .string (L ++ L), .string ⟨#[47, 97]⟩, .string ⟨#[47, 97, 47, 98]⟩, .string ⟨#[47, 97, 47, 98, 47, 99]⟩, .string ⟨#[47, 195, 169]⟩] 9)).heap.size = wr.heap.size + 1 := by simp
      obtain ⟨G, hGe⟩ : ∃ G, wr.heap.size = G := ⟨_, rfl⟩
      generalize wr.alloc (.cells #[.string ⟨#[]⟩, .string ⟨#[47]⟩, .string ⟨#[97]⟩, .string ⟨#[47, 97, 47]⟩, .string ⟨#[47, 47]⟩, .string ⟨#[47, 97, 47, 47, 98]⟩, .string ⟨#[47, 97, 0]⟩, .string L, .string (L ++ ⟨#[120]⟩), .string (L ++ L), .string ⟨#[47, 97]⟩, .string ⟨#[47, 97, 47, 98]⟩, .string ⟨#[47, 97, 47, 98, 47, 99]⟩, .string ⟨#[47, 195, 169]⟩] 9) = v2 at hG hbl hsz ⊢
      rw [hGe] at hG hsz
      try rw [hGe]
      have HROW0 : Hid (Hold v2 G 9 ((row14 L).map Value.string)) := Lib.hid hG
      have HBL0 := Lib.hid hbl
      obtain ⟨B, hB⟩ : ∃ B, G + 1 = B := ⟨_, rfl⟩
      have HSZ0 : Hid (B ≤ v2.heap.size) := Lib.hid (by omega)
      have HGB : Hid (G < B) := Lib.hid (by omega)
      have HGW : Hid (wr.heap.size ≤ G) := Lib.hid (by omega)
      have HL65 := Lib.hid hL65
      clear hG hbl hsz hB hGe hL hL65 z1 z2 z3
      obtain ⟨w0, rfl⟩ : ∃ wo : World, wo = wr := ⟨_, rfl⟩
      go_loopw [3, 26] (fun x i wr => ∃ (k : Nat) (os : List Op) (A : Option Addr) (c : Nat), k ≤ 14 ∧ i = .int .i64 k ∧ x = .slice A os.length c ∧ OwnR wr B 32 4 (.slice A os.length c) (os.map opCells) ∧ (∀ o ∈ os, o.Ok) ∧ os.length ≤ 76 ∧ Hold wr G 9 ((row14 L).map Value.string) ∧ Below w0.heap.size w0 wr ∧ B ≤ wr.heap.size) (fun _ i _ => 14 - (intOf i).toNat)
      case atStart => exact ⟨0, [], none, 0, by omega, rfl, rfl, OwnR.nil _ _ _ _, fun o ho => (by cases ho), by simp, HROW0.out, HBL0.out, HSZ0.out⟩
      case round =>
        clear HROW0 HBL0 HSZ0
        obtain ⟨k, os, A, c, hk, rfl, rfl, hown, hok, hol, hrow, hbl, hsz⟩ := hrel
        have HOWN := Lib.hid hown; have HOK := Lib.hid hok; have HROW := Lib.hid hrow; have HBL := Lib.hid hbl; have HSZ := Lib.hid hsz
        clear hown hok hrow hbl hsz
        by_cases hlt : k < 14
        · obtain ⟨S, hS, hSs⟩ := row14_get hlt HL65.out
          have q0 : wr.cell? ⟨G, k, none⟩ = some (.string S) := by rw [HROW.out.cell, List.getElem?_map, hS]; rfl
          have hk0 : (0 : Int) ≤ (k : Int) := by omega
          have hk1 : (k : Int) < 14 := by omega
          clear hS
          go_wp2_with fail
          clear q0
          obtain ⟨w1, rfl⟩ : ∃ wo : World, wo = wr := ⟨_, rfl⟩
          go_loopw [3, 6] (fun x i wr => ∃ (m : Nat) (os : List Op) (A : Option Addr) (c : Nat), m ≤ 8 ∧ i = .int .u8 m ∧ x = .slice A os.length c ∧ OwnR wr B 32 4 (.slice A os.length c) (os.map opCells) ∧ (∀ o ∈ os, o.Ok) ∧ os.length ≤ 76 ∧ Hold wr G 9 ((row14 L).map Value.string) ∧ Below w0.heap.size w0 wr ∧ B ≤ wr.heap.size) (fun _ i _ => 8 - (intOf i).toNat)
          case atStart => exact ⟨0, os, A, c, by omega, rfl, rfl, HOWN.out, HOK.out, hol, HROW.out, HBL.out, HSZ.out⟩
          case round =>
            clear HOWN HOK HROW HBL HSZ hol
            obtain ⟨m, os, A, c, hm, rfl, rfl, hown, hok, hol, hrow, hbl, hsz⟩ := hrel
            have HOWN := Lib.hid hown; have HOK := Lib.hid hok; have HROW := Lib.hid hrow; have HBL := Lib.hid hbl; have HSZ := Lib.hid hsz
            clear hown hok hrow hbl hsz
            by_cases hlt2 : m < 8
            · have hm0 : (0 : Int) ≤ (m : Int) := by omega
              have hm1 : (m : Int) < 8 := by omega
              have hb1 : Below wr.heap.size wr (wr.alloc (.cells #[.int .u8 m, .string S, .string ⟨#[47, 97, 47, 122]⟩, .int .i64 0, .int .u8 4, .string ⟨#[47, 97, 47, 122]⟩, .string S, .int .i64 0] 32)) := (Below.refl _ _).alloc (Nat.le_refl _) _
              have HAL := Lib.hid (HOWN.out.keep hb1)
              have HNP := Lib.hid (ops_lit wr 0 [⟨m, S, ⟨#[47, 97, 47, 122]⟩, 0⟩, ⟨4, ⟨#[47, 97, 47, 122]⟩, S, 0⟩] #[.int .u8 m, .string S, .string ⟨#[47, 97, 47, 122]⟩, .int .i64 0, .int .u8 4, .string ⟨#[47, 97, 47, 122]⟩, .string S, .int .i64 0] (Nat.zero_le _) rfl (by simp)).reads
              have HB1 := Lib.hid hb1
              have hPs : B ≤ (wr.alloc (.cells #[.int .u8 m, .string S, .string ⟨#[47, 97, 47, 122]⟩, .int .i64 0, .int .u8 4, .string ⟨#[47, 97, 47, 122]⟩, .string S, .int .i64 0] 32)).heap.size := Nat.le_trans HSZ.out hb1.size
              have HPS := Lib.hid hPs
              have HOK2 : Hid (∀ o ∈ os ++ [⟨m, S, ⟨#[47, 97, 47, 122]⟩, 0⟩, ⟨4, ⟨#[47, 97, 47, 122]⟩, S, 0⟩], o.Ok) := Lib.hid fun o ho => by
                rcases List.mem_append.1 ho with ho | ho
                · exact HOK.out o ho
                · rcases List.mem_cons.1 ho with rfl | ho
                  · exact ok_op m _ _ _ (by omega) hSs (by decide) (by decide)
                  · rw [List.mem_singleton.1 ho]; exact ok_op 4 _ _ _ (by decide) (by decide) hSs (by decide)
              have hlen : (os.map opCells ++ [⟨m, S, ⟨#[47, 97, 47, 122]⟩, 0⟩, ⟨4, ⟨#[47, 97, 47, 122]⟩, S, 0⟩].map opCells).length = os.length + 2 := by simp
              have HLEN := Lib.hid hlen
              clear hb1 hPs hlen
              by_cases hbig : 76 < os.length + 2
              · have hbi : (76 : Int) < ((os.length + 2 : Nat) : Int) := by omega
                go_wp2_with (first
                  | (at_builtin; refine wpList_append_row rfl (.tmp 34) (.tmp 40) rfl Tryz.underlying22 op_info rfl (by decide) (by decide) rfl rfl HAL.out HNP.out (op_cells_one _).1 (op_cells_one _).2 (by rw [List.length_map]; simp; omega) HPS.out ?_; intro v' V hown hgr hat; obtain ⟨A', c', rfl⟩ := hown.reads.len; rw [HLEN.out] at hown ⊢; rw [← List.map_append] at hown; have HOW := Lib.hid hown; have HGR := Lib.hid hgr; clear hown hgr hat)
                  | (go_at_call 3; refine (HPL.out _ _ _ _ _ (by omega) (own_ops HOW.out HOK2.out) 50 (by decide)).mono ?_; rintro e V2 ⟨rfl, hb2⟩; have HB2 := Lib.hid hb2; clear hb2)
                  | fail)
                have hbV : Below w0.heap.size w0 V := (HBL.out.trans (HB1.out.mono HBL.out.size)).trans (HAL.out.below HGR.out (Nat.le_trans HGW.out (Nat.le_of_lt HGB.out)) (Nat.le_trans HBL.out.size HB1.out.size))
                have hrV : Hold V G 9 ((row14 L).map Value.string) := (HROW.out.keep (HB1.out.block G HROW.out.lt)).keep (HGR.out.block G (Nat.lt_of_lt_of_le HROW.out.lt HB1.out.size) (fun e => by have := (HAL.out.lt G e.symm).1; have := HGB.out; omega))
                exact ⟨⟨m + 1, [], none, 0, by omega, by go_num, rfl, OwnR.nil _ _ _ _, fun o ho => (by cases ho), by simp, hrV.keep (HB2.out.block G hrV.lt), hbV.trans (HB2.out.mono hbV.size), Nat.le_trans HPS.out (Nat.le_trans HGR.out.size HB2.out.size)⟩, by simp [intOf]; omega⟩
              · have hbi : ¬ (76 : Int) < ((os.length + 2 : Nat) : Int) := by omega
                go_wp2_with (first
                  | (at_builtin; refine wpList_append_row rfl (.tmp 34) (.tmp 40) rfl Tryz.underlying22 op_info rfl (by decide) (by decide) rfl rfl HAL.out HNP.out (op_cells_one _).1 (op_cells_one _).2 (by rw [List.length_map]; simp; omega) HPS.out ?_; intro v' V hown hgr hat; obtain ⟨A', c', rfl⟩ := hown.reads.len; rw [HLEN.out] at hown ⊢; rw [← List.map_append] at hown; have HOW := Lib.hid hown; have HGR := Lib.hid hgr; clear hown hgr hat)
                  | fail)
                have hbV : Below w0.heap.size w0 V := (HBL.out.trans (HB1.out.mono HBL.out.size)).trans (HAL.out.below HGR.out (Nat.le_trans HGW.out (Nat.le_of_lt HGB.out)) (Nat.le_trans HBL.out.size HB1.out.size))
                have hrV : Hold V G 9 ((row14 L).map Value.string) := (HROW.out.keep (HB1.out.block G HROW.out.lt)).keep (HGR.out.block G (Nat.lt_of_lt_of_le HROW.out.lt HB1.out.size) (fun e => by have := (HAL.out.lt G e.symm).1; have := HGB.out; omega))
                exact ⟨⟨m + 1, os ++ [⟨m, S, ⟨#[47, 97, 47, 122]⟩, 0⟩, ⟨4, ⟨#[47, 97, 47, 122]⟩, S, 0⟩], A', c', by omega, by go_num, by simp, by rw [List.length_append]; exact HOW.out, HOK2.out, by rw [List.length_append]; show os.length + 2 ≤ 76; omega, hrV, hbV, Nat.le_trans HPS.out HGR.out.size⟩, by simp [intOf]; omega⟩
            · have hm1 : ¬ (m : Int) < 8 := by omega
              go_wp2_with fail
              exact ⟨⟨k + 1, os, A, c, by omega, by go_num, rfl, HOWN.out, HOK.out, hol, HROW.out, HBL.out, HSZ.out⟩, by simp [intOf]; omega⟩
        · have hk1 : ¬ (k : Int) < 14 := by omega
          go_wp2_with fail
          clear hk1 hlt hk
          obtain ⟨w1, rfl⟩ : ∃ wo : World, wo = wr := ⟨_, rfl⟩
          go_loopw [7] (fun i wr => ∃ (k : Nat), k ≤ 12 ∧ i = .int .i64 k ∧ OwnR wr B 32 4 (.slice A os.length c) (os.map opCells) ∧ Below w0.heap.size w0 wr) (fun i _ => 12 - (intOf i).toNat)
          case atStart => exact ⟨0, by omega, rfl, HOWN.out, HBL.out⟩
          case round =>
            clear HOWN HBL HROW HSZ
            obtain ⟨k, hk, rfl, hown, hbl⟩ := hrel
            have HOWN := Lib.hid hown; have HBL := Lib.hid hbl
            clear hown hbl
            by_cases hlt : k < 12
            · have hk0 : (0 : Int) ≤ (k : Int) := by omega
              have hk1 : (k : Int) < 12 := by omega
              obtain ⟨N, hN⟩ : ∃ N : Int, (k : Int) * 7 = N := ⟨_, rfl⟩
              have hN0 : 0 ≤ N := by omega
              have hN1 : N ≤ 1000 := by omega
              have HSO : Hid (∀ o ∈ seq13 k N, o.Ok) := Lib.hid (seq13_ok hlt ⟨hN0, hN1⟩)
              have hs13 : OwnR (wr.alloc (.cells #[.int .u8 0, .string ⟨#[47, 100]⟩, .string ⟨#[]⟩, .int .i64 0, .int .u8 8, .string ⟨#[]⟩, .string ⟨#[]⟩, .int .i64 k, .int .u8 1, .string ⟨#[47, 100, 47, 116]⟩, .string ⟨#[97, 98, 99, 100, 101, 102]⟩, .int .i64 0, .int .u8 2, .string ⟨#[47, 100, 47, 116]⟩, .string ⟨#[]⟩, .int .i64 0, .int .u8 4, .string ⟨#[47, 100, 47, 116]⟩, .string ⟨#[47, 100, 47, 115]⟩, .int .i64 0, .int .u8 3, .string ⟨#[47, 100]⟩, .string ⟨#[]⟩, .int .i64 0, .int .u8 1, .string ⟨#[47, 100, 47, 115]⟩, .string ⟨#[120, 121]⟩, .int .i64 0, .int .u8 5, .string ⟨#[47, 100, 47, 115]⟩, .string ⟨#[]⟩, .int .i64 0, .int .u8 10, .string ⟨#[]⟩, .string ⟨#[]⟩, .int .i64 k, .int .u8 9, .string ⟨#[]⟩, .string ⟨#[]⟩, .int .i64 N, .int .u8 7, .string ⟨#[47, 100]⟩, .string ⟨#[]⟩, .int .i64 0, .int .u8 6, .string ⟨#[47, 100, 47, 115]⟩, .string ⟨#[]⟩, .int .i64 0, .int .u8 6, .string ⟨#[47, 100, 47, 116]⟩, .string ⟨#[]⟩, .int .i64 0] 32)) 0 32 4 (.slice (some ⟨wr.heap.size, 0, none⟩) 13 13) ((seq13 k N).map opCells) := ops_lit wr 0 (seq13 k N) #[.int .u8 0, .string ⟨#[47, 100]⟩, .string ⟨#[]⟩, .int .i64 0, .int .u8 8, .string ⟨#[]⟩, .string ⟨#[]⟩, .int .i64 k, .int .u8 1, .string ⟨#[47, 100, 47, 116]⟩, .string ⟨#[97, 98, 99, 100, 101, 102]⟩, .int .i64 0, .int .u8 2, .string ⟨#[47, 100, 47, 116]⟩, .string ⟨#[]⟩, .int .i64 0, .int .u8 4, .string ⟨#[47, 100, 47, 116]⟩, .string ⟨#[47, 100, 47, 115]⟩, .int .i64 0, .int .u8 3, .string ⟨#[47, 100]⟩, .string ⟨#[]⟩, .int .i64 0, .int .u8 1, .string ⟨#[47, 100, 47, 115]⟩, .string ⟨#[120, 121]⟩, .int .i64 0, .int .u8 5, .string ⟨#[47, 100, 47, 115]⟩, .string ⟨#[]⟩, .int .i64 0, .int .u8 10, .string ⟨#[]⟩, .string ⟨#[]⟩, .int .i64 k, .int .u8 9, .string ⟨#[]⟩, .string ⟨#[]⟩, .int .i64 N, .int .u8 7, .string ⟨#[47, 100]⟩, .string ⟨#[]⟩, .int .i64 0, .int .u8 6, .string ⟨#[47, 100, 47, 115]⟩, .string ⟨#[]⟩, .int .i64 0, .int .u8 6, .string ⟨#[47, 100, 47, 116]⟩, .string ⟨#[]⟩, .int .i64 0] (Nat.zero_le _) rfl (by simp [seq13])
              have hb0 : Below wr.heap.size wr (wr.alloc (.cells #[.int .u8 0, .string ⟨#[47, 100]⟩, .string ⟨#[]⟩, .int .i64 0, .int .u8 8, .string ⟨#[]⟩, .string ⟨#[]⟩, .int .i64 k, .int .u8 1, .string ⟨#[47, 100, 47, 116]⟩, .string ⟨#[97, 98, 99, 100, 101, 102]⟩, .int .i64 0, .int .u8 2, .string ⟨#[47, 100, 47, 116]⟩, .string ⟨#[]⟩, .int .i64 0, .int .u8 4, .string ⟨#[47, 100, 47, 116]⟩, .string ⟨#[47, 100, 47, 115]⟩, .int .i64 0, .int .u8 3, .string ⟨#[47, 100]⟩, .string ⟨#[]⟩, .int .i64 0, .int .u8 1, .string ⟨#[47, 100, 47, 115]⟩, .string ⟨#[120, 121]⟩, .int .i64 0, .int .u8 5, .string ⟨#[47, 100, 47, 115]⟩, .string ⟨#[]⟩, .int .i64 0, .int .u8 10, .string ⟨#[]⟩, .string ⟨#[]⟩, .int .i64 k, .int .u8 9, .string ⟨#[]⟩, .string ⟨#[]⟩, .int .i64 N, .int .u8 7, .string ⟨#[47, 100]⟩, .string ⟨#[]⟩, .int .i64 0, .int .u8 6, .string ⟨#[47, 100, 47, 115]⟩, .string ⟨#[]⟩, .int .i64 0, .int .u8 6, .string ⟨#[47, 100, 47, 116]⟩, .string ⟨#[]⟩, .int .i64 0] 32)) := (Below.refl _ _).alloc (Nat.le_refl _) _
              have HA := Lib.hid hs13; have HB0 := Lib.hid hb0
              clear hs13 hb0
              go_wp2_with (first
                | (go_at_call 3; refine (HPL.out _ _ _ _ _ (by decide) (own_ops HA.out HSO.out) 1000 (by decide)).mono ?_; rintro e V1 ⟨rfl, hb1⟩; have HC := Lib.hid (HA.out.keep hb1); have HB1 := Lib.hid (HB0.out.trans (hb1.mono HB0.out.size)); clear HA hb1)
                | (go_at_call 3; refine (HPL.out _ _ _ _ _ (by decide) (own_ops_from HC.out HSO.out 2) 1000 (by decide)).mono ?_; rintro e V2 ⟨rfl, hb2⟩; have HD := Lib.hid (HC.out.keep hb2); have HB2 := Lib.hid (HB1.out.trans (hb2.mono HB1.out.size)); clear HC hb2)
                | (go_at_call 4; refine (HKP.out _ _ _ _ _ (by decide) (own_ops HD.out HSO.out) _ _ (by decide)).mono ?_; rintro e V3 ⟨rfl, hb3⟩; have HB3 := Lib.hid (HB2.out.trans (hb3.mono HB2.out.size)); clear HD hb3)
                | (go_at_call 5; refine (HRN.out _ _ _ _ _ _ (by first | omega | (simp [IntKind.wrap, IntKind.bits, IntKind.signed]; omega)) (by first | omega | (simp [IntKind.wrap, IntKind.bits, IntKind.signed]; omega))).mono ?_; rintro e V4 ⟨rfl, hb4⟩; have HB4 := Lib.hid (HB3.out.trans (hb4.mono HB3.out.size)); clear hb4)
                | fail)
              exact ⟨⟨k + 1, by omega, by go_num, HOWN.out.keep HB4.out, HBL.out.trans (HB4.out.mono HBL.out.size)⟩, by simp [intOf]; omega⟩
            · have hk1 : ¬ (k : Int) < 12 := by omega
              go_wp2_with (first
                | (go_at_call 15; refine (crashAt_nil _ _).mono ?_; rintro e v1 ⟨⟨rr, rfl⟩, rfl⟩)
                | (go_at_call 19; refine (reboot_nil _ _).mono ?_; rintro e v2 ⟨⟨rr, rfl⟩, hb2⟩; have N2 := Lib.hid hb2; clear hb2)
                | (go_at_call 20; refine (read_nil _ _).mono ?_; rintro e v3 ⟨rfl, hb3⟩; have N3 := Lib.hid (N2.out.trans (hb3.mono N2.out.size)); clear hb3)
                | (go_at_call 23; refine (mkdir_nil _ _).mono ?_; rintro e v4 ⟨rfl, hb4⟩; have N4 := Lib.hid (N3.out.trans (hb4.mono N3.out.size)); clear hb4)
                | (go_at_call 24; refine (down_nil _).mono ?_; rintro e v5 ⟨rfl, rfl⟩)
                | (go_at_call 22; refine (used_nil _).mono ?_; rintro e v6 ⟨rfl, rfl⟩)
                | (go_at_call 25; refine (copy_nil _).mono ?_; rintro e v7 ⟨rfl, rfl⟩)
                | (go_at_call 3; refine (HPL.out _ _ _ _ _ (by omega) (own_ops (HOWN.out.keep N4.out) HOK.out) (-5) (by decide)).mono ?_; rintro e v8 ⟨rfl, hb8⟩; have N8 := Lib.hid (N4.out.trans (hb8.mono N4.out.size)); clear hb8)
                | (go_at_call 10; refine (HWK.out _).mono ?_; rintro e w13 ⟨rfl, hbw⟩; have N9 := Lib.hid (N8.out.trans (hbw.mono N8.out.size)); clear hbw)
                | fail)
              go_ret
              exact ⟨rfl, HBL.out.trans (N9.out.mono HBL.out.size)⟩
end Go.Proofs.YtdbcjiapbehacaaGreatDoor.Vp
