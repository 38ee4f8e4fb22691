/-
  TzKl, TzKm, TzKn, TzKo, one behind the other.
-/
import Derived.Test.YtohpdpcjhmopbaaTzKf
import Derived.Test.YtohpdpcjhmopbaaTzKh
import Derived.Test.YtohpdpcjhmopbaaTzKi
import Derived.Test.YtohpdpcjhmopbaaTzKj
import Derived.Test.YtohpdpcjhmopbaaTzKk
/-! Layer 6 (tzif): a block, as the document reads it, whole. -/
namespace Go.Proofs.Ytohpdpcjhmopbaa.Tz
open Go.RowKit

theorem take_drop_take {l : List Nat} {a b m : Nat} (h : a + b ≤ m) : ((l.take m).drop a).take b = (l.drop a).take b := by
  rw [List.drop_take, List.take_take]
  congr 1
  omega
theorem vals_take (kk : Nat) (val : List Nat → Int) : ∀ (n : Nat) (l : List Nat) (m : Nat), kk * n ≤ m → vals kk val n (l.take m) = vals kk val n l
  | 0, _, _, _ => rfl
  | n + 1, l, m, h => by
    rw [Nat.mul_add, Nat.mul_one] at h
    show val ((l.take m).take kk) :: vals kk val n ((l.take m).drop kk) = val (l.take kk) :: vals kk val n (l.drop kk)
    rw [List.take_take, Nat.min_eq_left (by omega), List.drop_take, vals_take kk val n (l.drop kk) (m - kk) (by omega)]
theorem rwOf_take (l : List Nat) (m : Nat) (h : 6 ≤ m) : rwOf (l.take m) = rwOf l := by
  unfold rwOf rowOff rowDst rowPlace
  rw [take_drop_take (by omega), take_drop_take (by omega), List.take_take, Nat.min_eq_left (by omega)]
theorem rws_take : ∀ (n : Nat) (l : List Nat) (m : Nat), 6 * n ≤ m → rws n (l.take m) = rws n l
  | 0, _, _, _ => rfl
  | n + 1, l, m, h => by
    show rwOf (l.take m) :: rws n ((l.take m).drop 6) = rwOf l :: rws n (l.drop 6)
    rw [rwOf_take l m (by omega), List.drop_take, rws_take n (l.drop 6) (m - 6) (by omega)]
theorem blockZ_take (h : Hd) (l : List Nat) (hl : longN h 8 ≤ l.length) : blockZ h 8 val8 (l.take (longN h 8)) = blockZ h 8 val8 l := by
  have hp : 8 * h.times + 1 * h.times + 6 * h.types + h.letters ≤ longN h 8 := by unfold longN; omega
  obtain ⟨N, hN⟩ : ∃ N, longN h 8 = N := ⟨_, rfl⟩
  rw [hN] at hp hl ⊢
  have e1 : timesL h 8 val8 (l.take N) = timesL h 8 val8 l := vals_take 8 val8 _ l N (by omega)
  have e2 : indexL h 8 (l.take N) = indexL h 8 l := by
    unfold indexL
    rw [List.drop_take, vals_take 1 val1 _ _ _ (by omega)]
  have e3 : rowsL h 8 (l.take N) = rowsL h 8 l := by
    unfold rowsL
    rw [List.drop_take, List.drop_take, rws_take _ _ _ (by omega)]
  have e4 : lettersL h 8 (l.take N) = lettersL h 8 l := by
    unfold lettersL
    rw [List.drop_drop, List.drop_drop, List.drop_drop, List.drop_drop, take_drop_take (by omega)]
  unfold blockZ
  rw [e1, e2, e3, e4, hN, List.length_take, Nat.min_eq_left hl]
  by_cases hm : mayB h = true
  · rw [if_pos ⟨hm, Nat.le_refl _⟩, if_pos ⟨hm, hl⟩]
  · rw [if_neg (fun x => hm x.1), if_neg (fun x => hm x.1)]
/-- What the document's block answers. -/
def RblP (h : Hd) (l : List Nat) (w : World) (e : Ending) (w' : World) : Prop :=
  (blockZ h 8 val8 l = none → e = .returned (.tuple #[noZone, .bool false])) ∧ (∀ z, blockZ h 8 val8 l = some z → ∃ vt vs vi, e = .returned (.tuple #[.agg #[vt, vs, vi, .string ⟨#[]⟩], .bool (rightZ z)]) ∧ OwnT w' (w.heap.size + 3) vt z.types ∧ OwnI w' (w.heap.size + 3) 2 vs z.times ∧ OwnI w' (w.heap.size + 3) 3 vi z.index) ∧ Below w.heap.size w w'
theorem rblP_no {h : Hd} {l : List Nat} {w : World} (hm : mayB h = false) {e : Ending} {w' : World} (k : e = .returned (.tuple #[noZone, .bool false]) ∧ Below w.heap.size w w') : RblP h l w e w' :=
  ⟨fun _ => k.1, (fun z hz => by rw [(blockZ_some hz).1] at hm; cases hm), k.2⟩
theorem rblock_any (h : Hd) (l : List Nat) (A : Option Addr) (B n c : Nat) (w : World) (hs : SB w B A n c l) (hB : B ≤ w.heap.size) (hb : ∀ b ∈ l, b < 256) (ho : HdOk h) (hl : longN h 8 ≤ n) :
    Calls Try.prog 51 #[.slice A n c, hdArr h, .int .i64 8] w fun e w' => RblP h l w e w' := by
  cases hm : mayB h with
  | true =>
    have hyes : ∀ {e : Ending} {w' : World}, ((tysOf (lettersL h 8 l) (rowsL h 8 l) = none → e = .returned (.tuple #[noZone, .bool false])) ∧ (∀ tys, tysOf (lettersL h 8 l) (rowsL h 8 l) = some tys → ∃ vt vs vi, e = .returned (.tuple #[.agg #[vt, vs, vi, .string ⟨#[]⟩], .bool (rightZ ⟨tys, timesL h 8 val8 l, indexL h 8 l, ⟨#[]⟩⟩)]) ∧ OwnT w' (w.heap.size + 3) vt tys ∧ OwnI w' (w.heap.size + 3) 2 vs (timesL h 8 val8 l) ∧ OwnI w' (w.heap.size + 3) 3 vi (indexL h 8 l)) ∧ Below w.heap.size w w') → RblP h l w e w' := by
      rintro e w' ⟨h1, h2, h3⟩
      have e0 : blockZ h 8 val8 l = (tysOf (lettersL h 8 l) (rowsL h 8 l)).map fun tys => ⟨tys, timesL h 8 val8 l, indexL h 8 l, ⟨#[]⟩⟩ := by unfold blockZ; rw [if_pos ⟨hm, by have := hs.1; omega⟩]
      unfold RblP
      rw [e0]
      refine ⟨fun hn => h1 (by simpa using hn), fun z hz => ?_, h3⟩
      cases ht : tysOf (lettersL h 8 l) (rowsL h 8 l) with
      | none => rw [ht] at hz; cases hz
      | some tys =>
        rw [ht] at hz
        have e : Zn.mk tys (timesL h 8 val8 l) (indexL h 8 l) ⟨#[]⟩ = z := by simpa using hz
        subst e
        exact h2 tys ht
    have hmb := hm
    unfold mayB inI at hmb
    simp only [Bool.and_eq_true, Bool.or_eq_true, decide_eq_true_eq] at hmb
    obtain ⟨⟨_, hs7⟩, hu8⟩ := hmb
    by_cases hs0 : h.stds = 0
    · by_cases hu0 : h.uts = 0
      · exact (rblock_y h l A B n c w hs hB hb ho hm hs0 hu0 hl).mono fun e w' k => hyes k
      · exact (rblock_01 h l A B n c w hs hB hb ho hm hs0 ⟨hu0, by omega⟩ hl).mono fun e w' k => hyes k
    · by_cases hu0 : h.uts = 0
      · exact (rblock_10 h l A B n c w hs hB hb ho hm ⟨hs0, by omega⟩ hu0 hl).mono fun e w' k => hyes k
      · exact (rblock_11 h l A B n c w hs hB hb ho hm ⟨hs0, by omega⟩ ⟨hu0, by omega⟩ hl).mono fun e w' k => hyes k
  | false =>
    have hmb := hm
    by_cases c1 : h.types < 1
    · exact (rblock_f1 h l A B n c w hs hB c1).mono fun e w' k => rblP_no hm k
    by_cases c2 : 255 < h.types
    · exact (rblock_f2 h l A B n c w hs hB (by omega) c2).mono fun e w' k => rblP_no hm k
    by_cases c3 : 4000 < h.times
    · exact (rblock_f3 h l A B n c w hs hB (by omega) (by omega) c3).mono fun e w' k => rblP_no hm k
    by_cases c4 : h.letters < 1
    · exact (rblock_f4 h l A B n c w hs hB (by omega) (by omega) (by omega) c4).mono fun e w' k => rblP_no hm k
    by_cases c5 : 4096 < h.letters
    · exact (rblock_f5 h l A B n c w hs hB (by omega) (by omega) (by omega) (by omega) c5).mono fun e w' k => rblP_no hm k
    by_cases c6 : 1000 < h.leaps
    · exact (rblock_f6 h l A B n c w hs hB (by omega) (by omega) (by omega) (by omega) (by omega) c6).mono fun e w' k => rblP_no hm k
    by_cases c7 : h.stds ≠ 0 ∧ h.stds ≠ h.types
    · exact (rblock_f7 h l A B n c w hs hB (by omega) (by omega) (by omega) (by omega) (by omega) (by omega) c7).mono fun e w' k => rblP_no hm k
    by_cases c8 : h.uts ≠ 0 ∧ h.uts ≠ h.types
    · by_cases hs0 : h.stds = 0
      · exact (rblock_f8 h l A B n c w hs hB (by omega) (by omega) (by omega) (by omega) (by omega) (by omega) hs0 c8).mono fun e w' k => rblP_no hm k
      · exact (rblock_f9 h l A B n c w hs hB (by omega) (by omega) (by omega) (by omega) (by omega) (by omega) ⟨hs0, by omega⟩ c8).mono fun e w' k => rblP_no hm k
    · exfalso
      have : mayB h = true := by
        unfold mayB inI
        simp only [Bool.and_eq_true, Bool.or_eq_true, decide_eq_true_eq]
        omega
      rw [this] at hmb
      cases hmb
end Go.Proofs.Ytohpdpcjhmopbaa.Tz

/-! Layer 6 (tzif): the document's Parse (written by gen_km6.py). -/
namespace Go.Proofs.Ytohpdpcjhmopbaa.Tz
open Go.RowKit

/-- What the document's Parse keeps. -/
structure Qk (w U : World) (B : Nat) (A : Option Addr) (n c : Nat) (l : List Nat) : Prop where
  sb : SB U B A n c l
  rb : ZnBox U w.heap.size (.slice none 0 0) (.slice none 0 0) (.slice none 0 0) (.string ⟨#[]⟩)
  bl : Below w.heap.size w U
  lo : B ≤ w.heap.size
section
variable {w U V : World} {B n c : Nat} {A : Option Addr} {l : List Nat}
theorem Qk.step (k : Qk w U B A n c l) {C : Nat} (hb : Below C U V) (hC : w.heap.size + 1 ≤ C) : Qk w V B A n c l :=
  ⟨k.sb.below hb (by have := k.lo; omega), k.rb.below hb (by omega), k.bl.trans (hb.mono (by omega)), k.lo⟩
theorem Qk.alloc (k : Qk w U B A n c l) (o : Obj) : Qk w (U.alloc o) B A n c l := k.step ((Below.refl U.heap.size U).alloc (Nat.le_refl _) o) k.rb.lt
theorem Qk.start (hs : SB w B A n c l) (hB : B ≤ w.heap.size) : Qk w (w.alloc (.cells #[.slice none 0 0, .slice none 0 0, .slice none 0 0, .string ⟨#[]⟩] 31)) B A n c l := by
  have hb : Below w.heap.size w (w.alloc (.cells #[.slice none 0 0, .slice none 0 0, .slice none 0 0, .string ⟨#[]⟩] 31)) := (Below.refl _ _).alloc (Nat.le_refl _) _
  exact ⟨hs.below hb hB, ZnBox.new _ _ rfl _ _ _ _ _, hb, hB⟩
end
/-- The document's counts, in a block of memory. -/
structure ArBox (U : World) (Q : Nat) (h : Hd) : Prop where
  d0 : U.cell? ⟨Q, 0, none⟩ = some (.int .i64 h.uts)
  d1 : U.cell? ⟨Q, 1, none⟩ = some (.int .i64 h.stds)
  d2 : U.cell? ⟨Q, 2, none⟩ = some (.int .i64 h.leaps)
  d3 : U.cell? ⟨Q, 3, none⟩ = some (.int .i64 h.times)
  d4 : U.cell? ⟨Q, 4, none⟩ = some (.int .i64 h.types)
  d5 : U.cell? ⟨Q, 5, none⟩ = some (.int .i64 h.letters)
  lt : Q < U.heap.size
theorem ArBox.below {U V : World} {Q : Nat} {h : Hd} (k : ArBox U Q h) {C : Nat} (hb : Below C U V) (hC : Q < C) : ArBox V Q h :=
  ⟨cells_at _ hb hC k.d0, cells_at _ hb hC k.d1, cells_at _ hb hC k.d2, cells_at _ hb hC k.d3, cells_at _ hb hC k.d4, cells_at _ hb hC k.d5, Nat.lt_of_lt_of_le k.lt hb.size⟩
theorem ArBox.new (W : World) (h : Hd) : ArBox (W.alloc (.cells #[.int .i64 h.uts, .int .i64 h.stds, .int .i64 h.leaps, .int .i64 h.times, .int .i64 h.types, .int .i64 h.letters] 96)) W.heap.size h :=
  have hq : ∀ i u, (#[.int .i64 h.uts, .int .i64 h.stds, .int .i64 h.leaps, .int .i64 h.times, .int .i64 h.types, .int .i64 h.letters] : Array Value)[i]? = some u → (W.alloc (.cells #[.int .i64 h.uts, .int .i64 h.stds, .int .i64 h.leaps, .int .i64 h.times, .int .i64 h.types, .int .i64 h.letters] 96)).cell? ⟨W.heap.size, i, none⟩ = some u := fun i u hu => cell_new W _ _ _ i u rfl hu
  ⟨hq 0 _ rfl, hq 1 _ rfl, hq 2 _ rfl, hq 3 _ rfl, hq 4 _ rfl, hq 5 _ rfl, by simp⟩
set_option maxRecDepth 100000 in
set_option maxHeartbeats 1000000 in
theorem rparse_a (l : List Nat) (gb off B n c : Nat) (w : World) (hs : SB w B (some ⟨gb, off, none⟩) n c l) (hB : B ≤ w.heap.size) (hb : ∀ b ∈ l, b < 256) (hn : n ≤ 1000000) (hq : hdGood l = false) :
    Calls Try.prog 40 #[.slice (some ⟨gb, off, none⟩) n c] w fun e w' => e = .returned (.tuple #[noZone, .bool false]) ∧ Below w.heap.size w w' := by
  have K0 := Lib.hid (Qk.start hs hB)
  obtain ⟨X, hX⟩ : ∃ X, w.alloc (.cells #[.slice none 0 0, .slice none 0 0, .slice none 0 0, .string ⟨#[]⟩] 31) = X := ⟨_, rfl⟩
  rw [hX] at K0
  have HC1 : Hid (Calls Try.prog 49 #[.slice (some ⟨gb, off, none⟩) n c, .int .i64 0] X fun e w' => CntP l e ∧ Below X.heap.size X w') := Lib.hid (rcounts_any l _ B n c 0 X K0.out.sb (by have := K0.out.rb.lt; have := K0.out.lo; omega) hb (by omega))
  have HC1' : Hid (Calls Try.prog 49 #[.slice (some ⟨gb, off, none⟩) n c, .int .i64 0] X fun e w' => e = .returned (.tuple #[noArr, .int .u8 0, .bool false]) ∧ Below X.heap.size X w') := Lib.hid (HC1.out.mono fun e w' ⟨hc, hw⟩ => ⟨hc.1 hq, hw⟩)
  unfold noArr at HC1'
  have hn2 := hn
  clear hs hB hb hq hn HC1 hn2
  go_enter Try.func40, Try.ntmps40
  go_wp2_with (first
    | (go_at_call 49; (try rw [hX]); refine HC1'.out.mono ?_; clear HC1'; rintro e V1 ⟨rfl, hbe⟩; have K1 := Lib.hid (K0.out.step hbe K0.out.rb.lt); clear hbe hX; have k0 := K1.out.rb.c0; have k1 := K1.out.rb.c1; have k2 := K1.out.rb.c2; have k3 := K1.out.rb.c3; have f0 := K1.out.rb.fr 0; have f1 := K1.out.rb.fr 1; have f2 := K1.out.rb.fr 2; have f3 := K1.out.rb.fr 3; have HS1 := K1.out.rb.lt)
    | fail)
  exact bodyPost_ret (v := .tuple #[noZone, .bool false]) (by simp [results, Try.results40, go_sem, noZone, k0, k1, k2, k3, HS1]) rfl ⟨rfl, K1.out.bl.trans ((((((Below.refl w.heap.size V1).setCell (Nat.le_refl _) _).setCell (Nat.le_refl _) _).setCell (Nat.le_refl _) _).setCell (Nat.le_refl _) _).alloc (by have := Nat.le_of_lt HS1; simpa using this) _)⟩
set_option maxRecDepth 100000 in
set_option maxHeartbeats 1000000 in
theorem rparse_b (l : List Nat) (gb off B n c : Nat) (w : World) (hs : SB w B (some ⟨gb, off, none⟩) n c l) (hB : B ≤ w.heap.size) (hb : ∀ b ∈ l, b < 256) (hn : n ≤ 1000000) (hq : hdGood l = true) (hv : l.getD 4 0 ≠ 0) (hl : n < 44 + longN (hdOf l) 4) :
    Calls Try.prog 40 #[.slice (some ⟨gb, off, none⟩) n c] w fun e w' => e = .returned (.tuple #[noZone, .bool false]) ∧ Below w.heap.size w w' := by
  have K0 := Lib.hid (Qk.start hs hB)
  obtain ⟨X, hX⟩ : ∃ X, w.alloc (.cells #[.slice none 0 0, .slice none 0 0, .slice none 0 0, .string ⟨#[]⟩] 31) = X := ⟨_, rfl⟩
  rw [hX] at K0
  have HC1 : Hid (Calls Try.prog 49 #[.slice (some ⟨gb, off, none⟩) n c, .int .i64 0] X fun e w' => CntP l e ∧ Below X.heap.size X w') := Lib.hid (rcounts_any l _ B n c 0 X K0.out.sb (by have := K0.out.rb.lt; have := K0.out.lo; omega) hb (by omega))
  have HQ := Lib.hid hq
  obtain ⟨h1, e1⟩ : ∃ h1, hdOf l = h1 := ⟨_, rfl⟩
  have HC1' : Hid (Calls Try.prog 49 #[.slice (some ⟨gb, off, none⟩) n c, .int .i64 0] X fun e w' => e = .returned (.tuple #[hdArr h1, .int .u8 h1.version, .bool true]) ∧ Below X.heap.size X w') := Lib.hid (HC1.out.mono fun e w' ⟨hc, hw⟩ => ⟨by rw [← e1]; exact hc.2 hq, hw⟩)
  have hv1 : h1.version = l.getD 4 0 := by rw [← e1]; rfl
  have HL1 : Hid (∀ V, Calls Try.prog 50 #[hdArr h1, .int .i64 4] V fun e w' => e = .returned (.int .i64 (longN h1 4)) ∧ Below V.heap.size V w') := Lib.hid fun V => rlong_any h1 4 (.inl rfl) (by rw [← e1]; exact hdOk_bytes hb) V
  have hN9 : longN h1 4 ≤ 900000000000 := by
    obtain ⟨o1, o2, o3, o4, o5, o6⟩ : HdOk h1 := by rw [← e1]; exact hdOk_bytes hb
    unfold longN restN; omega
  obtain ⟨N1, hN1⟩ : ∃ N1, longN h1 4 = N1 := ⟨_, rfl⟩
  rw [hN1] at HL1 hN9
  rw [← hv1] at hv
  have v0 : decide ((h1.version : Int) = 0) = false := by simp; omega
  have v1 : ((h1.version : Int) == 0) = false := by simp; omega
  have v2 : ((h1.version : Int) != 0) = true := by simp; omega
  have i1 : (0 : Int) ≤ (N1 : Int) := by omega
  have i2 : (N1 : Int) ≤ 900000000000 := by omega
  have i3 : (n : Int) ≤ 1000000 := by omega
  have i4 : (0 : Int) ≤ (n : Int) := by omega
  unfold hdArr at HC1' HL1
  rw [e1, hN1] at hl
  have j1 : (n : Int) - 44 < (N1 : Int) := by omega
  clear hs hB hb hq hv hl hv1 e1 hN1 hN9 HC1 hn
  go_enter Try.func40, Try.ntmps40
  go_wp2_with (first
    | (go_at_call 49; (try rw [hX]); refine HC1'.out.mono ?_; clear HC1'; rintro e V1 ⟨rfl, hbe⟩; have K1 := Lib.hid (K0.out.step hbe K0.out.rb.lt); have B1 := Lib.hid (ArBox.new V1 h1); clear hbe hX)
    | (go_at_call 50; refine (HL1.out _).mono ?_; clear HL1; rintro e V2 ⟨rfl, hbe⟩; have K2 := Lib.hid ((K1.out.alloc _).step hbe (by have := K1.out.rb.lt; simp; omega)); clear hbe; have k0 := K2.out.rb.c0; have k1 := K2.out.rb.c1; have k2 := K2.out.rb.c2; have k3 := K2.out.rb.c3; have f0 := K2.out.rb.fr 0; have f1 := K2.out.rb.fr 1; have f2 := K2.out.rb.fr 2; have f3 := K2.out.rb.fr 3; have HS1 := K2.out.rb.lt)
    | fail)
  exact bodyPost_ret (v := .tuple #[noZone, .bool false]) (by simp [results, Try.results40, go_sem, noZone, k0, k1, k2, k3]) rfl ⟨rfl, K2.out.bl.trans (((((Below.refl w.heap.size V2).setCell (Nat.le_refl _) _).setCell (Nat.le_refl _) _).setCell (Nat.le_refl _) _).setCell (Nat.le_refl _) _)⟩
end Go.Proofs.Ytohpdpcjhmopbaa.Tz

/-! Layer 6 (tzif): the document's Parse: its second head (written by gen_kn6.py). -/
namespace Go.Proofs.Ytohpdpcjhmopbaa.Tz
open Go.RowKit

set_option maxRecDepth 100000 in
set_option maxHeartbeats 1000000 in
theorem rparse_c (l : List Nat) (gb off B n c : Nat) (w : World) (hs : SB w B (some ⟨gb, off, none⟩) n c l) (hB : B ≤ w.heap.size) (hb : ∀ b ∈ l, b < 256) (hn : n ≤ 1000000) (hq : hdGood l = true) (hv : l.getD 4 0 ≠ 0) (hl : 44 + longN (hdOf l) 4 ≤ n) (hq2 : hdGood (l.drop (44 + longN (hdOf l) 4)) = false) :
    Calls Try.prog 40 #[.slice (some ⟨gb, off, none⟩) n c] w fun e w' => e = .returned (.tuple #[noZone, .bool false]) ∧ Below w.heap.size w w' := by
  have K0 := Lib.hid (Qk.start hs hB)
  obtain ⟨X, hX⟩ : ∃ X, w.alloc (.cells #[.slice none 0 0, .slice none 0 0, .slice none 0 0, .string ⟨#[]⟩] 31) = X := ⟨_, rfl⟩
  rw [hX] at K0
  have HC1 : Hid (Calls Try.prog 49 #[.slice (some ⟨gb, off, none⟩) n c, .int .i64 0] X fun e w' => CntP l e ∧ Below X.heap.size X w') := Lib.hid (rcounts_any l _ B n c 0 X K0.out.sb (by have := K0.out.rb.lt; have := K0.out.lo; omega) hb (by omega))
  have HQ := Lib.hid hq
  obtain ⟨h1, e1⟩ : ∃ h1, hdOf l = h1 := ⟨_, rfl⟩
  have HC1' : Hid (Calls Try.prog 49 #[.slice (some ⟨gb, off, none⟩) n c, .int .i64 0] X fun e w' => e = .returned (.tuple #[hdArr h1, .int .u8 h1.version, .bool true]) ∧ Below X.heap.size X w') := Lib.hid (HC1.out.mono fun e w' ⟨hc, hw⟩ => ⟨by rw [← e1]; exact hc.2 hq, hw⟩)
  have hv1 : h1.version = l.getD 4 0 := by rw [← e1]; rfl
  have HL1 : Hid (∀ V, Calls Try.prog 50 #[hdArr h1, .int .i64 4] V fun e w' => e = .returned (.int .i64 (longN h1 4)) ∧ Below V.heap.size V w') := Lib.hid fun V => rlong_any h1 4 (.inl rfl) (by rw [← e1]; exact hdOk_bytes hb) V
  have hN9 : longN h1 4 ≤ 900000000000 := by
    obtain ⟨o1, o2, o3, o4, o5, o6⟩ : HdOk h1 := by rw [← e1]; exact hdOk_bytes hb
    unfold longN restN; omega
  obtain ⟨N1, hN1⟩ : ∃ N1, longN h1 4 = N1 := ⟨_, rfl⟩
  rw [hN1] at HL1 hN9
  rw [← hv1] at hv
  have v0 : decide ((h1.version : Int) = 0) = false := by simp; omega
  have v1 : ((h1.version : Int) == 0) = false := by simp; omega
  have v2 : ((h1.version : Int) != 0) = true := by simp; omega
  have i1 : (0 : Int) ≤ (N1 : Int) := by omega
  have i2 : (N1 : Int) ≤ 900000000000 := by omega
  have i3 : (n : Int) ≤ 1000000 := by omega
  have i4 : (0 : Int) ≤ (n : Int) := by omega
  unfold hdArr at HC1' HL1
  rw [e1, hN1] at hl
  have j1 : ¬ (n : Int) - 44 < (N1 : Int) := by omega
  obtain ⟨s2, hs2⟩ : ∃ s2, 44 + N1 = s2 := ⟨_, rfl⟩
  have j2 : (44 : Int) + (N1 : Int) = (s2 : Int) := by omega
  rw [e1, hN1, hs2] at hq2
  have HC2 : Hid (∀ V, Qk w V B (some ⟨gb, off, none⟩) n c l → Calls Try.prog 49 #[.slice (some ⟨gb, off, none⟩) n c, .int .i64 s2] V fun e w' => CntP (l.drop s2) e ∧ Below V.heap.size V w') := Lib.hid fun V hV => rcounts_any l _ B n c s2 V hV.sb (by have := hV.rb.lt; have := hV.lo; omega) hb (by omega)
  have HC2' : Hid (∀ V, Qk w V B (some ⟨gb, off, none⟩) n c l → Calls Try.prog 49 #[.slice (some ⟨gb, off, none⟩) n c, .int .i64 s2] V fun e w' => e = .returned (.tuple #[noArr, .int .u8 0, .bool false]) ∧ Below V.heap.size V w') := Lib.hid fun V hV => (HC2.out V hV).mono fun e w' ⟨hc, hw⟩ => ⟨hc.1 hq2, hw⟩
  unfold noArr at HC2'
  clear hs hB hb hq hv hl hv1 e1 hN1 hN9 HC1 HC2 hn hq2 hs2
  go_enter Try.func40, Try.ntmps40
  go_wp2_with (first
    | (go_at_call 49; (try rw [hX]); refine HC1'.out.mono ?_; clear HC1'; rintro e V1 ⟨rfl, hbe⟩; have K1 := Lib.hid (K0.out.step hbe K0.out.rb.lt); have B1 := Lib.hid (ArBox.new V1 h1); clear hbe hX)
    | (go_at_call 50; refine (HL1.out _).mono ?_; clear HL1; rintro e V2 ⟨rfl, hbe⟩; have K2 := Lib.hid ((K1.out.alloc _).step hbe (by have := K1.out.rb.lt; simp; omega)); clear hbe)
    | (go_at_call 49; refine (HC2'.out _ K2.out).mono ?_; clear HC2'; rintro e V3 ⟨rfl, hbe⟩; have K3 := Lib.hid (K2.out.step hbe K2.out.rb.lt); clear hbe; have k0 := K3.out.rb.c0; have k1 := K3.out.rb.c1; have k2 := K3.out.rb.c2; have k3 := K3.out.rb.c3; have f0 := K3.out.rb.fr 0; have f1 := K3.out.rb.fr 1; have f2 := K3.out.rb.fr 2; have f3 := K3.out.rb.fr 3; have HS1 := K3.out.rb.lt)
    | fail)
  exact bodyPost_ret (v := .tuple #[noZone, .bool false]) (by simp [results, Try.results40, go_sem, noZone, k0, k1, k2, k3, HS1]) rfl ⟨rfl, K3.out.bl.trans ((((((Below.refl w.heap.size V3).setCell (Nat.le_refl _) _).setCell (Nat.le_refl _) _).setCell (Nat.le_refl _) _).setCell (Nat.le_refl _) _).alloc (by have := Nat.le_of_lt HS1; simpa using this) _)⟩
set_option maxRecDepth 100000 in
set_option maxHeartbeats 1000000 in
theorem rparse_v (l : List Nat) (gb off B n c : Nat) (w : World) (hs : SB w B (some ⟨gb, off, none⟩) n c l) (hB : B ≤ w.heap.size) (hb : ∀ b ∈ l, b < 256) (hn : n ≤ 1000000) (hq : hdGood l = true) (hv : l.getD 4 0 ≠ 0) (hl : 44 + longN (hdOf l) 4 ≤ n) (hq2 : hdGood (l.drop (44 + longN (hdOf l) 4)) = true) (hv2 : (hdOf (l.drop (44 + longN (hdOf l) 4))).version ≠ (hdOf l).version) :
    Calls Try.prog 40 #[.slice (some ⟨gb, off, none⟩) n c] w fun e w' => e = .returned (.tuple #[noZone, .bool false]) ∧ Below w.heap.size w w' := by
  have K0 := Lib.hid (Qk.start hs hB)
  obtain ⟨X, hX⟩ : ∃ X, w.alloc (.cells #[.slice none 0 0, .slice none 0 0, .slice none 0 0, .string ⟨#[]⟩] 31) = X := ⟨_, rfl⟩
  rw [hX] at K0
  have HC1 : Hid (Calls Try.prog 49 #[.slice (some ⟨gb, off, none⟩) n c, .int .i64 0] X fun e w' => CntP l e ∧ Below X.heap.size X w') := Lib.hid (rcounts_any l _ B n c 0 X K0.out.sb (by have := K0.out.rb.lt; have := K0.out.lo; omega) hb (by omega))
  have HQ := Lib.hid hq
  obtain ⟨h1, e1⟩ : ∃ h1, hdOf l = h1 := ⟨_, rfl⟩
  have HC1' : Hid (Calls Try.prog 49 #[.slice (some ⟨gb, off, none⟩) n c, .int .i64 0] X fun e w' => e = .returned (.tuple #[hdArr h1, .int .u8 h1.version, .bool true]) ∧ Below X.heap.size X w') := Lib.hid (HC1.out.mono fun e w' ⟨hc, hw⟩ => ⟨by rw [← e1]; exact hc.2 hq, hw⟩)
  have hv1 : h1.version = l.getD 4 0 := by rw [← e1]; rfl
  have HL1 : Hid (∀ V, Calls Try.prog 50 #[hdArr h1, .int .i64 4] V fun e w' => e = .returned (.int .i64 (longN h1 4)) ∧ Below V.heap.size V w') := Lib.hid fun V => rlong_any h1 4 (.inl rfl) (by rw [← e1]; exact hdOk_bytes hb) V
  have hN9 : longN h1 4 ≤ 900000000000 := by
    obtain ⟨o1, o2, o3, o4, o5, o6⟩ : HdOk h1 := by rw [← e1]; exact hdOk_bytes hb
    unfold longN restN; omega
  obtain ⟨N1, hN1⟩ : ∃ N1, longN h1 4 = N1 := ⟨_, rfl⟩
  rw [hN1] at HL1 hN9
  rw [← hv1] at hv
  have v0 : decide ((h1.version : Int) = 0) = false := by simp; omega
  have v1 : ((h1.version : Int) == 0) = false := by simp; omega
  have v2 : ((h1.version : Int) != 0) = true := by simp; omega
  have i1 : (0 : Int) ≤ (N1 : Int) := by omega
  have i2 : (N1 : Int) ≤ 900000000000 := by omega
  have i3 : (n : Int) ≤ 1000000 := by omega
  have i4 : (0 : Int) ≤ (n : Int) := by omega
  unfold hdArr at HC1' HL1
  rw [e1, hN1] at hl
  have j1 : ¬ (n : Int) - 44 < (N1 : Int) := by omega
  obtain ⟨s2, hs2⟩ : ∃ s2, 44 + N1 = s2 := ⟨_, rfl⟩
  have j2 : (44 : Int) + (N1 : Int) = (s2 : Int) := by omega
  rw [e1, hN1, hs2] at hq2
  have HC2 : Hid (∀ V, Qk w V B (some ⟨gb, off, none⟩) n c l → Calls Try.prog 49 #[.slice (some ⟨gb, off, none⟩) n c, .int .i64 s2] V fun e w' => CntP (l.drop s2) e ∧ Below V.heap.size V w') := Lib.hid fun V hV => rcounts_any l _ B n c s2 V hV.sb (by have := hV.rb.lt; have := hV.lo; omega) hb (by omega)
  rw [e1, hN1, hs2] at hv2
  obtain ⟨h2, e2⟩ : ∃ h2, hdOf (l.drop s2) = h2 := ⟨_, rfl⟩
  have HC2' : Hid (∀ V, Qk w V B (some ⟨gb, off, none⟩) n c l → Calls Try.prog 49 #[.slice (some ⟨gb, off, none⟩) n c, .int .i64 s2] V fun e w' => e = .returned (.tuple #[hdArr h2, .int .u8 h2.version, .bool true]) ∧ Below V.heap.size V w') := Lib.hid fun V hV => (HC2.out V hV).mono fun e w' ⟨hc, hw⟩ => ⟨by rw [← e2]; exact hc.2 hq2, hw⟩
  unfold hdArr at HC2'
  rw [e2] at hv2
  have x1 : ((h2.version : Int) != (h1.version : Int)) = true := by simp; omega
  have x2 : (h2.version != h1.version) = true := by simp; omega
  clear hs hB hb hq hv hl hv1 e1 hN1 hN9 HC1 HC2 hn hq2 hs2 hv2 e2
  go_enter Try.func40, Try.ntmps40
  go_wp2_with (first
    | (go_at_call 49; (try rw [hX]); refine HC1'.out.mono ?_; clear HC1'; rintro e V1 ⟨rfl, hbe⟩; have K1 := Lib.hid (K0.out.step hbe K0.out.rb.lt); have B1 := Lib.hid (ArBox.new V1 h1); clear hbe hX)
    | (go_at_call 50; refine (HL1.out _).mono ?_; clear HL1; rintro e V2 ⟨rfl, hbe⟩; have K2 := Lib.hid ((K1.out.alloc _).step hbe (by have := K1.out.rb.lt; simp; omega)); clear hbe)
    | (go_at_call 49; refine (HC2'.out _ K2.out).mono ?_; clear HC2'; rintro e V3 ⟨rfl, hbe⟩; have K3 := Lib.hid (K2.out.step hbe K2.out.rb.lt); clear hbe; have k0 := K3.out.rb.c0; have k1 := K3.out.rb.c1; have k2 := K3.out.rb.c2; have k3 := K3.out.rb.c3; have f0 := K3.out.rb.fr 0; have f1 := K3.out.rb.fr 1; have f2 := K3.out.rb.fr 2; have f3 := K3.out.rb.fr 3; have HS1 := K3.out.rb.lt)
    | fail)
  exact bodyPost_ret (v := .tuple #[noZone, .bool false]) (by simp [results, Try.results40, go_sem, noZone, k0, k1, k2, k3, HS1]) rfl ⟨rfl, K3.out.bl.trans ((((((Below.refl w.heap.size V3).setCell (Nat.le_refl _) _).setCell (Nat.le_refl _) _).setCell (Nat.le_refl _) _).setCell (Nat.le_refl _) _).alloc (by have := Nat.le_of_lt HS1; simpa using this) _)⟩
end Go.Proofs.Ytohpdpcjhmopbaa.Tz

/-! Layer 6 (tzif): the document's Parse: its second block (written by gen_ko6.py). -/
namespace Go.Proofs.Ytohpdpcjhmopbaa.Tz
open Go.RowKit

set_option maxRecDepth 100000 in
set_option maxHeartbeats 1000000 in
theorem rparse_s (l : List Nat) (gb off B n c : Nat) (w : World) (hs : SB w B (some ⟨gb, off, none⟩) n c l) (hB : B ≤ w.heap.size) (hb : ∀ b ∈ l, b < 256) (hn : n ≤ 1000000) (hq : hdGood l = true) (hv : l.getD 4 0 ≠ 0) (hl : 44 + longN (hdOf l) 4 ≤ n) (hq2 : hdGood (l.drop (44 + longN (hdOf l) 4)) = true) (hv2 : (hdOf (l.drop (44 + longN (hdOf l) 4))).version = (hdOf l).version) (hc : ¬ c - (88 + longN (hdOf l) 4) = 0) (hr : n - (88 + longN (hdOf l) 4) < longN (hdOf (l.drop (44 + longN (hdOf l) 4))) 8 + 2) :
    Calls Try.prog 40 #[.slice (some ⟨gb, off, none⟩) n c] w fun e w' => e = .returned (.tuple #[noZone, .bool false]) ∧ Below w.heap.size w w' := by
  have K0 := Lib.hid (Qk.start hs hB)
  obtain ⟨X, hX⟩ : ∃ X, w.alloc (.cells #[.slice none 0 0, .slice none 0 0, .slice none 0 0, .string ⟨#[]⟩] 31) = X := ⟨_, rfl⟩
  rw [hX] at K0
  have HC1 : Hid (Calls Try.prog 49 #[.slice (some ⟨gb, off, none⟩) n c, .int .i64 0] X fun e w' => CntP l e ∧ Below X.heap.size X w') := Lib.hid (rcounts_any l _ B n c 0 X K0.out.sb (by have := K0.out.rb.lt; have := K0.out.lo; omega) hb (by omega))
  have HQ := Lib.hid hq
  obtain ⟨h1, e1⟩ : ∃ h1, hdOf l = h1 := ⟨_, rfl⟩
  have HC1' : Hid (Calls Try.prog 49 #[.slice (some ⟨gb, off, none⟩) n c, .int .i64 0] X fun e w' => e = .returned (.tuple #[hdArr h1, .int .u8 h1.version, .bool true]) ∧ Below X.heap.size X w') := Lib.hid (HC1.out.mono fun e w' ⟨hc, hw⟩ => ⟨by rw [← e1]; exact hc.2 hq, hw⟩)
  have hv1 : h1.version = l.getD 4 0 := by rw [← e1]; rfl
  have HL1 : Hid (∀ V, Calls Try.prog 50 #[hdArr h1, .int .i64 4] V fun e w' => e = .returned (.int .i64 (longN h1 4)) ∧ Below V.heap.size V w') := Lib.hid fun V => rlong_any h1 4 (.inl rfl) (by rw [← e1]; exact hdOk_bytes hb) V
  have hN9 : longN h1 4 ≤ 900000000000 := by
    obtain ⟨o1, o2, o3, o4, o5, o6⟩ : HdOk h1 := by rw [← e1]; exact hdOk_bytes hb
    unfold longN restN; omega
  obtain ⟨N1, hN1⟩ : ∃ N1, longN h1 4 = N1 := ⟨_, rfl⟩
  rw [hN1] at HL1 hN9
  rw [← hv1] at hv
  have v0 : decide ((h1.version : Int) = 0) = false := by simp; omega
  have v1 : ((h1.version : Int) == 0) = false := by simp; omega
  have v2 : ((h1.version : Int) != 0) = true := by simp; omega
  have i1 : (0 : Int) ≤ (N1 : Int) := by omega
  have i2 : (N1 : Int) ≤ 900000000000 := by omega
  have i3 : (n : Int) ≤ 1000000 := by omega
  have i4 : (0 : Int) ≤ (n : Int) := by omega
  unfold hdArr at HC1' HL1
  rw [e1, hN1] at hl
  have j1 : ¬ (n : Int) - 44 < (N1 : Int) := by omega
  obtain ⟨s2, hs2⟩ : ∃ s2, 44 + N1 = s2 := ⟨_, rfl⟩
  have j2 : (44 : Int) + (N1 : Int) = (s2 : Int) := by omega
  rw [e1, hN1, hs2] at hq2
  have HC2 : Hid (∀ V, Qk w V B (some ⟨gb, off, none⟩) n c l → Calls Try.prog 49 #[.slice (some ⟨gb, off, none⟩) n c, .int .i64 s2] V fun e w' => CntP (l.drop s2) e ∧ Below V.heap.size V w') := Lib.hid fun V hV => rcounts_any l _ B n c s2 V hV.sb (by have := hV.rb.lt; have := hV.lo; omega) hb (by omega)
  rw [e1, hN1, hs2] at hv2
  obtain ⟨h2, e2⟩ : ∃ h2, hdOf (l.drop s2) = h2 := ⟨_, rfl⟩
  have HC2' : Hid (∀ V, Qk w V B (some ⟨gb, off, none⟩) n c l → Calls Try.prog 49 #[.slice (some ⟨gb, off, none⟩) n c, .int .i64 s2] V fun e w' => e = .returned (.tuple #[hdArr h2, .int .u8 h2.version, .bool true]) ∧ Below V.heap.size V w') := Lib.hid fun V hV => (HC2.out V hV).mono fun e w' ⟨hc, hw⟩ => ⟨by rw [← e2]; exact hc.2 hq2, hw⟩
  unfold hdArr at HC2'
  have hlen2 : s2 + 44 ≤ n := by
    have h44 : 44 ≤ (l.drop s2).length := by
      unfold hdGood at hq2
      simp only [Bool.and_eq_true, decide_eq_true_eq] at hq2
      exact hq2.1.1
    rw [List.length_drop] at h44
    have := hs.1
    omega
  rw [e2] at hv2
  have x1 : ((h2.version : Int) != (h1.version : Int)) = false := by rw [hv2]; simp
  have x2 : (h2.version != h1.version) = false := by rw [hv2]; simp
  have HLM : Hid (∀ V, Calls Try.prog 50 #[hdArr h2, .int .i64 8] V fun e w' => e = .returned (.int .i64 (longN h2 8)) ∧ Below V.heap.size V w') := Lib.hid fun V => rlong_any h2 8 (.inr rfl) (by rw [← e2]; exact hdOk_bytes (drop_byt hb _)) V
  have hM9 : longN h2 8 ≤ 900000000000 := by
    obtain ⟨o1, o2, o3, o4, o5, o6⟩ : HdOk h2 := by rw [← e2]; exact hdOk_bytes (drop_byt hb _)
    unfold longN restN; omega
  obtain ⟨M, hM⟩ : ∃ M, longN h2 8 = M := ⟨_, rfl⟩
  rw [hM] at HLM hM9
  unfold hdArr at HLM
  obtain ⟨s3, hs3⟩ : ∃ s3, 88 + N1 = s3 := ⟨_, rfl⟩
  have y1 : (88 : Int) + (N1 : Int) = (s3 : Int) := by omega
  have y2 : ¬ (n : Int) < (s3 : Int) := by omega
  have y3 : ¬ n < s3 := by omega
  have y4 : (s3 : Int) ≤ (n : Int) := by omega
  have hnc := hs.2.1
  have y5 : (s3 : Int) ≤ (c : Int) := by omega
  have y6 : (n : Int) ≤ (c : Int) := by omega
  have y7 : (0 : Int) ≤ (s3 : Int) := by omega
  obtain ⟨rn, hrn⟩ : ∃ rn, n - s3 = rn := ⟨_, rfl⟩
  have z1 : (0 : Int) ≤ (M : Int) := by omega
  have z2 : (M : Int) ≤ 900000000000 := by omega
  have z3 : (0 : Int) ≤ (rn : Int) := by omega
  have z4 : (rn : Int) ≤ 1000000 := by omega
  rw [e1, hN1, hs3] at hc
  rw [e1, hN1, hs3, hrn, hs2, e2, hM] at hr
  have z5 : (rn : Int) < (M : Int) + 2 := by omega
  clear hs hB hb hq hv hl hv1 e1 hN1 hN9 HC1 HC2 hn hq2 hs2 hv2 e2 hlen2 hM hM9 hs3 hnc hr
  go_enter Try.func40, Try.ntmps40
  go_wp2_with (first
    | (go_at_call 49; (try rw [hX]); refine HC1'.out.mono ?_; clear HC1'; rintro e V1 ⟨rfl, hbe⟩; have K1 := Lib.hid (K0.out.step hbe K0.out.rb.lt); have B1 := Lib.hid (ArBox.new V1 h1); clear hbe hX)
    | (go_at_call 50; refine (HL1.out _).mono ?_; clear HL1; rintro e V2 ⟨rfl, hbe⟩; have K2 := Lib.hid ((K1.out.alloc _).step hbe (by have := K1.out.rb.lt; simp; omega)); clear hbe)
    | (go_at_call 49; refine (HC2'.out _ K2.out).mono ?_; clear HC2'; rintro e V3 ⟨rfl, hbe⟩; have K3 := Lib.hid (K2.out.step hbe K2.out.rb.lt); clear hbe)
    | (go_at_call 50; refine (HLM.out _).mono ?_; clear HLM; rintro e V4 ⟨rfl, hbe⟩; have K4 := Lib.hid ((K3.out.alloc _).step hbe (by have := K3.out.rb.lt; simp; omega)); have B4 := Lib.hid ((ArBox.new V3 h2).below hbe (by simp)); clear hbe; have k0 := K4.out.rb.c0; have k1 := K4.out.rb.c1; have k2 := K4.out.rb.c2; have k3 := K4.out.rb.c3; have f0 := K4.out.rb.fr 0; have f1 := K4.out.rb.fr 1; have f2 := K4.out.rb.fr 2; have f3 := K4.out.rb.fr 3; have HS1 := K4.out.rb.lt)
    | fail)
  exact bodyPost_ret (v := .tuple #[noZone, .bool false]) (by simp [results, Try.results40, go_sem, noZone, k0, k1, k2, k3]) rfl ⟨rfl, K4.out.bl.trans (((((Below.refl w.heap.size V4).setCell (Nat.le_refl _) _).setCell (Nat.le_refl _) _).setCell (Nat.le_refl _) _).setCell (Nat.le_refl _) _)⟩
set_option maxRecDepth 100000 in
set_option maxHeartbeats 1000000 in
theorem rparse_s0 (l : List Nat) (gb off B n c : Nat) (w : World) (hs : SB w B (some ⟨gb, off, none⟩) n c l) (hB : B ≤ w.heap.size) (hb : ∀ b ∈ l, b < 256) (hn : n ≤ 1000000) (hq : hdGood l = true) (hv : l.getD 4 0 ≠ 0) (hl : 44 + longN (hdOf l) 4 ≤ n) (hq2 : hdGood (l.drop (44 + longN (hdOf l) 4)) = true) (hv2 : (hdOf (l.drop (44 + longN (hdOf l) 4))).version = (hdOf l).version) (hc : c - (88 + longN (hdOf l) 4) = 0) (hr : n - (88 + longN (hdOf l) 4) < longN (hdOf (l.drop (44 + longN (hdOf l) 4))) 8 + 2) :
    Calls Try.prog 40 #[.slice (some ⟨gb, off, none⟩) n c] w fun e w' => e = .returned (.tuple #[noZone, .bool false]) ∧ Below w.heap.size w w' := by
  have K0 := Lib.hid (Qk.start hs hB)
  obtain ⟨X, hX⟩ : ∃ X, w.alloc (.cells #[.slice none 0 0, .slice none 0 0, .slice none 0 0, .string ⟨#[]⟩] 31) = X := ⟨_, rfl⟩
  rw [hX] at K0
  have HC1 : Hid (Calls Try.prog 49 #[.slice (some ⟨gb, off, none⟩) n c, .int .i64 0] X fun e w' => CntP l e ∧ Below X.heap.size X w') := Lib.hid (rcounts_any l _ B n c 0 X K0.out.sb (by have := K0.out.rb.lt; have := K0.out.lo; omega) hb (by omega))
  have HQ := Lib.hid hq
  obtain ⟨h1, e1⟩ : ∃ h1, hdOf l = h1 := ⟨_, rfl⟩
  have HC1' : Hid (Calls Try.prog 49 #[.slice (some ⟨gb, off, none⟩) n c, .int .i64 0] X fun e w' => e = .returned (.tuple #[hdArr h1, .int .u8 h1.version, .bool true]) ∧ Below X.heap.size X w') := Lib.hid (HC1.out.mono fun e w' ⟨hc, hw⟩ => ⟨by rw [← e1]; exact hc.2 hq, hw⟩)
  have hv1 : h1.version = l.getD 4 0 := by rw [← e1]; rfl
  have HL1 : Hid (∀ V, Calls Try.prog 50 #[hdArr h1, .int .i64 4] V fun e w' => e = .returned (.int .i64 (longN h1 4)) ∧ Below V.heap.size V w') := Lib.hid fun V => rlong_any h1 4 (.inl rfl) (by rw [← e1]; exact hdOk_bytes hb) V
  have hN9 : longN h1 4 ≤ 900000000000 := by
    obtain ⟨o1, o2, o3, o4, o5, o6⟩ : HdOk h1 := by rw [← e1]; exact hdOk_bytes hb
    unfold longN restN; omega
  obtain ⟨N1, hN1⟩ : ∃ N1, longN h1 4 = N1 := ⟨_, rfl⟩
  rw [hN1] at HL1 hN9
  rw [← hv1] at hv
  have v0 : decide ((h1.version : Int) = 0) = false := by simp; omega
  have v1 : ((h1.version : Int) == 0) = false := by simp; omega
  have v2 : ((h1.version : Int) != 0) = true := by simp; omega
  have i1 : (0 : Int) ≤ (N1 : Int) := by omega
  have i2 : (N1 : Int) ≤ 900000000000 := by omega
  have i3 : (n : Int) ≤ 1000000 := by omega
  have i4 : (0 : Int) ≤ (n : Int) := by omega
  unfold hdArr at HC1' HL1
  rw [e1, hN1] at hl
  have j1 : ¬ (n : Int) - 44 < (N1 : Int) := by omega
  obtain ⟨s2, hs2⟩ : ∃ s2, 44 + N1 = s2 := ⟨_, rfl⟩
  have j2 : (44 : Int) + (N1 : Int) = (s2 : Int) := by omega
  rw [e1, hN1, hs2] at hq2
  have HC2 : Hid (∀ V, Qk w V B (some ⟨gb, off, none⟩) n c l → Calls Try.prog 49 #[.slice (some ⟨gb, off, none⟩) n c, .int .i64 s2] V fun e w' => CntP (l.drop s2) e ∧ Below V.heap.size V w') := Lib.hid fun V hV => rcounts_any l _ B n c s2 V hV.sb (by have := hV.rb.lt; have := hV.lo; omega) hb (by omega)
  rw [e1, hN1, hs2] at hv2
  obtain ⟨h2, e2⟩ : ∃ h2, hdOf (l.drop s2) = h2 := ⟨_, rfl⟩
  have HC2' : Hid (∀ V, Qk w V B (some ⟨gb, off, none⟩) n c l → Calls Try.prog 49 #[.slice (some ⟨gb, off, none⟩) n c, .int .i64 s2] V fun e w' => e = .returned (.tuple #[hdArr h2, .int .u8 h2.version, .bool true]) ∧ Below V.heap.size V w') := Lib.hid fun V hV => (HC2.out V hV).mono fun e w' ⟨hc, hw⟩ => ⟨by rw [← e2]; exact hc.2 hq2, hw⟩
  unfold hdArr at HC2'
  have hlen2 : s2 + 44 ≤ n := by
    have h44 : 44 ≤ (l.drop s2).length := by
      unfold hdGood at hq2
      simp only [Bool.and_eq_true, decide_eq_true_eq] at hq2
      exact hq2.1.1
    rw [List.length_drop] at h44
    have := hs.1
    omega
  rw [e2] at hv2
  have x1 : ((h2.version : Int) != (h1.version : Int)) = false := by rw [hv2]; simp
  have x2 : (h2.version != h1.version) = false := by rw [hv2]; simp
  have HLM : Hid (∀ V, Calls Try.prog 50 #[hdArr h2, .int .i64 8] V fun e w' => e = .returned (.int .i64 (longN h2 8)) ∧ Below V.heap.size V w') := Lib.hid fun V => rlong_any h2 8 (.inr rfl) (by rw [← e2]; exact hdOk_bytes (drop_byt hb _)) V
  have hM9 : longN h2 8 ≤ 900000000000 := by
    obtain ⟨o1, o2, o3, o4, o5, o6⟩ : HdOk h2 := by rw [← e2]; exact hdOk_bytes (drop_byt hb _)
    unfold longN restN; omega
  obtain ⟨M, hM⟩ : ∃ M, longN h2 8 = M := ⟨_, rfl⟩
  rw [hM] at HLM hM9
  unfold hdArr at HLM
  obtain ⟨s3, hs3⟩ : ∃ s3, 88 + N1 = s3 := ⟨_, rfl⟩
  have y1 : (88 : Int) + (N1 : Int) = (s3 : Int) := by omega
  have y2 : ¬ (n : Int) < (s3 : Int) := by omega
  have y3 : ¬ n < s3 := by omega
  have y4 : (s3 : Int) ≤ (n : Int) := by omega
  have hnc := hs.2.1
  have y5 : (s3 : Int) ≤ (c : Int) := by omega
  have y6 : (n : Int) ≤ (c : Int) := by omega
  have y7 : (0 : Int) ≤ (s3 : Int) := by omega
  obtain ⟨rn, hrn⟩ : ∃ rn, n - s3 = rn := ⟨_, rfl⟩
  have z1 : (0 : Int) ≤ (M : Int) := by omega
  have z2 : (M : Int) ≤ 900000000000 := by omega
  have z3 : (0 : Int) ≤ (rn : Int) := by omega
  have z4 : (rn : Int) ≤ 1000000 := by omega
  rw [e1, hN1, hs3] at hc
  rw [e1, hN1, hs3, hrn, hs2, e2, hM] at hr
  have z5 : (rn : Int) < (M : Int) + 2 := by omega
  clear hs hB hb hq hv hl hv1 e1 hN1 hN9 HC1 HC2 hn hq2 hs2 hv2 e2 hlen2 hM hM9 hs3 hnc hr
  go_enter Try.func40, Try.ntmps40
  go_wp2_with (first
    | (go_at_call 49; (try rw [hX]); refine HC1'.out.mono ?_; clear HC1'; rintro e V1 ⟨rfl, hbe⟩; have K1 := Lib.hid (K0.out.step hbe K0.out.rb.lt); have B1 := Lib.hid (ArBox.new V1 h1); clear hbe hX)
    | (go_at_call 50; refine (HL1.out _).mono ?_; clear HL1; rintro e V2 ⟨rfl, hbe⟩; have K2 := Lib.hid ((K1.out.alloc _).step hbe (by have := K1.out.rb.lt; simp; omega)); clear hbe)
    | (go_at_call 49; refine (HC2'.out _ K2.out).mono ?_; clear HC2'; rintro e V3 ⟨rfl, hbe⟩; have K3 := Lib.hid (K2.out.step hbe K2.out.rb.lt); clear hbe)
    | (go_at_call 50; refine (HLM.out _).mono ?_; clear HLM; rintro e V4 ⟨rfl, hbe⟩; have K4 := Lib.hid ((K3.out.alloc _).step hbe (by have := K3.out.rb.lt; simp; omega)); have B4 := Lib.hid ((ArBox.new V3 h2).below hbe (by simp)); clear hbe; have k0 := K4.out.rb.c0; have k1 := K4.out.rb.c1; have k2 := K4.out.rb.c2; have k3 := K4.out.rb.c3; have f0 := K4.out.rb.fr 0; have f1 := K4.out.rb.fr 1; have f2 := K4.out.rb.fr 2; have f3 := K4.out.rb.fr 3; have HS1 := K4.out.rb.lt)
    | fail)
  exact bodyPost_ret (v := .tuple #[noZone, .bool false]) (by simp [results, Try.results40, go_sem, noZone, k0, k1, k2, k3]) rfl ⟨rfl, K4.out.bl.trans (((((Below.refl w.heap.size V4).setCell (Nat.le_refl _) _).setCell (Nat.le_refl _) _).setCell (Nat.le_refl _) _).setCell (Nat.le_refl _) _)⟩
end Go.Proofs.Ytohpdpcjhmopbaa.Tz
