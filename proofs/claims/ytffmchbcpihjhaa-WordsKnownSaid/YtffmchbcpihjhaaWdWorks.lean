/-
  Layer 12 (words): what Split and the document's Split answer, told apart; the chapter's examples hold.
-/
import Derived.Test.YtffmchbcpihjhaaWdRsplit
import Derived.Test.YtffmchbcpihjhaaWdJoin
namespace Go.Proofs.Ytffmchbcpihjhaa.Wd
open Go.RowKit
set_option maxRecDepth 100000

theorem split_yes (s : List UInt8) (l : List (List UInt8)) (hs : s.length ≤ 1000000) (h : splitL s = some l) (hl : l.length ≤ 64) (V : World) : Calls Try.prog 10 #[.string (bs s)] V fun e V' => ∃ A c, e = .returned (.tuple #[.slice A l.length c, .int .i64 0]) ∧ StrRow V' A l ∧ Below V.heap.size V V' :=
  (split_any s hs V).mono fun e V' ⟨v, err, he, hb, ht⟩ => by
    unfold Told at ht
    rw [h] at ht
    rcases ht with ⟨h1, _⟩ | ⟨_, ho, h0⟩
    · omega
    · obtain ⟨A, c, rfl, hr⟩ := own_str ho
      exact ⟨A, c, by rw [he, h0], hr, hb⟩
theorem split_bad (s : List UInt8) (hs : s.length ≤ 1000000) (h : splitL s = none) (V : World) : Calls Try.prog 10 #[.string (bs s)] V fun e V' => e = .returned (.tuple #[.slice none 0 0, .int .i64 120]) ∧ Below V.heap.size V V' :=
  (split_any s hs V).mono fun e V' ⟨v, err, he, hb, ht⟩ => by
    unfold Told at ht
    rw [h] at ht
    exact ⟨by rw [he, ht.1, ht.2], hb⟩
theorem split_many (s : List UInt8) (l : List (List UInt8)) (hs : s.length ≤ 1000000) (h : splitL s = some l) (hl : 64 < l.length) (V : World) : Calls Try.prog 10 #[.string (bs s)] V fun e V' => e = .returned (.tuple #[.slice none 0 0, .int .i64 3]) ∧ Below V.heap.size V V' :=
  (split_any s hs V).mono fun e V' ⟨v, err, he, hb, ht⟩ => by
    unfold Told at ht
    rw [h] at ht
    rcases ht with ⟨_, h1, h2⟩ | ⟨h1, _⟩
    · exact ⟨by rw [he, h1, h2], hb⟩
    · omega
theorem rsplit_yes (s : List UInt8) (l : List (List UInt8)) (hs : s.length ≤ 1000000) (h : splitL s = some l) (V : World) : Calls Try.prog 11 #[.string (bs s)] V fun e V' => ∃ A c, e = .returned (.tuple #[.slice A l.length c, .bool true]) ∧ StrRow V' A l ∧ Below V.heap.size V V' :=
  (rsplit_any s hs V).mono fun e V' ⟨v, he, hb, ht⟩ => by
    unfold RTold at ht
    rw [h] at ht he
    obtain ⟨A, c, rfl, hr⟩ := own_str ht
    exact ⟨A, c, he, hr, hb⟩
theorem rsplit_bad (s : List UInt8) (hs : s.length ≤ 1000000) (h : splitL s = none) (V : World) : Calls Try.prog 11 #[.string (bs s)] V fun e V' => e = .returned (.tuple #[.slice none 0 0, .bool false]) ∧ Below V.heap.size V V' :=
  (rsplit_any s hs V).mono fun e V' ⟨v, he, hb, ht⟩ => by
    unfold RTold at ht
    rw [h] at ht he
    exact ⟨by rw [he, ht]; rfl, hb⟩
/-- A row that is written out. -/
theorem new_row (W : World) (l : List (List UInt8)) (cs : Array Value) (hcs : cs = (l.map fun x => Value.string (bs x)).toArray) (t : TypeId) : StrRow (W.alloc (.cells cs t)) (some ⟨W.heap.size, 0, none⟩) l := fun i o hi => by
  subst hcs
  refine ⟨_, rfl, by show _ < (W.heap.push _).size; simp, new_cells W _ rfl (l.map fun x => Value.string (bs x)) t i _ (by rw [List.getElem?_map, hi]; rfl)⟩
theorem StrRow.alloc {W : World} {A : Option Addr} {l : List (List UInt8)} (h : StrRow W A l) (o : Obj) : StrRow (W.alloc o) A l := h.keep ((Below.refl _ W).alloc (Nat.le_refl _) o)

def wA : List UInt8 := [97, 32, 34, 98, 32, 99, 34, 32, 39, 100, 92, 110, 39, 32, 101, 92, 120, 52, 49]
def wB : List UInt8 := [34, 97]
def lA : List (List UInt8) := [[97], [98, 32, 99], [100, 92, 110], [101, 65]]
def lB : List (List UInt8) := [[97, 32, 98], []]
theorem split_wA : splitL wA = some lA := by decide +kernel
theorem split_wB : splitL wB = none := by decide +kernel
theorem join_lB : joinL lB = [34, 97, 32, 98, 34, 32, 34, 34] := by decide +kernel
set_option maxHeartbeats 4000000 in
theorem works_any (w : World) : Calls Try.prog 9 #[] w fun e w' => e = .returned (.bool true) ∧ Below w.heap.size w w' := by
  have H1 : Hid (Calls Try.prog 10 #[.string ⟨#[97, 32, 34, 98, 32, 99, 34, 32, 39, 100, 92, 110, 39, 32, 101, 92, 120, 52, 49]⟩] w fun e V' => ∃ A c, e = .returned (.tuple #[.slice A 4 c, .int .i64 0]) ∧ StrRow V' A lA ∧ Below w.heap.size w V') := Lib.hid (split_yes wA lA (by decide) split_wA (by decide) w)
  have H2 : Hid (∀ V, Calls Try.prog 10 #[.string ⟨#[34, 97]⟩] V fun e V' => e = .returned (.tuple #[.slice none 0 0, .int .i64 120]) ∧ Below V.heap.size V V') := Lib.hid (split_bad wB (by decide) split_wB)
  have H3 : Hid (∀ A B c d V, StrRow V A lA → StrRow V B lA → Calls Try.prog 12 #[.slice A 4 c, .slice B 4 d] V fun e V' => e = .returned (.bool true) ∧ Below V.heap.size V V') := Lib.hid fun A B c d V hA hB => (same_any A B c d lA lA V hA hB (by decide)).mono fun e V' ⟨he, hb⟩ => ⟨by rw [he, decide_eq_true rfl], hb⟩
  have H4 : Hid (∀ A c V, StrRow V A lB → Calls Try.prog 13 #[.slice A 2 c] V fun e V' => e = .returned (.string ⟨#[34, 97, 32, 98, 34, 32, 34, 34]⟩) ∧ Below V.heap.size V V') := Lib.hid fun A c V hA => (join_any A c lB (by decide) (by decide) V hA).mono fun e V' ⟨he, hb⟩ => ⟨by rw [he, join_lB], hb⟩
  go_enter Try.func9, Try.ntmps9
  go_wp2_with (first
    | (go_at_call 10; refine (H1.out).mono ?_; clear H1; rintro e V1 ⟨A1, c1, rfl, hr1, hb1⟩; have HR1 := Lib.hid hr1; have HB1 := Lib.hid hb1; clear hr1 hb1)
    | (go_at_call 10; refine (H2.out _).mono ?_; clear H2; rintro e V2 ⟨rfl, hb2⟩; have HR2 := Lib.hid (HR1.out.keep hb2); have HB2 := Lib.hid (HB1.out.trans (hb2.mono HB1.out.size)); clear hb2 HR1)
    | (go_at_call 12; refine (H3.out _ _ _ _ _ (HR2.out.alloc _) (new_row V2 lA _ rfl _)).mono ?_; clear H3; rintro e V3 ⟨rfl, hb3⟩; have HB3 := Lib.hid ((HB2.out.alloc HB2.out.size _).trans (hb3.mono (by have := HB2.out.size; simp; omega))); clear hb3)
    | (go_at_call 13; refine (H4.out _ _ _ (new_row V3 lB _ rfl _)).mono ?_; clear H4; rintro e V4 ⟨rfl, hb4⟩; have HB4 := Lib.hid ((HB3.out.alloc HB3.out.size _).trans (hb4.mono (by have := HB3.out.size; simp; omega))); clear hb4)
    | fail)
  go_ret
  exact ⟨rfl, HB4.out⟩
end Go.Proofs.Ytffmchbcpihjhaa.Wd
