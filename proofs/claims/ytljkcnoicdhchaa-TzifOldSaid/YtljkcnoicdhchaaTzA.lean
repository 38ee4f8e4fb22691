/-
  Layer 6 (tzif): zones as plain data, and in memory; what the program's Right leans on.
-/
import Derived.WalkKit
import Derived.Below
import Derived.LoopTactic
import Derived.IntWalk
import Derived.Lib.Strings
import Derived.Lib.Hide
import Derived.Deep.QuietTactic
import Derived.BigQuiet
import Derived.Test.YtljkcnoicdhchaaProg
namespace Go.Proofs.Ytljkcnoicdhchaa.Tz
open Go.RowKit

/-! ### As plain data -/
structure Ty where
  off : Int
  dst : Bool
  abbr : ByteArray
structure Zn where
  types : List Ty
  (times index : List Int)
  footer : ByteArray
def inI (n lo hi : Int) : Bool := decide (lo ≤ n) && decide (n ≤ hi)
/-- Is each byte one from c up to 126? -/
def onlyB (t : ByteArray) (c : Int) : Bool := t.data.toList.all fun b => inI b.toNat c 126
def rightTy (t : Ty) : Bool := inI t.off (-89999) 93599 && inI t.abbr.size 1 15 && onlyB t.abbr 33
def letters (l : List Ty) : Nat := (l.map fun t => t.abbr.size + 1).sum
def rightTys (l : List Ty) : Bool := inI l.length 1 255 && l.all rightTy && decide (letters l ≤ 256)
def rises : List Int → Bool
  | a :: b :: l => decide (a < b) && rises (b :: l)
  | _ => true
def rightTms (l : List Int) : Bool := decide (l.length ≤ 4000) && rises l
def rightIdx (l : List Int) (n : Int) : Bool := l.all fun i => inI i 0 (n - 1)
def rightZ (z : Zn) : Bool := rightTys z.types && rightTms z.times && decide (z.index.length = z.times.length) && rightIdx z.index z.types.length && decide (z.footer.size ≤ 100) && onlyB z.footer 32
theorem rises_at : ∀ {l : List Int}, (∀ (j : Nat) (a b : Int), l[j]? = some a → l[j + 1]? = some b → a < b) → rises l = true
  | [], _ => rfl
  | [_], _ => rfl
  | a :: b :: l, h => by
    unfold rises
    rw [Bool.and_eq_true, decide_eq_true_eq]
    exact ⟨h 0 a b rfl rfl, rises_at fun j x y hx hy => h (j + 1) x y (by simpa using hx) (by simpa using hy)⟩
theorem rises_of : ∀ {l : List Int}, rises l = true → ∀ (j : Nat) (a b : Int), l[j]? = some a → l[j + 1]? = some b → a < b
  | [], _, _, _, _, h, _ => by simp at h
  | [_], _, 0, _, _, _, h => by simp at h
  | [_], _, _ + 1, _, _, h, _ => by simp at h
  | a :: b :: l, h, j, x, y, hx, hy => by
    unfold rises at h
    rw [Bool.and_eq_true, decide_eq_true_eq] at h
    cases j with
    | zero =>
      simp at hx hy
      rw [← hx, ← hy]; exact h.1
    | succ j => exact rises_of h.2 j x y (by simpa using hx) (by simpa using hy)
theorem letters_snoc (l : List Ty) (t : Ty) : letters (l ++ [t]) = letters l + (t.abbr.size + 1) := by unfold letters; simp
theorem take_one {α : Type} {l : List α} {k : Nat} {x : α} (h : l[k]? = some x) : l.take (k + 1) = l.take k ++ [x] := by
  have hl : k < l.length := by
    rcases Nat.lt_or_ge k l.length with b | b
    · exact b
    · rw [List.getElem?_eq_none b] at h; cases h
  rw [List.take_succ_eq_append_getElem hl]
  rw [List.getElem?_eq_getElem hl] at h
  injection h with h; rw [h]

/-! ### In memory -/
def tyCells (t : Ty) : List Value := [.int .i64 t.off, .bool t.dst, .string t.abbr]
def intCells (n : Int) : List Value := [.int .i64 n]
/-- A slice whose elements, of so many cells each, are these, in blocks below B. -/
structure Sl (w : World) (B sz : Nat) (v : Value) (xs : List (List Value)) : Prop where
  form : ∃ A c, v = .slice A xs.length c
  at_ : ∀ (j : Nat) (row : List Value), xs[j]? = some row → ∃ g off c, v = .slice (some ⟨g, off, none⟩) xs.length c ∧ g < B ∧ ∀ (k : Nat) (u : Value), row[k]? = some u → w.cell? ⟨g, off + j * sz + k, none⟩ = some u
theorem Sl.below {w w' : World} {B C sz : Nat} {v : Value} {xs : List (List Value)} (h : Sl w B sz v xs) (hb : Below C w w') (hB : B ≤ C) : Sl w' B sz v xs :=
  ⟨h.form, fun j row hj => by
    obtain ⟨g, off, c, hv, hg, hc⟩ := h.at_ j row hj
    exact ⟨g, off, c, hv, hg, fun k u hu => (hb.cell (p := ⟨g, off + j * sz + k, none⟩) (Nat.lt_of_lt_of_le hg hB)).trans (hc k u hu)⟩⟩

/-! ### within, hasOnly -/
theorem within_int (n lo hi : Int) (w : World) : Calls Try.prog 42 #[.int .i64 n, .int .i64 lo, .int .i64 hi] w fun e w' => e = .returned (.bool (inI n lo hi)) ∧ w = w' := by
  unfold inI
  by_cases h1 : lo ≤ n
  · by_cases h2 : n ≤ hi
    · have hq : (decide (lo ≤ n) && decide (n ≤ hi)) = true := by simp [h1, h2]
      rw [hq]
      clear hq
      go_enter Try.func42, Try.ntmps42
      go_wp2_with fail
      go_ret
      exact ⟨rfl, rfl⟩
    · have hq : (decide (lo ≤ n) && decide (n ≤ hi)) = false := by simp [h2]
      rw [hq]
      clear hq
      go_enter Try.func42, Try.ntmps42
      go_wp2_with fail
      go_ret
      exact ⟨rfl, rfl⟩
  · have hq : (decide (lo ≤ n) && decide (n ≤ hi)) = false := by simp [h1]
    rw [hq]
    clear hq
    go_enter Try.func42, Try.ntmps42
    go_wp2_with fail
    go_ret
    exact ⟨rfl, rfl⟩
theorem within_byte (n lo hi : Int) (w : World) : Calls Try.prog 43 #[.int .u8 n, .int .u8 lo, .int .u8 hi] w fun e w' => e = .returned (.bool (inI n lo hi)) ∧ w = w' := by
  unfold inI
  by_cases h1 : lo ≤ n
  · by_cases h2 : n ≤ hi
    · have hq : (decide (lo ≤ n) && decide (n ≤ hi)) = true := by simp [h1, h2]
      rw [hq]
      clear hq
      go_enter Try.func43, Try.ntmps43
      go_wp2_with fail
      go_ret
      exact ⟨rfl, rfl⟩
    · have hq : (decide (lo ≤ n) && decide (n ≤ hi)) = false := by simp [h2]
      rw [hq]
      clear hq
      go_enter Try.func43, Try.ntmps43
      go_wp2_with fail
      go_ret
      exact ⟨rfl, rfl⟩
  · have hq : (decide (lo ≤ n) && decide (n ≤ hi)) = false := by simp [h1]
    rw [hq]
    clear hq
    go_enter Try.func43, Try.ntmps43
    go_wp2_with fail
    go_ret
    exact ⟨rfl, rfl⟩
theorem byte_at (t : ByteArray) (k : Nat) (h : k < t.size) : t.data.toList[k]? = some t[k] := by
  rw [Array.getElem?_toList]
  exact Array.getElem?_eq_getElem h
set_option maxHeartbeats 1000000 in
theorem hasOnly_any (t : ByteArray) (c : Int) (w : World) (ht : t.size ≤ 9223372036854775807) : Calls Try.prog 29 #[.string t, .int .u8 c] w fun e w' => e = .returned (.bool (onlyB t c)) ∧ w = w' := by
  obtain ⟨b, hb⟩ : ∃ b, onlyB t c = b := ⟨_, rfl⟩
  rw [hb]
  have HB := Lib.hid hb
  clear hb
  go_enter Try.func29, Try.ntmps29
  go_wp2_with fail
  go_loopw [8] (fun i wr => ∃ k : Nat, k ≤ t.size ∧ i = .int .i64 k ∧ (∀ x ∈ t.data.toList.take k, inI x.toNat c 126 = true) ∧ wr = w) (fun i _ => t.size - (intOf i).toNat)
  case atStart => exact ⟨0, Nat.zero_le _, rfl, fun x hx => by simp at hx, rfl⟩
  case round =>
    obtain ⟨k, hk, rfl, hall, rfl⟩ := hrel
    have HALL := Lib.hid hall
    clear hall
    by_cases hlt : k < t.size
    · have hk0 : (0 : Int) ≤ (k : Int) := by omega
      have hk1 : (k : Int) < (t.size : Int) := by omega
      have hat := byte_at t k hlt
      obtain ⟨q, hq⟩ : ∃ q, inI (t[k].toNat : Int) c 126 = q := ⟨_, rfl⟩
      have HW := Lib.hid (within_byte (t[k].toNat : Int) c 126 wr)
      rw [hq] at HW
      have HQ := Lib.hid hq; have HAT := Lib.hid hat
      clear hq hat
      cases q with
      | true =>
        go_wp2_with (first
          | (go_at_call 43; refine HW.out.mono ?_; clear HW; rintro e w1 ⟨rfl, rfl⟩)
          | fail)
        refine ⟨⟨k + 1, hlt, by go_num, fun x hx => ?_, by first | rfl | trivial⟩, by simp [intOf]; omega⟩
        rw [take_one HAT.out] at hx
        rcases List.mem_append.1 hx with hx | hx
        · exact HALL.out x hx
        · rw [List.mem_singleton.1 hx]; exact HQ.out
      | false =>
        go_wp2_with (first
          | (go_at_call 43; refine HW.out.mono ?_; clear HW; rintro e w1 ⟨rfl, rfl⟩)
          | fail)
        go_ret
        refine ⟨?_, rfl⟩
        have : b = false := by
          rw [← HB.out]
          unfold onlyB
          rw [List.all_eq_false]
          exact ⟨_, List.mem_of_getElem? HAT.out, by rw [HQ.out]; simp⟩
        rw [this]; rfl
    · have hk1 : ¬ (k : Int) < (t.size : Int) := by omega
      go_wp2_with fail
      go_ret
      refine ⟨?_, rfl⟩
      have : b = true := by
        rw [← HB.out]
        unfold onlyB
        rw [List.all_eq_true]
        intro x hx
        refine HALL.out x ?_
        rw [List.take_of_length_le]
        · exact hx
        · rw [Array.length_toList]; show t.size ≤ k; omega
      rw [this]; rfl
end Go.Proofs.Ytljkcnoicdhchaa.Tz
