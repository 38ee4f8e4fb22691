/-
  TzA, TzB, TzC, TzD, TzE, TzF, TzG, TzH, one behind the other.
-/
import Derived.WalkKit
import Derived.Below
import Derived.LoopTactic
import Derived.IntWalk
import Derived.Lib.Strings
import Derived.Lib.Hide
import Derived.Deep.QuietTactic
import Derived.BigQuiet
import Derived.Test.YtohpdpcjhmopbaaProg
/-! Layer 6 (tzif): zones as plain data, and in memory; what the program's Right leans on. -/
namespace Go.Proofs.Ytohpdpcjhmopbaa.Tz
open Go.RowKit

/-! ### As plain data -/
structure Ty where
  off : Int
  dst : Bool
  abbr : ByteArray
structure Zn where
  types : List Ty
  (times index : List Int)
  footer : ByteArray
def inI (n lo hi : Int) : Bool := decide (lo ≤ n) && decide (n ≤ hi)
/-- Is each byte one from c up to 126? -/
def onlyB (t : ByteArray) (c : Int) : Bool := t.data.toList.all fun b => inI b.toNat c 126
def rightTy (t : Ty) : Bool := inI t.off (-89999) 93599 && inI t.abbr.size 1 15 && onlyB t.abbr 33
def letters (l : List Ty) : Nat := (l.map fun t => t.abbr.size + 1).sum
def rightTys (l : List Ty) : Bool := inI l.length 1 255 && l.all rightTy && decide (letters l ≤ 256)
def rises : List Int → Bool
  | a :: b :: l => decide (a < b) && rises (b :: l)
  | _ => true
def rightTms (l : List Int) : Bool := decide (l.length ≤ 4000) && rises l
def rightIdx (l : List Int) (n : Int) : Bool := l.all fun i => inI i 0 (n - 1)
def rightZ (z : Zn) : Bool := rightTys z.types && rightTms z.times && decide (z.index.length = z.times.length) && rightIdx z.index z.types.length && decide (z.footer.size ≤ 100) && onlyB z.footer 32
theorem rises_at : ∀ {l : List Int}, (∀ (j : Nat) (a b : Int), l[j]? = some a → l[j + 1]? = some b → a < b) → rises l = true
  | [], _ => rfl
  | [_], _ => rfl
  | a :: b :: l, h => by
    unfold rises
    rw [Bool.and_eq_true, decide_eq_true_eq]
    exact ⟨h 0 a b rfl rfl, rises_at fun j x y hx hy => h (j + 1) x y (by simpa using hx) (by simpa using hy)⟩
theorem rises_of : ∀ {l : List Int}, rises l = true → ∀ (j : Nat) (a b : Int), l[j]? = some a → l[j + 1]? = some b → a < b
  | [], _, _, _, _, h, _ => by simp at h
  | [_], _, 0, _, _, _, h => by simp at h
  | [_], _, _ + 1, _, _, h, _ => by simp at h
  | a :: b :: l, h, j, x, y, hx, hy => by
    unfold rises at h
    rw [Bool.and_eq_true, decide_eq_true_eq] at h
    cases j with
    | zero =>
      simp at hx hy
      rw [← hx, ← hy]; exact h.1
    | succ j => exact rises_of h.2 j x y (by simpa using hx) (by simpa using hy)
theorem letters_snoc (l : List Ty) (t : Ty) : letters (l ++ [t]) = letters l + (t.abbr.size + 1) := by unfold letters; simp
theorem take_one {α : Type} {l : List α} {k : Nat} {x : α} (h : l[k]? = some x) : l.take (k + 1) = l.take k ++ [x] := by
  have hl : k < l.length := by
    rcases Nat.lt_or_ge k l.length with b | b
    · exact b
    · rw [List.getElem?_eq_none b] at h; cases h
  rw [List.take_succ_eq_append_getElem hl]
  rw [List.getElem?_eq_getElem hl] at h
  injection h with h; rw [h]

/-! ### In memory -/
def tyCells (t : Ty) : List Value := [.int .i64 t.off, .bool t.dst, .string t.abbr]
def intCells (n : Int) : List Value := [.int .i64 n]
/-- A slice whose elements, of so many cells each, are these, in blocks below B. -/
structure Sl (w : World) (B sz : Nat) (v : Value) (xs : List (List Value)) : Prop where
  form : ∃ A c, v = .slice A xs.length c
  at_ : ∀ (j : Nat) (row : List Value), xs[j]? = some row → ∃ g off c, v = .slice (some ⟨g, off, none⟩) xs.length c ∧ g < B ∧ ∀ (k : Nat) (u : Value), row[k]? = some u → w.cell? ⟨g, off + j * sz + k, none⟩ = some u
theorem Sl.below {w w' : World} {B C sz : Nat} {v : Value} {xs : List (List Value)} (h : Sl w B sz v xs) (hb : Below C w w') (hB : B ≤ C) : Sl w' B sz v xs :=
  ⟨h.form, fun j row hj => by
    obtain ⟨g, off, c, hv, hg, hc⟩ := h.at_ j row hj
    exact ⟨g, off, c, hv, hg, fun k u hu => (hb.cell (p := ⟨g, off + j * sz + k, none⟩) (Nat.lt_of_lt_of_le hg hB)).trans (hc k u hu)⟩⟩

/-! ### within, hasOnly -/
theorem within_int (n lo hi : Int) (w : World) : Calls Try.prog 42 #[.int .i64 n, .int .i64 lo, .int .i64 hi] w fun e w' => e = .returned (.bool (inI n lo hi)) ∧ w = w' := by
  unfold inI
  by_cases h1 : lo ≤ n
  · by_cases h2 : n ≤ hi
    · have hq : (decide (lo ≤ n) && decide (n ≤ hi)) = true := by simp [h1, h2]
      rw [hq]
      clear hq
      go_enter Try.func42, Try.ntmps42
      go_wp2_with fail
      go_ret
      exact ⟨rfl, rfl⟩
    · have hq : (decide (lo ≤ n) && decide (n ≤ hi)) = false := by simp [h2]
      rw [hq]
      clear hq
      go_enter Try.func42, Try.ntmps42
      go_wp2_with fail
      go_ret
      exact ⟨rfl, rfl⟩
  · have hq : (decide (lo ≤ n) && decide (n ≤ hi)) = false := by simp [h1]
    rw [hq]
    clear hq
    go_enter Try.func42, Try.ntmps42
    go_wp2_with fail
    go_ret
    exact ⟨rfl, rfl⟩
theorem within_byte (n lo hi : Int) (w : World) : Calls Try.prog 43 #[.int .u8 n, .int .u8 lo, .int .u8 hi] w fun e w' => e = .returned (.bool (inI n lo hi)) ∧ w = w' := by
  unfold inI
  by_cases h1 : lo ≤ n
  · by_cases h2 : n ≤ hi
    · have hq : (decide (lo ≤ n) && decide (n ≤ hi)) = true := by simp [h1, h2]
      rw [hq]
      clear hq
      go_enter Try.func43, Try.ntmps43
      go_wp2_with fail
      go_ret
      exact ⟨rfl, rfl⟩
    · have hq : (decide (lo ≤ n) && decide (n ≤ hi)) = false := by simp [h2]
      rw [hq]
      clear hq
      go_enter Try.func43, Try.ntmps43
      go_wp2_with fail
      go_ret
      exact ⟨rfl, rfl⟩
  · have hq : (decide (lo ≤ n) && decide (n ≤ hi)) = false := by simp [h1]
    rw [hq]
    clear hq
    go_enter Try.func43, Try.ntmps43
    go_wp2_with fail
    go_ret
    exact ⟨rfl, rfl⟩
theorem byte_at (t : ByteArray) (k : Nat) (h : k < t.size) : t.data.toList[k]? = some t[k] := by
  rw [Array.getElem?_toList]
  exact Array.getElem?_eq_getElem h
set_option maxHeartbeats 1000000 in
theorem hasOnly_any (t : ByteArray) (c : Int) (w : World) (ht : t.size ≤ 9223372036854775807) : Calls Try.prog 29 #[.string t, .int .u8 c] w fun e w' => e = .returned (.bool (onlyB t c)) ∧ w = w' := by
  obtain ⟨b, hb⟩ : ∃ b, onlyB t c = b := ⟨_, rfl⟩
  rw [hb]
  have HB := Lib.hid hb
  clear hb
  go_enter Try.func29, Try.ntmps29
  go_wp2_with fail
  go_loopw [8] (fun i wr => ∃ k : Nat, k ≤ t.size ∧ i = .int .i64 k ∧ (∀ x ∈ t.data.toList.take k, inI x.toNat c 126 = true) ∧ wr = w) (fun i _ => t.size - (intOf i).toNat)
  case atStart => exact ⟨0, Nat.zero_le _, rfl, fun x hx => by simp at hx, rfl⟩
  case round =>
    obtain ⟨k, hk, rfl, hall, rfl⟩ := hrel
    have HALL := Lib.hid hall
    clear hall
    by_cases hlt : k < t.size
    · have hk0 : (0 : Int) ≤ (k : Int) := by omega
      have hk1 : (k : Int) < (t.size : Int) := by omega
      have hat := byte_at t k hlt
      obtain ⟨q, hq⟩ : ∃ q, inI (t[k].toNat : Int) c 126 = q := ⟨_, rfl⟩
      have HW := Lib.hid (within_byte (t[k].toNat : Int) c 126 wr)
      rw [hq] at HW
      have HQ := Lib.hid hq; have HAT := Lib.hid hat
      clear hq hat
      cases q with
      | true =>
        go_wp2_with (first
          | (go_at_call 43; refine HW.out.mono ?_; clear HW; rintro e w1 ⟨rfl, rfl⟩)
          | fail)
        refine ⟨⟨k + 1, hlt, by go_num, fun x hx => ?_, by first | rfl | trivial⟩, by simp [intOf]; omega⟩
        rw [take_one HAT.out] at hx
        rcases List.mem_append.1 hx with hx | hx
        · exact HALL.out x hx
        · rw [List.mem_singleton.1 hx]; exact HQ.out
      | false =>
        go_wp2_with (first
          | (go_at_call 43; refine HW.out.mono ?_; clear HW; rintro e w1 ⟨rfl, rfl⟩)
          | fail)
        go_ret
        refine ⟨?_, rfl⟩
        have : b = false := by
          rw [← HB.out]
          unfold onlyB
          rw [List.all_eq_false]
          exact ⟨_, List.mem_of_getElem? HAT.out, by rw [HQ.out]; simp⟩
        rw [this]; rfl
    · have hk1 : ¬ (k : Int) < (t.size : Int) := by omega
      go_wp2_with fail
      go_ret
      refine ⟨?_, rfl⟩
      have : b = true := by
        rw [← HB.out]
        unfold onlyB
        rw [List.all_eq_true]
        intro x hx
        refine HALL.out x ?_
        rw [List.take_of_length_le]
        · exact hx
        · rw [Array.length_toList]; show t.size ≤ k; omega
      rw [this]; rfl
end Go.Proofs.Ytohpdpcjhmopbaa.Tz

/-! Layer 6 (tzif): the program's Right. -/
namespace Go.Proofs.Ytohpdpcjhmopbaa.Tz
open Go.RowKit

theorem Sl.one {w : World} {B : Nat} {v : Value} {l : List Int} (h : Sl w B 1 v (l.map intCells)) {k : Nat} {x : Int} (hk : l[k]? = some x) : ∃ g off c, v = .slice (some ⟨g, off, none⟩) l.length c ∧ g < B ∧ w.cell? ⟨g, off + k, none⟩ = some (.int .i64 x) := by
  obtain ⟨g, off, c, hv, hg, hc⟩ := h.at_ k (intCells x) (by rw [List.getElem?_map, hk]; rfl)
  rw [List.length_map] at hv
  exact ⟨g, off, c, hv, hg, by have := hc 0 _ rfl; simpa using this⟩
theorem Sl.ty {w : World} {B : Nat} {v : Value} {l : List Ty} (h : Sl w B 3 v (l.map tyCells)) {k : Nat} {x : Ty} (hk : l[k]? = some x) : ∃ g off c, v = .slice (some ⟨g, off, none⟩) l.length c ∧ g < B ∧ w.cell? ⟨g, off + k * 3, none⟩ = some (.int .i64 x.off) ∧ w.cell? ⟨g, off + k * 3 + 1, none⟩ = some (.bool x.dst) ∧ w.cell? ⟨g, off + k * 3 + 2, none⟩ = some (.string x.abbr) := by
  obtain ⟨g, off, c, hv, hg, hc⟩ := h.at_ k (tyCells x) (by rw [List.getElem?_map, hk]; rfl)
  rw [List.length_map] at hv
  exact ⟨g, off, c, hv, hg, hc 0 _ rfl, hc 1 _ rfl, hc 2 _ rfl⟩
theorem Sl.len {w : World} {B sz : Nat} {v : Value} {α : Type} {f : α → List Value} {l : List α} (h : Sl w B sz v (l.map f)) : ∃ A c, v = .slice A l.length c := by
  obtain ⟨A, c, e⟩ := h.form
  rw [List.length_map] at e
  exact ⟨A, c, e⟩
set_option maxHeartbeats 1000000 in
theorem rightIdx_any (v : Value) (l : List Int) (n : Int) (B : Nat) (w : World) (h : Sl w B 1 v (l.map intCells)) (hl : l.length ≤ 1000000) (hn : 0 ≤ n ∧ n ≤ 1000000) : Calls Try.prog 28 #[v, .int .i64 n] w fun e w' => e = .returned (.bool (rightIdx l n)) ∧ w = w' := by
  obtain ⟨A, c, rfl⟩ := h.len
  have H := Lib.hid h
  obtain ⟨b, hb⟩ : ∃ b, rightIdx l n = b := ⟨_, rfl⟩
  rw [hb]
  have HB := Lib.hid hb
  clear hb h
  obtain ⟨hn0, hn1⟩ := hn
  go_enter Try.func28, Try.ntmps28
  go_wp2_with fail
  go_loopw [9] (fun i wr => ∃ k : Nat, k ≤ l.length ∧ i = .int .i64 k ∧ (∀ x ∈ l.take k, inI x 0 (n - 1) = true) ∧ wr = w) (fun i _ => l.length - (intOf i).toNat)
  case atStart => exact ⟨0, Nat.zero_le _, rfl, fun x hx => by simp at hx, rfl⟩
  case round =>
    obtain ⟨k, hk, rfl, hall, rfl⟩ := hrel
    have HALL := Lib.hid hall
    clear hall
    by_cases hlt : k < l.length
    · have hk0 : (0 : Int) ≤ (k : Int) := by omega
      have hk1 : (k : Int) < (l.length : Int) := by omega
      obtain ⟨x, hx⟩ : ∃ x, l[k]? = some x := ⟨_, List.getElem?_eq_getElem hlt⟩
      obtain ⟨g, off, c', hv, hg, c0⟩ := H.out.one hx
      injection hv with e1 _ e3
      subst e1; subst e3
      obtain ⟨q, hq⟩ : ∃ q, inI x 0 (n - 1) = q := ⟨_, rfl⟩
      have HW := Lib.hid (within_int x 0 (n - 1) wr)
      rw [hq] at HW
      have HQ := Lib.hid hq; have HX := Lib.hid hx
      clear hq hx
      cases q with
      | true =>
        go_wp2_with (first
          | (go_at_call 42; refine HW.out.mono ?_; clear HW; rintro e w1 ⟨rfl, rfl⟩)
          | fail)
        refine ⟨⟨k + 1, hlt, by go_num, fun y hy => ?_, by first | rfl | trivial⟩, by simp [intOf]; omega⟩
        rw [take_one HX.out] at hy
        rcases List.mem_append.1 hy with hy | hy
        · exact HALL.out y hy
        · rw [List.mem_singleton.1 hy]; exact HQ.out
      | false =>
        go_wp2_with (first
          | (go_at_call 42; refine HW.out.mono ?_; clear HW; rintro e w1 ⟨rfl, rfl⟩)
          | fail)
        go_ret
        refine ⟨?_, rfl⟩
        have : b = false := by
          rw [← HB.out]
          unfold rightIdx
          rw [List.all_eq_false]
          exact ⟨_, List.mem_of_getElem? HX.out, by rw [HQ.out]; simp⟩
        rw [this]; rfl
    · have hk1 : ¬ (k : Int) < (l.length : Int) := by omega
      go_wp2_with fail
      go_ret
      refine ⟨?_, rfl⟩
      have : b = true := by
        rw [← HB.out]
        unfold rightIdx
        rw [List.all_eq_true]
        intro x hx
        refine HALL.out x ?_
        rw [List.take_of_length_le (by omega)]
        exact hx
      rw [this]; rfl
set_option maxHeartbeats 1000000 in
theorem rightTms_any (v : Value) (l : List Int) (B : Nat) (w : World) (h : Sl w B 1 v (l.map intCells)) (hl : l.length ≤ 1000000) : Calls Try.prog 27 #[v] w fun e w' => e = .returned (.bool (rightTms l)) ∧ ∃ m, w' = w.drewN m := by
  obtain ⟨A, c, rfl⟩ := h.len
  have H := Lib.hid h
  clear h
  by_cases h4 : 4000 < l.length
  · have e : rightTms l = false := by
      unfold rightTms
      have : ¬ l.length ≤ 4000 := by omega
      simp [this]
    rw [e]
    have h5 : (4000 : Int) < (l.length : Int) := by omega
    clear e
    go_enter Try.func27, Try.ntmps27
    go_wp2_with fail
    go_ret
    exact ⟨rfl, 0, rfl⟩
  · obtain ⟨b, hb⟩ : ∃ b, rightTms l = b := ⟨_, rfl⟩
    have hb2 : rises l = b := by
      rw [← hb]; unfold rightTms
      have : l.length ≤ 4000 := by omega
      simp [this]
    rw [hb]
    have HB := Lib.hid hb2
    have h5 : ¬ (4000 : Int) < (l.length : Int) := by omega
    clear hb hb2
    go_enter Try.func27, Try.ntmps27
    go_wp2_with fail
    go_loopw [3] (fun i wr => ∃ k m : Nat, 1 ≤ k ∧ (k ≤ l.length ∨ k = 1) ∧ i = .int .i64 k ∧ (∀ (j : Nat) (a c : Int), j + 1 < k → l[j]? = some a → l[j + 1]? = some c → a < c) ∧ wr = w.drewN m) (fun i _ => l.length - (intOf i).toNat)
    case atStart => exact ⟨1, 0, Nat.le_refl _, .inr rfl, rfl, fun j a c hj => absurd hj (by omega), rfl⟩
    case round =>
      obtain ⟨k, m, hk1, hk, rfl, hall, rfl⟩ := hrel
      have HALL := Lib.hid hall
      clear hall
      by_cases hlt : k < l.length
      · have hk0 : (0 : Int) ≤ (k : Int) := by omega
        have hk2 : (k : Int) < (l.length : Int) := by omega
        obtain ⟨x, hx⟩ : ∃ x, l[k]? = some x := ⟨_, List.getElem?_eq_getElem hlt⟩
        obtain ⟨j, rfl⟩ : ∃ j, k = j + 1 := ⟨k - 1, by omega⟩
        obtain ⟨y, hy⟩ : ∃ y, l[j]? = some y := ⟨_, List.getElem?_eq_getElem (by omega)⟩
        obtain ⟨g, off, c', hv, hg, c0⟩ := H.out.one hx
        obtain ⟨g2, off2, c2', hv2, hg2, c1⟩ := H.out.one hy
        injection hv with e1 _ e3
        subst e1; subst e3
        injection hv2 with e1 _ e3
        injection e1 with e1
        injection e1 with e4 e5 _
        subst e4; subst e5
        have e6 : ((j + 1 : Nat) : Int) - 1 = (j : Int) := by omega
        have hj0 : (0 : Int) ≤ (j : Int) := by omega
        have hj1 : (j : Int) < (l.length : Int) := by omega
        have HX := Lib.hid hx; have HY := Lib.hid hy
        clear hx hy e3
        by_cases hxy : x ≤ y
        · go_wp2_with fail
          go_quiet (fail)
          go_wp2_with fail
          go_ret
          refine ⟨?_, m + nq, by simp [World.drewN, Nat.add_assoc]⟩
          have : b = false := by
            rw [← HB.out]
            cases hr : rises l with
            | false => rfl
            | true =>
              have := rises_of hr j y x HY.out HX.out
              omega
          rw [this]; rfl
        · go_wp2_with fail
          go_quiet (fail)
          go_wp2_with fail
          refine ⟨⟨j + 1 + 1, _, by omega, .inl hlt, by go_num, fun i a d hi ha hd => ?_, rfl⟩, by simp [intOf]; omega⟩
          by_cases e : i = j
          · subst e
            rw [HY.out] at ha
            rw [HX.out] at hd
            injection ha with ha
            injection hd with hd
            omega
          · exact HALL.out i a d (by omega) ha hd
      · have hk2 : ¬ (k : Int) < (l.length : Int) := by omega
        go_wp2_with fail
        go_ret
        refine ⟨?_, m, rfl⟩
        have : b = true := by
          rw [← HB.out]
          exact rises_at fun j a d ha hd => HALL.out j a d (by
            have : j + 1 < l.length := by
              rcases Nat.lt_or_ge (j + 1) l.length with h | h
              · exact h
              · rw [List.getElem?_eq_none h] at hd; cases hd
            omega) ha hd
        rw [this]; rfl
end Go.Proofs.Ytohpdpcjhmopbaa.Tz

/-! Layer 6 (tzif): the program's Right, whole. -/
namespace Go.Proofs.Ytohpdpcjhmopbaa.Tz
open Go.RowKit

theorem letters_le : ∀ l : List Ty, (∀ t ∈ l, t.abbr.size ≤ 15) → letters l ≤ l.length * 16
  | [], _ => by simp [letters]
  | t :: l, h => by
    have h1 := letters_le l fun x hx => h x (List.mem_cons_of_mem _ hx)
    have h2 := h t (List.mem_cons_self ..)
    unfold letters at *
    rw [List.map_cons, List.sum_cons, List.length_cons, Nat.add_mul]
    omega
theorem right_small {t : Ty} (h : rightTy t = true) : t.abbr.size ≤ 15 := by
  unfold rightTy inI at h
  simp only [Bool.and_eq_true, decide_eq_true_eq] at h
  omega
set_option maxHeartbeats 2000000 in
theorem rightTys_any (v : Value) (l : List Ty) (B : Nat) (w : World) (h : Sl w B 3 v (l.map tyCells)) (hB : B ≤ w.heap.size) (hl : l.length ≤ 1000000) (hs : ∀ t ∈ l, t.abbr.size ≤ 9223372036854775807) : Calls Try.prog 26 #[v] w fun e w' => e = .returned (.bool (rightTys l)) ∧ Below w.heap.size w w' := by
  obtain ⟨A, c, rfl⟩ := h.len
  have H := Lib.hid h; have HS := Lib.hid hs
  clear h hs
  obtain ⟨q0, hq0⟩ : ∃ q, inI l.length 1 255 = q := ⟨_, rfl⟩
  have HW0 := Lib.hid (within_int l.length 1 255 w)
  rw [hq0] at HW0
  cases q0 with
  | false =>
    have e : rightTys l = false := by unfold rightTys; rw [hq0]; rfl
    rw [e]
    clear e hq0
    go_enter Try.func26, Try.ntmps26
    go_wp2_with (first
      | (go_at_call 42; refine HW0.out.mono ?_; clear HW0; rintro e w1 ⟨rfl, rfl⟩)
      | fail)
    go_ret
    exact ⟨rfl, Below.refl _ _⟩
  | true =>
    have hl255 : l.length ≤ 255 := by
      unfold inI at hq0
      simp only [Bool.and_eq_true, decide_eq_true_eq] at hq0
      omega
    have e : rightTys l = (l.all rightTy && decide (letters l ≤ 256)) := by unfold rightTys; rw [hq0]; rfl
    rw [e]
    obtain ⟨b, hb⟩ : ∃ b, (l.all rightTy && decide (letters l ≤ 256)) = b := ⟨_, rfl⟩
    rw [hb]
    have HB := Lib.hid hb
    clear hb e hq0
    go_enter Try.func26, Try.ntmps26
    go_wp2_with (first
      | (go_at_call 42; refine HW0.out.mono ?_; clear HW0; rintro e w1 ⟨rfl, rfl⟩)
      | fail)
    go_loopw [3, 12] (fun n i wr => ∃ k : Nat, k ≤ l.length ∧ i = .int .i64 k ∧ n = .int .i64 (letters (l.take k) : Nat) ∧ (∀ x ∈ l.take k, rightTy x = true) ∧ Below w.heap.size w wr) (fun _ i _ => l.length - (intOf i).toNat)
    case atStart => exact ⟨0, Nat.zero_le _, rfl, rfl, fun x hx => by simp at hx, Below.refl _ _⟩
    case round =>
      obtain ⟨k, hk, rfl, rfl, hall, hbl⟩ := hrel
      have hlet := letters_le (l.take k) fun t ht => right_small (hall t ht)
      have hlk : (l.take k).length ≤ 255 := by rw [List.length_take]; omega
      have hlet2 : letters (l.take k) ≤ 5000 := by omega
      have HALL := Lib.hid hall; have HBL := Lib.hid hbl
      clear hall hbl hlet hlk
      by_cases hlt : k < l.length
      · have hk0 : (0 : Int) ≤ (k : Int) := by omega
        have hk1 : (k : Int) < (l.length : Int) := by omega
        obtain ⟨x, hx⟩ : ∃ x, l[k]? = some x := ⟨_, List.getElem?_eq_getElem hlt⟩
        obtain ⟨g, off, c', hv, hg, c0, c1, c2⟩ := H.out.ty hx
        injection hv with e1 _ e3
        subst e1; subst e3
        have hxs := HS.out x (List.mem_of_getElem? hx)
        have k0 := (HBL.out.cell (p := ⟨g, off + k * 3, none⟩) (Nat.lt_of_lt_of_le hg hB)).trans c0
        have k1 := (HBL.out.cell (p := ⟨g, off + k * 3 + 1, none⟩) (Nat.lt_of_lt_of_le hg hB)).trans c1
        have k2 := (HBL.out.cell (p := ⟨g, off + k * 3 + 2, none⟩) (Nat.lt_of_lt_of_le hg hB)).trans c2
        have HX := Lib.hid hx
        clear hx c0 c1 c2
        obtain ⟨q1, hq1⟩ : ∃ q, inI x.off (-89999) 93599 = q := ⟨_, rfl⟩
        obtain ⟨q2, hq2⟩ : ∃ q, inI (x.abbr.size : Int) 1 15 = q := ⟨_, rfl⟩
        obtain ⟨q3, hq3⟩ : ∃ q, onlyB x.abbr 33 = q := ⟨_, rfl⟩
        have HW1 : Hid (∀ V, Calls Try.prog 42 #[.int .i64 x.off, .int .i64 (-89999), .int .i64 93599] V fun e w' => e = .returned (.bool q1) ∧ V = w') := Lib.hid fun V => by rw [← hq1]; exact within_int _ _ _ V
        have HW2 : Hid (∀ V, Calls Try.prog 42 #[.int .i64 x.abbr.size, .int .i64 1, .int .i64 15] V fun e w' => e = .returned (.bool q2) ∧ V = w') := Lib.hid fun V => by rw [← hq2]; exact within_int _ _ _ V
        have HW3 : Hid (∀ V, Calls Try.prog 29 #[.string x.abbr, .int .u8 33] V fun e w' => e = .returned (.bool q3) ∧ V = w') := Lib.hid fun V => by rw [← hq3]; exact hasOnly_any _ _ V hxs
        have HR : Hid (rightTy x = (q1 && q2 && q3)) := Lib.hid (by unfold rightTy; rw [hq1, hq2, hq3])
        have HBO : Hid (Below w.heap.size w (wr.alloc (.cells #[.int .i64 x.off, .bool x.dst, .string x.abbr] 54))) := Lib.hid (HBL.out.alloc HBL.out.size _)
        have hno : (q1 && q2 && q3) = false → b = false := fun hf => by
          rw [← HB.out]
          have : l.all rightTy = false := by
            rw [List.all_eq_false]
            exact ⟨x, List.mem_of_getElem? HX.out, by rw [HR.out, hf]; simp⟩
          rw [this]; rfl
        have HNO := Lib.hid hno
        clear hq1 hq2 hq3 hno
        cases q1 with
        | false =>
          go_wp2_with (first
            | (go_at_call 42; refine (HW1.out _).mono ?_; clear HW1; rintro e w1 ⟨rfl, rfl⟩)
            | fail)
          go_ret
          exact ⟨by rw [HNO.out rfl]; rfl, HBO.out⟩
        | true =>
          cases q2 with
          | false =>
            go_wp2_with (first
              | (go_at_call 42; refine (HW1.out _).mono ?_; clear HW1; rintro e w1 ⟨rfl, rfl⟩)
              | (go_at_call 42; refine (HW2.out _).mono ?_; clear HW2; rintro e w1 ⟨rfl, rfl⟩)
              | fail)
            go_ret
            exact ⟨by rw [HNO.out rfl]; rfl, HBO.out⟩
          | true =>
            cases q3 with
            | false =>
              go_wp2_with (first
                | (go_at_call 42; refine (HW1.out _).mono ?_; clear HW1; rintro e w1 ⟨rfl, rfl⟩)
                | (go_at_call 42; refine (HW2.out _).mono ?_; clear HW2; rintro e w1 ⟨rfl, rfl⟩)
                | (go_at_call 29; refine (HW3.out _).mono ?_; clear HW3; rintro e w1 ⟨rfl, rfl⟩)
                | fail)
              go_ret
              exact ⟨by rw [HNO.out rfl]; rfl, HBO.out⟩
            | true =>
              have hx15 : x.abbr.size ≤ 15 := right_small HR.out
              go_wp2_with (first
                | (go_at_call 42; refine (HW1.out _).mono ?_; clear HW1; rintro e w1 ⟨rfl, rfl⟩)
                | (go_at_call 42; refine (HW2.out _).mono ?_; clear HW2; rintro e w1 ⟨rfl, rfl⟩)
                | (go_at_call 29; refine (HW3.out _).mono ?_; clear HW3; rintro e w1 ⟨rfl, rfl⟩)
                | fail)
              refine ⟨⟨k + 1, hlt, by go_num, ?_, fun y hy => ?_, HBO.out⟩, by simp [intOf]; omega⟩
              · rw [take_one HX.out, letters_snoc]; go_num
              · rw [take_one HX.out] at hy
                rcases List.mem_append.1 hy with hy | hy
                · exact HALL.out y hy
                · rw [List.mem_singleton.1 hy]; exact HR.out
      · have hk1 : ¬ (k : Int) < (l.length : Int) := by omega
        have htk : l.take k = l := List.take_of_length_le (by omega)
        rw [htk] at HALL hlet2 ⊢
        have hbb : b = decide (letters l ≤ 256) := by
          rw [← HB.out]
          have : l.all rightTy = true := by rw [List.all_eq_true]; exact HALL.out
          rw [this]; rfl
        have HBB := Lib.hid hbb
        clear hbb
        by_cases h256 : letters l ≤ 256
        · have h256i : ((letters l : Nat) : Int) ≤ 256 := by omega
          go_wp2_with fail
          go_ret
          exact ⟨by rw [HBB.out]; simp [h256], HBL.out⟩
        · have h256i : ¬ ((letters l : Nat) : Int) ≤ 256 := by omega
          go_wp2_with fail
          go_ret
          exact ⟨by rw [HBB.out]; simp [h256], HBL.out⟩
end Go.Proofs.Ytohpdpcjhmopbaa.Tz

/-! Layer 6 (tzif): the program's Right of a zone (written by gen_right6.py). -/
namespace Go.Proofs.Ytohpdpcjhmopbaa.Tz
open Go.RowKit

/-- A zone by value, its slices in blocks below B. -/
structure ZnAt (w : World) (B : Nat) (z : Zn) (vt vs vi : Value) : Prop where
  types : Sl w B 3 vt (z.types.map tyCells)
  times : Sl w B 1 vs (z.times.map intCells)
  index : Sl w B 1 vi (z.index.map intCells)
theorem ZnAt.below {w w' : World} {B C : Nat} {z : Zn} {vt vs vi : Value} (h : ZnAt w B z vt vs vi) (hb : Below C w w') (hB : B ≤ C) : ZnAt w' B z vt vs vi := ⟨h.types.below hb hB, h.times.below hb hB, h.index.below hb hB⟩
structure ZnOk (z : Zn) : Prop where
  types : z.types.length ≤ 1000000
  times : z.times.length ≤ 1000000
  index : z.index.length ≤ 1000000
  abbr : ∀ t ∈ z.types, t.abbr.size ≤ 9223372036854775807
  footer : z.footer.size ≤ 9223372036854775807
theorem drewN_below {B : Nat} {w V : World} (h : Below B w V) : ∀ n : Nat, Below B w (V.drewN n)
  | _ => ⟨h.os, h.tape, h.output, h.size, h.block⟩
set_option maxRecDepth 100000 in
set_option maxHeartbeats 4000000 in
theorem right_any (z : Zn) (vt vs vi : Value) (B : Nat) (w : World) (h : ZnAt w B z vt vs vi) (ho : ZnOk z) (hB : B ≤ w.heap.size) : Calls Try.prog 13 #[.agg #[vt, vs, vi, .string z.footer]] w fun e w' => e = .returned (.bool (rightZ z)) ∧ Below w.heap.size w w' := by
  obtain ⟨b1, h1⟩ : ∃ b, rightTys z.types = b := ⟨_, rfl⟩
  obtain ⟨b2, h2⟩ : ∃ b, rightTms z.times = b := ⟨_, rfl⟩
  obtain ⟨b4, h4⟩ : ∃ b, rightIdx z.index z.types.length = b := ⟨_, rfl⟩
  obtain ⟨b6, h6⟩ : ∃ b, onlyB z.footer 32 = b := ⟨_, rfl⟩
  have hR : rightZ z = (b1 && b2 && decide (z.index.length = z.times.length) && b4 && decide (z.footer.size ≤ 100) && b6) := by unfold rightZ; rw [h1, h2, h4, h6]
  have HR1 : Hid (∀ V, Below w.heap.size w V → Calls Try.prog 26 #[vt] V fun e V' => e = .returned (.bool b1) ∧ Below V.heap.size V V') := Lib.hid fun V hb => by
    have := rightTys_any vt z.types B V (h.types.below hb hB) (Nat.le_trans hB hb.size) ho.types ho.abbr
    rwa [h1] at this
  have HR2 : Hid (∀ V, Below w.heap.size w V → Calls Try.prog 27 #[vs] V fun e V' => e = .returned (.bool b2) ∧ ∃ m, V' = V.drewN m) := Lib.hid fun V hb => by
    have := rightTms_any vs z.times B V (h.times.below hb hB) ho.times
    rwa [h2] at this
  have HR4 : Hid (∀ V, Below w.heap.size w V → Calls Try.prog 28 #[vi, .int .i64 z.types.length] V fun e V' => e = .returned (.bool b4) ∧ V = V') := Lib.hid fun V hb => by
    have := rightIdx_any vi z.index z.types.length B V (h.index.below hb hB) ho.index ⟨by omega, by have := ho.types; omega⟩
    rwa [h4] at this
  have HR6 : Hid (∀ V, Calls Try.prog 29 #[.string z.footer, .int .u8 32] V fun e V' => e = .returned (.bool b6) ∧ V = V') := Lib.hid fun V => by
    have := hasOnly_any z.footer 32 V ho.footer
    rwa [h6] at this
  obtain ⟨At, ct, rfl⟩ := h.types.len
  obtain ⟨As, cs, rfl⟩ := h.times.len
  obtain ⟨Ai, ci, rfl⟩ := h.index.len
  rw [hR]
  clear hR h1 h2 h4 h6 h ho hB
  have z0 := World.cell?_alloc_mark w #[.slice At z.types.length ct, .slice As z.times.length cs, .slice Ai z.index.length ci, .string z.footer] 26 (0, 0) 0
  have z1 := World.cell?_alloc_mark w #[.slice At z.types.length ct, .slice As z.times.length cs, .slice Ai z.index.length ci, .string z.footer] 26 (0, 0) 1
  have z2 := World.cell?_alloc_mark w #[.slice At z.types.length ct, .slice As z.times.length cs, .slice Ai z.index.length ci, .string z.footer] 26 (0, 0) 2
  have z3 := World.cell?_alloc_mark w #[.slice At z.types.length ct, .slice As z.times.length cs, .slice Ai z.index.length ci, .string z.footer] 26 (0, 0) 3
  have HB0 : Hid (Below w.heap.size w (w.alloc (.cells #[.slice At z.types.length ct, .slice As z.times.length cs, .slice Ai z.index.length ci, .string z.footer] 26))) := Lib.hid ((Below.refl _ _).alloc (Nat.le_refl _) _)
  have HLT : Hid (w.heap.size < (w.alloc (.cells #[.slice At z.types.length ct, .slice As z.times.length cs, .slice Ai z.index.length ci, .string z.footer] 26)).heap.size) := Lib.hid (by simp)
  simp only [List.getElem?_toArray, List.getElem?_cons_zero, List.getElem?_cons_succ] at z0 z1 z2 z3
  cases b1 with
  | false =>
    rw [show (false && b2 && decide (z.index.length = z.times.length) && b4 && decide (z.footer.size ≤ 100) && b6) = false from by simp]
    go_enter Try.func13, Try.ntmps13
    go_wp2_with (first
      | (go_at_call 26; refine (HR1.out _ HB0.out).mono ?_; clear HR1; rintro e V1 ⟨rfl, hb1⟩; have HB1 := Lib.hid (HB0.out.trans (hb1.mono HB0.out.size)); have k0 := (hb1.cell (p := ⟨w.heap.size, 0, none⟩) HLT.out).trans z0; have k1 := (hb1.cell (p := ⟨w.heap.size, 1, none⟩) HLT.out).trans z1; have k2 := (hb1.cell (p := ⟨w.heap.size, 2, none⟩) HLT.out).trans z2; have k3 := (hb1.cell (p := ⟨w.heap.size, 3, none⟩) HLT.out).trans z3; clear hb1)
      | fail)
    go_ret
    exact ⟨rfl, HB1.out⟩
  | true =>
    cases b2 with
    | false =>
      rw [show (true && false && decide (z.index.length = z.times.length) && b4 && decide (z.footer.size ≤ 100) && b6) = false from by simp]
      go_enter Try.func13, Try.ntmps13
      go_wp2_with (first
        | (go_at_call 26; refine (HR1.out _ HB0.out).mono ?_; clear HR1; rintro e V1 ⟨rfl, hb1⟩; have HB1 := Lib.hid (HB0.out.trans (hb1.mono HB0.out.size)); have k0 := (hb1.cell (p := ⟨w.heap.size, 0, none⟩) HLT.out).trans z0; have k1 := (hb1.cell (p := ⟨w.heap.size, 1, none⟩) HLT.out).trans z1; have k2 := (hb1.cell (p := ⟨w.heap.size, 2, none⟩) HLT.out).trans z2; have k3 := (hb1.cell (p := ⟨w.heap.size, 3, none⟩) HLT.out).trans z3; clear hb1)
        | (go_at_call 27; refine (HR2.out _ HB1.out).mono ?_; clear HR2; rintro e V2 ⟨rfl, m, rfl⟩; have HB2 := Lib.hid (drewN_below HB1.out m))
        | fail)
      go_ret
      exact ⟨rfl, HB2.out⟩
    | true =>
      by_cases he : z.index.length = z.times.length
      · have hei : (z.index.length : Int) = (z.times.length : Int) := by rw [he]
        have hej : decide ((z.index.length : Int) = (z.times.length : Int)) = true := by simp [he]
        cases b4 with
        | false =>
          rw [show (true && true && decide (z.index.length = z.times.length) && false && decide (z.footer.size ≤ 100) && b6) = false from by simp]
          clear he
          go_enter Try.func13, Try.ntmps13
          go_wp2_with (first
            | (go_at_call 26; refine (HR1.out _ HB0.out).mono ?_; clear HR1; rintro e V1 ⟨rfl, hb1⟩; have HB1 := Lib.hid (HB0.out.trans (hb1.mono HB0.out.size)); have k0 := (hb1.cell (p := ⟨w.heap.size, 0, none⟩) HLT.out).trans z0; have k1 := (hb1.cell (p := ⟨w.heap.size, 1, none⟩) HLT.out).trans z1; have k2 := (hb1.cell (p := ⟨w.heap.size, 2, none⟩) HLT.out).trans z2; have k3 := (hb1.cell (p := ⟨w.heap.size, 3, none⟩) HLT.out).trans z3; clear hb1)
            | (go_at_call 27; refine (HR2.out _ HB1.out).mono ?_; clear HR2; rintro e V2 ⟨rfl, m, rfl⟩; have HB2 := Lib.hid (drewN_below HB1.out m))
            | (go_at_call 28; refine (HR4.out _ HB2.out).mono ?_; clear HR4; rintro e V4 ⟨rfl, rfl⟩)
            | fail)
          go_ret
          exact ⟨rfl, HB2.out⟩
        | true =>
          by_cases h100 : z.footer.size ≤ 100
          · have hfi : (z.footer.size : Int) ≤ 100 := by omega
            rw [show (true && true && decide (z.index.length = z.times.length) && true && decide (z.footer.size ≤ 100) && b6) = b6 from by simp [he, h100]]
            clear he
            cases b6 with
            | false =>
              go_enter Try.func13, Try.ntmps13
              go_wp2_with (first
                | (go_at_call 26; refine (HR1.out _ HB0.out).mono ?_; clear HR1; rintro e V1 ⟨rfl, hb1⟩; have HB1 := Lib.hid (HB0.out.trans (hb1.mono HB0.out.size)); have k0 := (hb1.cell (p := ⟨w.heap.size, 0, none⟩) HLT.out).trans z0; have k1 := (hb1.cell (p := ⟨w.heap.size, 1, none⟩) HLT.out).trans z1; have k2 := (hb1.cell (p := ⟨w.heap.size, 2, none⟩) HLT.out).trans z2; have k3 := (hb1.cell (p := ⟨w.heap.size, 3, none⟩) HLT.out).trans z3; clear hb1)
                | (go_at_call 27; refine (HR2.out _ HB1.out).mono ?_; clear HR2; rintro e V2 ⟨rfl, m, rfl⟩; have HB2 := Lib.hid (drewN_below HB1.out m))
                | (go_at_call 28; refine (HR4.out _ HB2.out).mono ?_; clear HR4; rintro e V4 ⟨rfl, rfl⟩)
                | (go_at_call 29; refine (HR6.out _).mono ?_; clear HR6; rintro e V6 ⟨rfl, rfl⟩)
                | fail)
              go_ret
              exact ⟨rfl, HB2.out⟩
            | true =>
              go_enter Try.func13, Try.ntmps13
              go_wp2_with (first
                | (go_at_call 26; refine (HR1.out _ HB0.out).mono ?_; clear HR1; rintro e V1 ⟨rfl, hb1⟩; have HB1 := Lib.hid (HB0.out.trans (hb1.mono HB0.out.size)); have k0 := (hb1.cell (p := ⟨w.heap.size, 0, none⟩) HLT.out).trans z0; have k1 := (hb1.cell (p := ⟨w.heap.size, 1, none⟩) HLT.out).trans z1; have k2 := (hb1.cell (p := ⟨w.heap.size, 2, none⟩) HLT.out).trans z2; have k3 := (hb1.cell (p := ⟨w.heap.size, 3, none⟩) HLT.out).trans z3; clear hb1)
                | (go_at_call 27; refine (HR2.out _ HB1.out).mono ?_; clear HR2; rintro e V2 ⟨rfl, m, rfl⟩; have HB2 := Lib.hid (drewN_below HB1.out m))
                | (go_at_call 28; refine (HR4.out _ HB2.out).mono ?_; clear HR4; rintro e V4 ⟨rfl, rfl⟩)
                | (go_at_call 29; refine (HR6.out _).mono ?_; clear HR6; rintro e V6 ⟨rfl, rfl⟩)
                | fail)
              go_ret
              exact ⟨rfl, HB2.out⟩
          · have hfi : ¬ (z.footer.size : Int) ≤ 100 := by omega
            rw [show (true && true && decide (z.index.length = z.times.length) && true && decide (z.footer.size ≤ 100) && b6) = false from by simp [h100]]
            clear he
            go_enter Try.func13, Try.ntmps13
            go_wp2_with (first
              | (go_at_call 26; refine (HR1.out _ HB0.out).mono ?_; clear HR1; rintro e V1 ⟨rfl, hb1⟩; have HB1 := Lib.hid (HB0.out.trans (hb1.mono HB0.out.size)); have k0 := (hb1.cell (p := ⟨w.heap.size, 0, none⟩) HLT.out).trans z0; have k1 := (hb1.cell (p := ⟨w.heap.size, 1, none⟩) HLT.out).trans z1; have k2 := (hb1.cell (p := ⟨w.heap.size, 2, none⟩) HLT.out).trans z2; have k3 := (hb1.cell (p := ⟨w.heap.size, 3, none⟩) HLT.out).trans z3; clear hb1)
              | (go_at_call 27; refine (HR2.out _ HB1.out).mono ?_; clear HR2; rintro e V2 ⟨rfl, m, rfl⟩; have HB2 := Lib.hid (drewN_below HB1.out m))
              | (go_at_call 28; refine (HR4.out _ HB2.out).mono ?_; clear HR4; rintro e V4 ⟨rfl, rfl⟩)
              | fail)
            go_ret
            exact ⟨rfl, HB2.out⟩
      · have hei : ¬ (z.index.length : Int) = (z.times.length : Int) := by omega
        have hej : decide ((z.index.length : Int) = (z.times.length : Int)) = false := decide_eq_false hei
        rw [show (true && true && decide (z.index.length = z.times.length) && b4 && decide (z.footer.size ≤ 100) && b6) = false from by simp [he]]
        go_enter Try.func13, Try.ntmps13
        go_wp2_with (first
          | (go_at_call 26; refine (HR1.out _ HB0.out).mono ?_; clear HR1; rintro e V1 ⟨rfl, hb1⟩; have HB1 := Lib.hid (HB0.out.trans (hb1.mono HB0.out.size)); have k0 := (hb1.cell (p := ⟨w.heap.size, 0, none⟩) HLT.out).trans z0; have k1 := (hb1.cell (p := ⟨w.heap.size, 1, none⟩) HLT.out).trans z1; have k2 := (hb1.cell (p := ⟨w.heap.size, 2, none⟩) HLT.out).trans z2; have k3 := (hb1.cell (p := ⟨w.heap.size, 3, none⟩) HLT.out).trans z3; clear hb1)
          | (go_at_call 27; refine (HR2.out _ HB1.out).mono ?_; clear HR2; rintro e V2 ⟨rfl, m, rfl⟩; have HB2 := Lib.hid (drewN_below HB1.out m))
          | fail)
        go_ret
        exact ⟨rfl, HB2.out⟩
end Go.Proofs.Ytohpdpcjhmopbaa.Tz

/-! Layer 6 (tzif): which type holds: the search over times. -/
namespace Go.Proofs.Ytohpdpcjhmopbaa.Tz
open Go.RowKit

set_option maxHeartbeats 1000000 in
theorem at1_any (l : List Int) (A : Option Addr) (c G S B k : Nat) (x sec : Int) (w : World) (h : Sl w B 1 (.slice A l.length c) (l.map intCells)) (hx : l[k]? = some x) (z1 : w.cell? ⟨G, 1, none⟩ = some (.slice A l.length c)) (z0 : w.cell? ⟨S, 0, none⟩ = some (.int .i64 sec)) :
    Calls Try.prog 33 #[.int .i64 k, .pointer (some ⟨G, 0, none⟩), .pointer (some ⟨S, 0, none⟩)] w fun e w' => e = .returned (.bool (decide (sec < x))) ∧ ∃ m, w' = w.drewN m := by
  obtain ⟨g, off, c', hv, hg, c0⟩ := h.one hx
  injection hv with e1 _ e3
  subst e1; subst e3
  have hlt : k < l.length := by
    rcases Nat.lt_or_ge k l.length with a | a
    · exact a
    · rw [List.getElem?_eq_none a] at hx; cases hx
  have hk0 : (0 : Int) ≤ (k : Int) := by omega
  have hk1 : (k : Int) < (l.length : Int) := by omega
  clear hx h hg
  go_enter Try.func33, Try.ntmps33
  go_wp2_with fail
  go_quiet (fail)
  go_wp2_with fail
  go_ret
  exact ⟨rfl, _, rfl⟩
theorem rises_le {l : List Int} (h : rises l = true) : ∀ (d j : Nat) (a b : Int), l[j]? = some a → l[j + d]? = some b → a ≤ b
  | 0, j, a, b, ha, hb => by
    rw [Nat.add_zero, ha] at hb
    injection hb with hb
    omega
  | d + 1, j, a, b, ha, hb => by
    have hl : j + d < l.length := by
      rcases Nat.lt_or_ge (j + d) l.length with h1 | h1
      · exact h1
      · rw [List.getElem?_eq_none (by omega)] at hb; cases hb
    have h1 := rises_le h d j a _ ha (List.getElem?_eq_getElem hl)
    have h2 := rises_of h (j + d) _ b (List.getElem?_eq_getElem hl) hb
    omega
set_option maxHeartbeats 1000000 in
theorem search_any (l : List Int) (A : Option Addr) (c G S B : Nat) (sec : Int) (w : World) (h : Sl w B 1 (.slice A l.length c) (l.map intCells)) (hl : l.length ≤ 1000000) (hr : rises l = true) (z1 : w.cell? ⟨G, 1, none⟩ = some (.slice A l.length c)) (z0 : w.cell? ⟨S, 0, none⟩ = some (.int .i64 sec)) :
    Calls Try.prog 32 #[.int .i64 l.length, .func (.func 33) #[] #[.pointer (some ⟨G, 0, none⟩), .pointer (some ⟨S, 0, none⟩)]] w fun e w' => (∃ k : Nat, e = .returned (.int .i64 k) ∧ k ≤ l.length ∧ (∀ t x, t < k → l[t]? = some x → x ≤ sec) ∧ ∀ t x, k ≤ t → l[t]? = some x → sec < x) ∧ ∃ m, w' = w.drewN m := by
  have H := Lib.hid h; have HR := Lib.hid hr
  have Z1 := Lib.hid z1; have Z0 := Lib.hid z0
  clear h hr z1 z0
  go_enter Try.func32, Try.ntmps32
  go_wp2_with fail
  go_loopw [5, 6] (fun a b wr => ∃ i j m : Nat, i ≤ j ∧ j ≤ l.length ∧ a = .int .i64 i ∧ b = .int .i64 j ∧ (∀ t x, t < i → l[t]? = some x → x ≤ sec) ∧ (∀ t x, j ≤ t → l[t]? = some x → sec < x) ∧ wr = w.drewN m) (fun a b _ => (intOf b).toNat - (intOf a).toNat)
  case atStart => exact ⟨0, l.length, 0, Nat.zero_le _, Nat.le_refl _, rfl, rfl, fun t x ht => absurd ht (by omega), fun t x ht hx => (by rw [List.getElem?_eq_none ht] at hx; cases hx), rfl⟩
  case round =>
    obtain ⟨i, j, m, hij, hj, rfl, rfl, hlo, hhi, rfl⟩ := hrel
    have HLO := Lib.hid hlo; have HHI := Lib.hid hhi
    clear hlo hhi
    by_cases hlt : i < j
    · have hi1 : (i : Int) < (j : Int) := by omega
      have hi0 : (0 : Int) ≤ (i : Int) := by omega
      have hj0 : (j : Int) ≤ 1000000 := by omega
      obtain ⟨q, hq⟩ : ∃ q : Nat, ((i : Int) + (j : Int)) / 2 = (q : Int) := ⟨(i + j) / 2, by omega⟩
      have hq1 : i ≤ q := by omega
      have hq2 : q < j := by omega
      obtain ⟨x, hx⟩ : ∃ x, l[q]? = some x := ⟨_, List.getElem?_eq_getElem (by omega)⟩
      have HC : Hid (Calls Try.prog 33 #[.int .i64 q, .pointer (some ⟨G, 0, none⟩), .pointer (some ⟨S, 0, none⟩)] (w.drewN m) fun e w' => e = .returned (.bool (decide (sec < x))) ∧ ∃ m2, w' = (w.drewN m).drewN m2) := Lib.hid (at1_any l A c G S B q x sec (w.drewN m) (H.out.below (drewN_below (Below.refl B w) m) (Nat.le_refl _)) hx Z1.out Z0.out)
      have HX := Lib.hid hx
      clear hx
      by_cases hs : sec < x
      · rw [show decide (sec < x) = true from decide_eq_true hs] at HC
        go_wp2_with (first
          | (go_at_call 33; refine HC.out.mono ?_; clear HC; rintro e w1 ⟨rfl, m2, rfl⟩)
          | fail)
        refine ⟨⟨i, q, m + m2, hq1, by omega, rfl, rfl, HLO.out, fun t y ht hy => ?_, by simp [World.drewN]⟩, by simp [intOf]; omega⟩
        have := rises_le HR.out (t - q) q x y HX.out (by rw [show q + (t - q) = t by omega]; exact hy)
        omega
      · rw [show decide (sec < x) = false from decide_eq_false hs] at HC
        go_wp2_with (first
          | (go_at_call 33; refine HC.out.mono ?_; clear HC; rintro e w1 ⟨rfl, m2, rfl⟩)
          | fail)
        refine ⟨⟨q + 1, j, m + m2, by omega, hj, by go_num, rfl, fun t y ht hy => ?_, HHI.out, by simp [World.drewN]⟩, by simp [intOf]; omega⟩
        have := rises_le HR.out (q - t) t y x hy (by rw [show t + (q - t) = q by omega]; exact HX.out)
        omega
    · have hi1 : ¬ (i : Int) < (j : Int) := by omega
      obtain rfl : i = j := by omega
      go_wp2_with fail
      go_ret
      exact ⟨⟨i, rfl, hj, HLO.out, HHI.out⟩, m, rfl⟩
end Go.Proofs.Ytohpdpcjhmopbaa.Tz

/-! Layer 6 (tzif): the program's At. -/
namespace Go.Proofs.Ytohpdpcjhmopbaa.Tz
open Go.RowKit

/-! ### Plainly -/
/-- The first type that is not summer's; -1: there is none. -/
def firstStd : List Ty → Int
  | [] => -1
  | t :: l => if t.dst = false then 0 else if firstStd l < 0 then -1 else firstStd l + 1
/-- How many times have begun. -/
def begun (l : List Int) (sec : Int) : Nat := (l.takeWhile fun x => decide (x ≤ sec)).length
def atZ (z : Zn) (sec : Int) : Int := if rightZ z = true then (if 0 < begun z.times sec then (z.index[begun z.times sec - 1]?).getD 0 else max (firstStd z.types) 0) else 0
theorem begun_is {sec : Int} : ∀ {l : List Int} {k : Nat}, k ≤ l.length → (∀ t x, t < k → l[t]? = some x → x ≤ sec) → (∀ t x, k ≤ t → l[t]? = some x → sec < x) → begun l sec = k
  | [], k, hk, _, _ => by simp at hk; subst hk; rfl
  | a :: l, 0, _, _, h => by
    have h1 := h 0 a (Nat.zero_le _) rfl
    unfold begun
    rw [List.takeWhile_cons, if_neg (by simp; omega)]; rfl
  | a :: l, k + 1, hk, h1, h2 => by
    have h3 := h1 0 a (by omega) rfl
    have ih := begun_is (l := l) (k := k) (by simpa using hk) (fun t x ht hx => h1 (t + 1) x (by omega) (by simpa using hx)) (fun t x ht hx => h2 (t + 1) x (by omega) (by simpa using hx))
    unfold begun at *
    rw [List.takeWhile_cons, if_pos (by simpa using h3), List.length_cons, ih]
theorem firstStd_is : ∀ {l : List Ty} {k : Nat} {t : Ty}, (∀ j x, j < k → l[j]? = some x → x.dst = true) → l[k]? = some t → t.dst = false → firstStd l = k
  | [], _, _, _, h, _ => by simp at h
  | a :: l, 0, t, _, h, hd => by
    simp at h; subst h
    unfold firstStd; rw [if_pos hd]; rfl
  | a :: l, k + 1, t, hb, h, hd => by
    have ha := hb 0 a (by omega) rfl
    have ih := firstStd_is (l := l) (k := k) (fun j x hj hx => hb (j + 1) x (by omega) (by simpa using hx)) (by simpa using h) hd
    unfold firstStd
    rw [if_neg (by rw [ha]; simp), ih, if_neg (by omega)]
    omega
theorem firstStd_no : ∀ {l : List Ty}, (∀ x ∈ l, x.dst = true) → firstStd l = -1
  | [], _ => rfl
  | a :: l, h => by
    have ih := firstStd_no (l := l) fun x hx => h x (List.mem_cons_of_mem _ hx)
    unfold firstStd
    rw [if_neg (by rw [h a (List.mem_cons_self ..)]; simp), ih, if_pos (by omega)]

/-! ### In memory -/
theorem at2_any (t : Ty) (w : World) : Calls Try.prog 35 #[.agg #[.int .i64 t.off, .bool t.dst, .string t.abbr]] w fun e w' => e = .returned (.bool (!t.dst)) ∧ Below w.heap.size w w' := by
  obtain ⟨off, dst, abbr⟩ := t
  dsimp only
  go_enter Try.func35, Try.ntmps35
  go_wp2_with fail
  go_ret
  exact ⟨rfl, (Below.refl _ _).alloc (Nat.le_refl _) _⟩
set_option maxHeartbeats 1000000 in
theorem index_any (v : Value) (l : List Ty) (B : Nat) (w : World) (h : Sl w B 3 v (l.map tyCells)) (hB : B ≤ w.heap.size) (hl : l.length ≤ 1000000) : Calls Try.prog 34 #[v, .func (.func 35) #[] #[]] w fun e w' => e = .returned (.int .i64 (firstStd l)) ∧ Below w.heap.size w w' := by
  obtain ⟨A, c, rfl⟩ := h.len
  have H := Lib.hid h
  obtain ⟨r, hr⟩ : ∃ r, firstStd l = r := ⟨_, rfl⟩
  rw [hr]
  have HR := Lib.hid hr
  clear h hr
  go_enter Try.func34, Try.ntmps34
  go_wp2_with fail
  go_loopw [8] (fun i wr => ∃ k : Nat, k ≤ l.length ∧ i = .int .i64 k ∧ (∀ j x, j < k → l[j]? = some x → x.dst = true) ∧ Below w.heap.size w wr) (fun i _ => l.length - (intOf i).toNat)
  case atStart => exact ⟨0, Nat.zero_le _, rfl, fun j x hj => absurd hj (by omega), Below.refl _ _⟩
  case round =>
    obtain ⟨k, hk, rfl, hall, hbl⟩ := hrel
    have HALL := Lib.hid hall; have HBL := Lib.hid hbl
    clear hall hbl
    by_cases hlt : k < l.length
    · have hk0 : (0 : Int) ≤ (k : Int) := by omega
      have hk1 : (k : Int) < (l.length : Int) := by omega
      obtain ⟨x, hx⟩ : ∃ x, l[k]? = some x := ⟨_, List.getElem?_eq_getElem hlt⟩
      obtain ⟨g, off, c', hv, hg, c0, c1, c2⟩ := H.out.ty hx
      injection hv with e1 _ e3
      subst e1; subst e3
      have k0 := (HBL.out.cell (p := ⟨g, off + k * 3, none⟩) (Nat.lt_of_lt_of_le hg hB)).trans c0
      have k1 := (HBL.out.cell (p := ⟨g, off + k * 3 + 1, none⟩) (Nat.lt_of_lt_of_le hg hB)).trans c1
      have k2 := (HBL.out.cell (p := ⟨g, off + k * 3 + 2, none⟩) (Nat.lt_of_lt_of_le hg hB)).trans c2
      have HA := Lib.hid (at2_any x wr)
      have HX := Lib.hid hx
      clear hx c0 c1 c2
      obtain ⟨d, hd⟩ : ∃ d, x.dst = d := ⟨_, rfl⟩
      rw [hd] at HA k1
      have HD := Lib.hid hd
      clear hd
      cases d with
      | true =>
        go_wp2_with (first
          | (go_at_call 35; refine HA.out.mono ?_; clear HA; rintro e w1 ⟨rfl, hb⟩; have HB1 := Lib.hid hb; clear hb)
          | fail)
        refine ⟨⟨k + 1, hlt, by go_num, fun j y hj hy => ?_, HBL.out.trans (HB1.out.mono HBL.out.size)⟩, by simp [intOf]; omega⟩
        by_cases e : j = k
        · subst e
          rw [HX.out] at hy
          injection hy with hy
          rw [← hy]; exact HD.out
        · exact HALL.out j y (by omega) hy
      | false =>
        go_wp2_with (first
          | (go_at_call 35; refine HA.out.mono ?_; clear HA; rintro e w1 ⟨rfl, hb⟩; have HB1 := Lib.hid hb; clear hb)
          | fail)
        go_ret
        have : r = k := by rw [← HR.out]; exact firstStd_is HALL.out HX.out HD.out
        exact ⟨by rw [this]; rfl, HBL.out.trans (HB1.out.mono HBL.out.size)⟩
    · have hk1 : ¬ (k : Int) < (l.length : Int) := by omega
      go_wp2_with fail
      go_ret
      have : r = -1 := by
        rw [← HR.out]
        refine firstStd_no fun x hx => ?_
        obtain ⟨j, hj⟩ := List.mem_iff_getElem?.1 hx
        refine HALL.out j x ?_ hj
        have : j < l.length := by
          rcases Nat.lt_or_ge j l.length with h | h
          · exact h
          · rw [List.getElem?_eq_none h] at hj; cases hj
        omega
      exact ⟨by rw [this]; rfl, HBL.out⟩
end Go.Proofs.Ytohpdpcjhmopbaa.Tz

/-! Layer 6 (tzif): the program's At, whole. -/
namespace Go.Proofs.Ytohpdpcjhmopbaa.Tz
open Go.RowKit

theorem right_parts {z : Zn} (h : rightZ z = true) : rises z.times = true ∧ z.index.length = z.times.length := by
  unfold rightZ rightTms at h
  simp only [Bool.and_eq_true, decide_eq_true_eq] at h
  exact ⟨h.1.1.1.1.2.2, h.1.1.1.2⟩
set_option maxRecDepth 100000 in
set_option maxHeartbeats 4000000 in
theorem at_any (z : Zn) (vt vs vi : Value) (B : Nat) (sec : Int) (w : World) (h : ZnAt w B z vt vs vi) (ho : ZnOk z) (hB : B ≤ w.heap.size) : Calls Try.prog 15 #[.agg #[vt, vs, vi, .string z.footer], .int .i64 sec] w fun e w' => e = .returned (.int .i64 (atZ z sec)) ∧ Below w.heap.size w w' := by
  have H := Lib.hid h
  obtain ⟨At, ct, rfl⟩ := h.types.len
  obtain ⟨As, cs, rfl⟩ := h.times.len
  obtain ⟨Ai, ci, rfl⟩ := h.index.len
  clear h
  obtain ⟨w2, hw2⟩ : ∃ w2, (w.alloc (.cells #[.slice At z.types.length ct, .slice As z.times.length cs, .slice Ai z.index.length ci, .string z.footer] 26)).alloc (.cells #[.int .i64 sec] 2) = w2 := ⟨_, rfl⟩
  have hb2 : Below w.heap.size w w2 := by rw [← hw2]; exact ((Below.refl _ _).alloc (Nat.le_refl _) _).alloc (by simp) _
  have hsz : w2.heap.size = w.heap.size + 1 + 1 := by rw [← hw2]; simp
  have hz : ∀ i, w2.cell? ⟨w.heap.size, i, none⟩ = (#[.slice At z.types.length ct, .slice As z.times.length cs, .slice Ai z.index.length ci, .string z.footer] : Array Value)[i]? := fun i => by
    rw [← hw2]
    have h1 : Below (w.alloc (.cells #[.slice At z.types.length ct, .slice As z.times.length cs, .slice Ai z.index.length ci, .string z.footer] 26)).heap.size (w.alloc (.cells #[.slice At z.types.length ct, .slice As z.times.length cs, .slice Ai z.index.length ci, .string z.footer] 26)) ((w.alloc (.cells #[.slice At z.types.length ct, .slice As z.times.length cs, .slice Ai z.index.length ci, .string z.footer] 26)).alloc (.cells #[.int .i64 sec] 2)) := (Below.refl _ _).alloc (Nat.le_refl _) _
    exact (h1.cell (p := ⟨w.heap.size, i, none⟩) (by simp)).trans (World.cell?_alloc_mark w _ _ (0, 0) i)
  have hs : w2.cell? ⟨w.heap.size + 1, 0, none⟩ = some (.int .i64 sec) := by
    rw [← hw2]
    simp
  have z0 := hz 0; have z1 := hz 1; have z2 := hz 2; have z3 := hz 3
  simp only [List.getElem?_toArray, List.getElem?_cons_zero, List.getElem?_cons_succ] at z0 z1 z2 z3
  have HB2 := Lib.hid hb2
  have hG : w.heap.size < w2.heap.size := by omega
  have hS : w.heap.size + 1 < w2.heap.size := by omega
  have HG := Lib.hid hG; have HS := Lib.hid hS
  obtain ⟨r, hr⟩ : ∃ r, rightZ z = r := ⟨_, rfl⟩
  have HRT : Hid (Calls Try.prog 13 #[.agg #[.slice At z.types.length ct, .slice As z.times.length cs, .slice Ai z.index.length ci, .string z.footer]] w2 fun e V => e = .returned (.bool r) ∧ Below w2.heap.size w2 V) := by
    have := right_any z _ _ _ B w2 (H.out.below hb2 hB) ho (Nat.le_trans hB hb2.size)
    rw [hr] at this
    exact Lib.hid this
  have hsz1 : (w.alloc (.cells #[.slice At z.types.length ct, .slice As z.times.length cs, .slice Ai z.index.length ci, .string z.footer] 26)).heap.size = w.heap.size + 1 := by simp
  obtain ⟨G, hGe⟩ : ∃ G, w.heap.size = G := ⟨_, rfl⟩
  rw [hGe] at z0 z1 z2 z3 hs hsz1 HG HS
  cases r with
  | false =>
    have e : atZ z sec = 0 := by unfold atZ; rw [hr, if_neg (by simp)]
    rw [e]
    clear e hr hz hb2 hG hS hsz hsz1
    go_enter Try.func15, Try.ntmps15
    go_wp2_with (first
      | (go_at_call 13; refine HRT.out.mono ?_; clear HRT; rintro e V ⟨rfl, hb⟩; have HV := Lib.hid (HB2.out.trans (hb.mono HB2.out.size)); clear hb)
      | fail)
    go_ret
    exact ⟨rfl, HV.out⟩
  | true =>
    obtain ⟨hri, hle⟩ := right_parts hr
    obtain ⟨k, hk⟩ : ∃ k, begun z.times sec = k := ⟨_, rfl⟩
    have HK := Lib.hid hk
    have HSE : Hid (∀ V, Below w2.heap.size w2 V → V.cell? ⟨G, 1, none⟩ = some (.slice As z.times.length cs) → V.cell? ⟨G + 1, 0, none⟩ = some (.int .i64 sec) → Calls Try.prog 32 #[.int .i64 z.times.length, .func (.func 33) #[] #[.pointer (some ⟨G, 0, none⟩), .pointer (some ⟨G + 1, 0, none⟩)]] V fun e V' => (e = .returned (.int .i64 k) ∧ k ≤ z.times.length) ∧ ∃ m, V' = V.drewN m) := Lib.hid fun V hb y1 y0 => by
      refine (search_any z.times As cs G (G + 1) B sec V ((H.out.below HB2.out hB).times.below hb (Nat.le_trans hB HB2.out.size)) ho.times hri y1 y0).mono ?_
      rintro e V' ⟨⟨k', he, hkl, h1, h2⟩, hm⟩
      have e1 : k' = k := by rw [← HK.out]; exact (begun_is hkl h1 h2).symm
      subst e1
      exact ⟨⟨he, hkl⟩, hm⟩
    have HIF : Hid (∀ V, Below w2.heap.size w2 V → Calls Try.prog 34 #[.slice At z.types.length ct, .func (.func 35) #[] #[]] V fun e V' => e = .returned (.int .i64 (firstStd z.types)) ∧ Below V.heap.size V V') := Lib.hid fun V hb => index_any _ z.types B V ((H.out.below HB2.out hB).types.below hb (Nat.le_trans hB HB2.out.size)) (Nat.le_trans (Nat.le_trans hB HB2.out.size) hb.size) ho.types
    by_cases h0 : 0 < k
    · obtain ⟨j, rfl⟩ : ∃ j, k = j + 1 := ⟨k - 1, by omega⟩
      have hkl : j + 1 ≤ z.times.length := by
        rw [← hk]
        unfold begun
        exact (List.takeWhile_sublist _).length_le
      obtain ⟨x, hx⟩ : ∃ x, z.index[j]? = some x := ⟨_, List.getElem?_eq_getElem (by omega)⟩
      have e : atZ z sec = x := by
        unfold atZ
        rw [hr, if_pos rfl, hk, if_pos (by omega), Nat.add_sub_cancel, hx]; rfl
      rw [e]
      obtain ⟨g, off, c', hv, hg, c0⟩ := (H.out.below HB2.out hB).index.one hx
      injection hv with e1 _ e3
      subst e1; subst e3
      have hlen := ho.index
      have hj0 : (0 : Int) ≤ (j : Int) := by omega
      have hj1 : (j : Int) < (z.index.length : Int) := by omega
      have hj2 : ((j + 1 : Nat) : Int) - 1 = (j : Int) := by omega
      have hj3 : (0 : Int) < ((j + 1 : Nat) : Int) := by omega
      have hg2 : g < w2.heap.size := Nat.lt_of_lt_of_le hg (Nat.le_trans hB HB2.out.size)
      have HG2 := Lib.hid hg2
      clear e hr hz hb2 hG hS hsz hsz1 hk hri hle h0 hx hkl hg hg2
      go_enter Try.func15, Try.ntmps15
      go_wp2_with (first
        | (go_at_call 13; refine HRT.out.mono ?_; clear HRT; rintro e V ⟨rfl, hb⟩; have HV := Lib.hid hb; have y0 := (hb.cell (p := ⟨G, 0, none⟩) HG.out).trans z0; have y1 := (hb.cell (p := ⟨G, 1, none⟩) HG.out).trans z1; have y2 := (hb.cell (p := ⟨G, 2, none⟩) HG.out).trans z2; have ys := (hb.cell (p := ⟨G + 1, 0, none⟩) HS.out).trans hs; have yx := (hb.cell (p := ⟨g, off + j, none⟩) HG2.out).trans c0; clear hb)
        | (go_at_call 32; refine (HSE.out _ HV.out y1 ys).mono ?_; clear HSE; rintro e V2 ⟨⟨rfl, _⟩, m, rfl⟩)
        | fail)
      go_ret
      have HV3 := HB2.out.trans ((drewN_below HV.out m).mono HB2.out.size)
      exact ⟨rfl, by first | exact HV3 | (rw [← hGe]; exact HV3)⟩
    · obtain rfl : k = 0 := by omega
      obtain ⟨F, hF⟩ : ∃ F, firstStd z.types = F := ⟨_, rfl⟩
      have e : atZ z sec = max F 0 := by unfold atZ; rw [hr, if_pos rfl, hk, if_neg (by omega), hF]
      rw [e]
      rw [hF] at HIF
      clear e hr hz hb2 hG hS hsz hsz1 hk hri hle hF h0
      rcases Int.lt_trichotomy F 0 with hf | rfl | hf
      · have e0 : max F 0 = 0 := by omega
        rw [e0]
        clear e0
        have f1 : ¬ 0 < F := by omega
        have f2 : ¬ 0 ≤ F := by omega
        have f3 : F ≤ 0 := by omega
        go_enter Try.func15, Try.ntmps15
        go_wp2_with (first
          | (go_at_call 13; refine HRT.out.mono ?_; clear HRT; rintro e V ⟨rfl, hb⟩; have HV := Lib.hid hb; have y0 := (hb.cell (p := ⟨G, 0, none⟩) HG.out).trans z0; have y1 := (hb.cell (p := ⟨G, 1, none⟩) HG.out).trans z1; have y2 := (hb.cell (p := ⟨G, 2, none⟩) HG.out).trans z2; have ys := (hb.cell (p := ⟨G + 1, 0, none⟩) HS.out).trans hs; clear hb)
          | (go_at_call 32; refine (HSE.out _ HV.out y1 ys).mono ?_; clear HSE; rintro e V2 ⟨⟨rfl, _⟩, m, rfl⟩)
          | (go_at_call 34; refine (HIF.out _ (drewN_below HV.out m)).mono ?_; clear HIF; rintro e V3 ⟨rfl, hb3⟩; have HV3 := Lib.hid ((HB2.out.trans ((drewN_below HV.out m).mono HB2.out.size)).trans (hb3.mono (Nat.le_trans HB2.out.size HV.out.size))); clear hb3)
          | fail)
        go_ret
        exact ⟨rfl, by first | exact HV3.out | (rw [← hGe]; exact HV3.out)⟩
      · rw [show max (0 : Int) 0 = 0 from rfl]
        go_enter Try.func15, Try.ntmps15
        go_wp2_with (first
          | (go_at_call 13; refine HRT.out.mono ?_; clear HRT; rintro e V ⟨rfl, hb⟩; have HV := Lib.hid hb; have y0 := (hb.cell (p := ⟨G, 0, none⟩) HG.out).trans z0; have y1 := (hb.cell (p := ⟨G, 1, none⟩) HG.out).trans z1; have y2 := (hb.cell (p := ⟨G, 2, none⟩) HG.out).trans z2; have ys := (hb.cell (p := ⟨G + 1, 0, none⟩) HS.out).trans hs; clear hb)
          | (go_at_call 32; refine (HSE.out _ HV.out y1 ys).mono ?_; clear HSE; rintro e V2 ⟨⟨rfl, _⟩, m, rfl⟩)
          | (go_at_call 34; refine (HIF.out _ (drewN_below HV.out m)).mono ?_; clear HIF; rintro e V3 ⟨rfl, hb3⟩; have HV3 := Lib.hid ((HB2.out.trans ((drewN_below HV.out m).mono HB2.out.size)).trans (hb3.mono (Nat.le_trans HB2.out.size HV.out.size))); clear hb3)
          | fail)
        go_ret
        exact ⟨rfl, by first | exact HV3.out | (rw [← hGe]; exact HV3.out)⟩
      · have e0 : max F 0 = F := by omega
        rw [e0]
        clear e0
        have f1 : ¬ F < 0 := by omega
        have f2 : ¬ F ≤ 0 := by omega
        have f3 : 0 ≤ F := by omega
        go_enter Try.func15, Try.ntmps15
        go_wp2_with (first
          | (go_at_call 13; refine HRT.out.mono ?_; clear HRT; rintro e V ⟨rfl, hb⟩; have HV := Lib.hid hb; have y0 := (hb.cell (p := ⟨G, 0, none⟩) HG.out).trans z0; have y1 := (hb.cell (p := ⟨G, 1, none⟩) HG.out).trans z1; have y2 := (hb.cell (p := ⟨G, 2, none⟩) HG.out).trans z2; have ys := (hb.cell (p := ⟨G + 1, 0, none⟩) HS.out).trans hs; clear hb)
          | (go_at_call 32; refine (HSE.out _ HV.out y1 ys).mono ?_; clear HSE; rintro e V2 ⟨⟨rfl, _⟩, m, rfl⟩)
          | (go_at_call 34; refine (HIF.out _ (drewN_below HV.out m)).mono ?_; clear HIF; rintro e V3 ⟨rfl, hb3⟩; have HV3 := Lib.hid ((HB2.out.trans ((drewN_below HV.out m).mono HB2.out.size)).trans (hb3.mono (Nat.le_trans HB2.out.size HV.out.size))); clear hb3)
          | fail)
        go_ret
        exact ⟨rfl, by first | exact HV3.out | (rw [← hGe]; exact HV3.out)⟩
end Go.Proofs.Ytohpdpcjhmopbaa.Tz

/-! Layer 6 (tzif): the law's few. -/
namespace Go.Proofs.Ytohpdpcjhmopbaa.Tz
open Go.RowKit

def fewZ (z : Zn) (n : Int) : Bool := decide ((z.types.length : Int) ≤ 300) && decide ((z.times.length : Int) ≤ n) && decide ((z.index.length : Int) ≤ n) && decide ((z.footer.size : Int) ≤ 200)
set_option maxRecDepth 100000 in
set_option maxHeartbeats 4000000 in
theorem few_any (z : Zn) (vt vs vi : Value) (B : Nat) (n : Int) (w : World) (h : ZnAt w B z vt vs vi) : Calls Try.prog 8 #[.agg #[vt, vs, vi, .string z.footer], .int .i64 n] w fun e w' => e = .returned (.bool (fewZ z n)) ∧ Below w.heap.size w w' := by
  obtain ⟨At, ct, rfl⟩ := h.types.len
  obtain ⟨As, cs, rfl⟩ := h.times.len
  obtain ⟨Ai, ci, rfl⟩ := h.index.len
  clear h
  have z0 := World.cell?_alloc_mark w #[.slice At z.types.length ct, .slice As z.times.length cs, .slice Ai z.index.length ci, .string z.footer] 26 (0, 0) 0
  have z1 := World.cell?_alloc_mark w #[.slice At z.types.length ct, .slice As z.times.length cs, .slice Ai z.index.length ci, .string z.footer] 26 (0, 0) 1
  have z2 := World.cell?_alloc_mark w #[.slice At z.types.length ct, .slice As z.times.length cs, .slice Ai z.index.length ci, .string z.footer] 26 (0, 0) 2
  have z3 := World.cell?_alloc_mark w #[.slice At z.types.length ct, .slice As z.times.length cs, .slice Ai z.index.length ci, .string z.footer] 26 (0, 0) 3
  have HB0 : Hid (Below w.heap.size w (w.alloc (.cells #[.slice At z.types.length ct, .slice As z.times.length cs, .slice Ai z.index.length ci, .string z.footer] 26))) := Lib.hid ((Below.refl _ _).alloc (Nat.le_refl _) _)
  simp only [List.getElem?_toArray, List.getElem?_cons_zero, List.getElem?_cons_succ] at z0 z1 z2 z3
  by_cases h0 : (z.types.length : Int) ≤ 300
  · by_cases h1 : (z.times.length : Int) ≤ n
    · by_cases h2 : (z.index.length : Int) ≤ n
      · by_cases h3 : (z.footer.size : Int) ≤ 200
        · rw [show fewZ z n = true from by unfold fewZ; simp [h0, h1, h2, h3]]
          go_enter Try.func8, Try.ntmps8
          go_wp2_with fail
          go_ret
          exact ⟨rfl, HB0.out⟩
        · rw [show fewZ z n = false from by unfold fewZ; simp [h0, h1, h2, h3]]
          go_enter Try.func8, Try.ntmps8
          go_wp2_with fail
          go_ret
          exact ⟨rfl, HB0.out⟩
      · rw [show fewZ z n = false from by unfold fewZ; simp [h0, h1, h2]]
        go_enter Try.func8, Try.ntmps8
        go_wp2_with fail
        go_ret
        exact ⟨rfl, HB0.out⟩
    · rw [show fewZ z n = false from by unfold fewZ; simp [h0, h1]]
      go_enter Try.func8, Try.ntmps8
      go_wp2_with fail
      go_ret
      exact ⟨rfl, HB0.out⟩
  · rw [show fewZ z n = false from by unfold fewZ; simp [h0]]
    go_enter Try.func8, Try.ntmps8
    go_wp2_with fail
    go_ret
    exact ⟨rfl, HB0.out⟩
end Go.Proofs.Ytohpdpcjhmopbaa.Tz
