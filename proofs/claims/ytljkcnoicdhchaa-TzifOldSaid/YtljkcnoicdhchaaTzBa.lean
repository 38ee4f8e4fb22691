/-
  Layer 6 (tzif): what the reader takes, and its numbers.
-/
import Derived.Test.YtljkcnoicdhchaaTzSame2
namespace Go.Proofs.Ytljkcnoicdhchaa.Tz
open Go.RowKit

def byteCells (b : Nat) : List Value := [by8 b]
/-- Bytes that a slice reads, in blocks below B. -/
def SB (w : World) (B : Nat) (A : Option Addr) (n c : Nat) (l : List Nat) : Prop :=
  l.length = n ∧ n ≤ c ∧ c ≤ 9223372036854775807 ∧ ((A = none ∧ c = 0) ∨ ∃ g off, A = some ⟨g, off, none⟩ ∧ g < B ∧ ∀ (j b : Nat), l[j]? = some b → w.cell? ⟨g, off + j, none⟩ = some (by8 b))
theorem SB.below {w w' : World} {B C : Nat} {A : Option Addr} {n c : Nat} {l : List Nat} (h : SB w B A n c l) (hb : Below C w w') (hB : B ≤ C) : SB w' B A n c l := by
  obtain ⟨h1, h2, h3, h4⟩ := h
  refine ⟨h1, h2, h3, h4.imp id ?_⟩
  rintro ⟨g, off, e, hg, hc⟩
  exact ⟨g, off, e, hg, fun j b hj => cells_at g hb (by omega) (hc j b hj)⟩
theorem SB.grown {w w' : World} {B : Nat} {A : Option Addr} {n c g : Nat} {l : List Nat} (h : SB w B A n c l) (hg : w.grownBy w' (some g)) (hB : B ≤ g) (hs : B ≤ w.heap.size) : SB w' B A n c l := by
  obtain ⟨h1, h2, h3, h4⟩ := h
  refine ⟨h1, h2, h3, h4.imp id ?_⟩
  rintro ⟨g', off, e, hg', hc⟩
  exact ⟨g', off, e, hg', fun j b hj => (World.cell?_of_block (a := ⟨g', off + j, none⟩) (hg.block g' (by omega) (fun e => by injection e with e; omega))).trans (hc j b hj)⟩
theorem SB.take {w : World} {B : Nat} {A : Option Addr} {n c : Nat} {l : List Nat} (h : SB w B A n c l) {k : Nat} (hk : k ≤ n) : SB w B A k c (l.take k) := by
  obtain ⟨h1, h2, h3, h4⟩ := h
  refine ⟨by rw [List.length_take]; omega, by omega, h3, h4.imp id ?_⟩
  rintro ⟨g, off, e, hg, hc⟩
  exact ⟨g, off, e, hg, fun j b hj => hc j b (by rw [List.getElem?_take] at hj; split at hj; exact hj; cases hj)⟩
theorem SB.drop {w : World} {B g off n c : Nat} {l : List Nat} (h : SB w B (some ⟨g, off, none⟩) n c l) {k : Nat} (hk : k ≤ n) : SB w B (some ⟨g, off + k, none⟩) (n - k) (c - k) (l.drop k) := by
  obtain ⟨h1, h2, h3, h4⟩ := h
  refine ⟨by rw [List.length_drop]; omega, by omega, by omega, .inr ?_⟩
  rcases h4 with ⟨e, _⟩ | ⟨g', off', e, hg, hc⟩
  · cases e
  · injection e with e; injection e with e1 e2 _; subst e1; subst e2
    exact ⟨_, _, rfl, hg, fun j b hj => by rw [Nat.add_assoc]; exact hc (k + j) b (by rw [List.getElem?_drop] at hj; exact hj)⟩
theorem SB.full {w : World} {B n c : Nat} {A : Option Addr} {l : List Nat} (h : SB w B A n c l) : SB w B A 0 0 (l.drop n) := by
  obtain ⟨h1, h2, h3, h4⟩ := h
  rw [List.drop_eq_nil_of_le (by omega)]
  refine ⟨rfl, by omega, by omega, ?_⟩
  rcases h4 with ⟨e, _⟩ | ⟨g', off', e, hg, _⟩
  · exact .inl ⟨e, rfl⟩
  · exact .inr ⟨g', off', e, hg, fun j b hj => by simp at hj⟩
/-- What is left to be read. -/
structure Rd (w : World) (B g : Nat) (l : List Nat) : Prop where
  ex : ∃ A n c, w.cell? ⟨g, 0, none⟩ = some (.slice A n c) ∧ SB w B A n c l
  fr : w.frozen? ⟨g, 0, none⟩ = false
  lo : B ≤ g
  lt : g < w.heap.size
theorem Rd.below {w w' : World} {B g C : Nat} {l : List Nat} (h : Rd w B g l) (hb : Below C w w') (hC : g < C) : Rd w' B g l := by
  obtain ⟨⟨A, n, c, h1, h2⟩, h3, h4, h5⟩ := h
  exact ⟨⟨A, n, c, cells_at g hb hC h1, h2.below hb (by omega)⟩, (hb.frozen (p := ⟨g, 0, none⟩) hC).trans h3, h4, Nat.lt_of_lt_of_le h5 hb.size⟩
theorem Rd.len {w : World} {B g : Nat} {l : List Nat} (h : Rd w B g l) : l.length ≤ 9223372036854775807 := by
  obtain ⟨⟨A, n, c, _, h1, h2, h3, _⟩, _, _, _⟩ := h
  omega
theorem has_any (l : List Nat) (B g : Nat) (m : Int) (w : World) (h : Rd w B g l) : Calls Try.prog 46 #[.pointer (some ⟨g, 0, none⟩), .int .i64 m] w fun e w' => e = .returned (.bool (decide (m ≤ l.length))) ∧ w = w' := by
  obtain ⟨⟨A, n, c, h1, h2, h3, h4, _⟩, _, _, _⟩ := h
  subst h2
  by_cases hm : m ≤ l.length
  · rw [decide_eq_true hm]; exact has_yes g A l.length c m w h1 hm
  · rw [decide_eq_false hm]; exact has_no g A l.length c m w h1 hm
set_option maxRecDepth 100000 in
set_option maxHeartbeats 1000000 in
theorem take_any (l : List Nat) (B g k : Nat) (w : World) (h : Rd w B g l) (hk : k ≤ l.length) :
    Calls Try.prog 47 #[.pointer (some ⟨g, 0, none⟩), .int .i64 k] w fun e w' => ∃ A c, e = .returned (.slice A k c) ∧ SB w' B A k c (l.take k) ∧ Rd w' B g (l.drop k) ∧ w.grownBy w' (some g) := by
  obtain ⟨⟨A, n, c, h1, h2⟩, hf, hlo, hlt⟩ := h
  have hl := h2.1
  have hnc := h2.2.1
  have hcm := h2.2.2.1
  subst hl
  have H2 := Lib.hid h2
  have hk0 : (0 : Int) ≤ (k : Int) := by omega
  have hk1 : (k : Int) ≤ (c : Int) := by omega
  have hk2 : (k : Int) ≤ (l.length : Int) := by omega
  have hfin : ∀ A' n' c', SB w B A' n' c' (l.drop k) → Rd (w.setCell ⟨g, 0, none⟩ (.slice A' n' c')) B g (l.drop k) ∧ SB (w.setCell ⟨g, 0, none⟩ (.slice A' n' c')) B A k c (l.take k) ∧ w.grownBy (w.setCell ⟨g, 0, none⟩ (.slice A' n' c')) (some g) := fun A' n' c' hs => by
    have hgr := grown_set w g 0 (.slice A' n' c')
    exact ⟨⟨⟨A', n', c', World.cell?_setCell_same _ _ _ h1, hs.grown hgr hlo (by omega)⟩, by rw [World.frozen?_setCell]; exact hf, hlo, by simpa using hlt⟩, (H2.out.take hk).grown hgr hlo (by omega), hgr⟩
  have HFIN := Lib.hid hfin
  clear hfin
  rcases h2.2.2.2 with ⟨rfl, rfl⟩ | ⟨gb, off, rfl, _, _⟩
  · have hl0 : l = [] := List.eq_nil_of_length_eq_zero (by omega)
    subst hl0
    obtain rfl : k = 0 := by simpa using hk
    clear h2 hk
    go_enter Try.func47, Try.ntmps47
    go_wp2_with fail
    go_ret
    obtain ⟨a1, a2, a3⟩ := HFIN.out none 0 0 (by simpa using H2.out)
    exact ⟨none, 0, rfl, a2, a1, a3⟩
  · clear h2
    by_cases hck : c = k
    · subst hck
      obtain ⟨a1, a2, a3⟩ := HFIN.out (some ⟨gb, off, none⟩) 0 0 (by
        have hcl : c = l.length := by omega
        have := H2.out.full
        rwa [← hcl] at this)
      have A1 := Lib.hid a1; have A2 := Lib.hid a2; have A3 := Lib.hid a3
      clear a1 a2 a3 HFIN
      go_enter Try.func47, Try.ntmps47
      go_wp2_with fail
      go_ret
      exact ⟨_, _, rfl, A2.out, A1.out, A3.out⟩
    · obtain ⟨a1, a2, a3⟩ := HFIN.out (some ⟨gb, off + k, none⟩) (l.length - k) (c - k) (H2.out.drop hk)
      have A1 := Lib.hid a1; have A2 := Lib.hid a2; have A3 := Lib.hid a3
      have hck2 : ¬ c - k = 0 := by omega
      clear a1 a2 a3 HFIN
      go_enter Try.func47, Try.ntmps47
      go_wp2_with fail
      go_ret
      exact ⟨_, _, rfl, A2.out, A1.out, A3.out⟩
/-! ### Numbers -/
/-- The highest byte first. -/
def be (l : List Nat) : Nat := l.foldl (fun n b => n * 256 + b) 0
theorem be_snoc (l : List Nat) (b : Nat) : be (l ++ [b]) = be l * 256 + b := by unfold be; rw [List.foldl_append]; rfl
theorem fold_lt : ∀ (l : List Nat) (a m : Nat), a < m → (∀ b ∈ l, b < 256) → l.foldl (fun n b => n * 256 + b) a < m * 256 ^ l.length
  | [], a, m, h, _ => by simpa using h
  | x :: l, a, m, h, hb => by
    have h1 := hb x (by simp)
    have h2 := fold_lt l (a * 256 + x) (m * 256) (by omega) (fun b hx => hb b (by simp [hx]))
    rw [List.foldl_cons, List.length_cons, Nat.pow_succ, Nat.mul_comm (256 ^ l.length) 256, ← Nat.mul_assoc]
    exact h2
theorem be_lt {l : List Nat} (h : ∀ b ∈ l, b < 256) : be l < 256 ^ l.length := by
  have := fold_lt l 0 1 (by omega) h
  rw [Nat.one_mul] at this
  exact this
theorem ofInt_u64 (a : Nat) (ha : a < 18446744073709551616) : (BitVec.ofInt 64 (a : Int)).toNat = a := by
  rw [BitVec.ofInt_natCast, BitVec.toNat_ofNat]; exact Nat.mod_eq_of_lt (by omega)
theorem or_byte (n b : Nat) (hn : n < 72057594037927936) (hb : b < 256) : bits .or .u64 (IntKind.u64.wrap ((n : Int) * 256)) (b : Int) = ((n * 256 + b : Nat) : Int) := by
  have e1 : IntKind.u64.wrap ((n : Int) * 256) = ((n * 256 : Nat) : Int) := by rw [IntKind.wrap_u64]; omega
  rw [e1]
  show IntKind.u64.wrap ((BitVec.ofInt 64 ((n * 256 : Nat) : Int) ||| BitVec.ofInt 64 (b : Int)).toNat : Int) = _
  rw [BitVec.toNat_or, ofInt_u64 _ (by omega), ofInt_u64 b (by omega)]
  have e2 : n * 256 ||| b = n * 256 + b := by
    have := Nat.two_pow_add_eq_or_of_lt (i := 8) (b := b) (by omega) n
    rw [Nat.mul_comm n, show (256 : Nat) = 2 ^ 8 from rfl, ← this]
  rw [e2, IntKind.wrap_u64]
  omega
set_option maxRecDepth 100000 in
set_option maxHeartbeats 1000000 in
theorem number_any (l : List Nat) (B g k : Nat) (w : World) (h : Rd w B g l) (hk : k ≤ l.length) (h8 : k ≤ 8) (hb : ∀ b ∈ l, b < 256) :
    Calls Try.prog 65 #[.pointer (some ⟨g, 0, none⟩), .int .i64 k] w fun e w' => e = .returned (.int .u64 (be (l.take k))) ∧ Rd w' B g (l.drop k) ∧ w.grownBy w' (some g) := by
  have HT : Hid (Calls Try.prog 47 #[.pointer (some ⟨g, 0, none⟩), .int .i64 k] w fun e w' => ∃ A c, e = .returned (.slice A k c) ∧ SB w' B A k c (l.take k) ∧ Rd w' B g (l.drop k) ∧ w.grownBy w' (some g)) := Lib.hid (take_any l B g k w h hk)
  obtain ⟨xs, hxs⟩ : ∃ xs, l.take k = xs := ⟨_, rfl⟩
  have hxl : xs.length = k := by rw [← hxs, List.length_take]; omega
  have hxb : ∀ b ∈ xs, b < 256 := fun b hx => hb b (List.mem_of_mem_take (by rw [hxs]; exact hx))
  rw [hxs] at HT ⊢
  have HXL := Lib.hid hxl; have HXB := Lib.hid hxb
  clear hxs hxl hxb hb h
  have hk0 : (0 : Int) ≤ (k : Int) := by omega
  have hk8 : (k : Int) ≤ 8 := by omega
  go_enter Try.func65, Try.ntmps65
  go_wp2_with (first
    | (go_at_call 47; refine HT.out.mono ?_; clear HT; rintro e V ⟨A, c, rfl, hs, hr, hg⟩; have HS := Lib.hid hs; have HR := Lib.hid hr; have HG := Lib.hid hg; clear hs hr hg)
    | fail)
  go_loopw [5, 12] (fun u i wr => ∃ j : Nat, j ≤ k ∧ i = .int .i64 j ∧ u = .int .u64 (be (xs.take j) : Nat) ∧ wr = V) (fun _ i _ => k - (intOf i).toNat)
  case atStart => exact ⟨0, Nat.zero_le _, rfl, rfl, rfl⟩
  case round =>
    obtain ⟨j, hj, rfl, rfl, rfl⟩ := hrel
    by_cases hlt : j < k
    · have hj0 : (0 : Int) ≤ (j : Int) := by omega
      have hj1 : (j : Int) < (k : Int) := by omega
      obtain ⟨x, hx⟩ : ∃ x, xs[j]? = some x := ⟨_, List.getElem?_eq_getElem (by have := HXL.out; omega)⟩
      have hxb := HXB.out x (List.mem_of_getElem? hx)
      obtain ⟨n, hn⟩ : ∃ n, be (xs.take j) = n := ⟨_, rfl⟩
      have hnb : n < 72057594037927936 := by
        have h1 : n < 256 ^ (xs.take j).length := by rw [← hn]; exact be_lt fun b hb => HXB.out b (List.mem_of_mem_take hb)
        have h2 : (xs.take j).length ≤ 7 := by rw [List.length_take]; omega
        have h3 : (256 : Nat) ^ (xs.take j).length ≤ 256 ^ 7 := Nat.pow_le_pow_right (by omega) h2
        omega
      rw [hn]
      have ho := or_byte n x hnb hxb
      have ho2 : bits .or .u64 ((n : Int) * 256) (x : Int) = ((n * 256 + x : Nat) : Int) := by
        rw [← ho, show IntKind.u64.wrap ((n : Int) * 256) = (n : Int) * 256 by rw [IntKind.wrap_u64]; omega]
      clear ho
      rcases HS.out.2.2.2 with ⟨rfl, rfl⟩ | ⟨gb, off, rfl, hgb, hcell⟩
      · have := HS.out.2.1; omega
      · have c0 : wr.cell? ⟨gb, off + j, none⟩ = some (.int .u8 x) := hcell j x hx
        have HN := Lib.hid hn; have HX := Lib.hid hx
        have hx0 : (0 : Int) ≤ (x : Int) := by omega
        have hx1 : (x : Int) < 256 := by omega
        clear hn hx hcell hgb
        go_wp2_with fail
        refine ⟨⟨j + 1, hlt, by go_num, ?_, by first | rfl | trivial⟩, by simp [intOf]; omega⟩
        rw [take_one HX.out, be_snoc, HN.out]
        exact congrArg (Value.int .u64) (by omega)
    · have hj1 : ¬ (j : Int) < (k : Int) := by omega
      have he : be (xs.take j) = be xs := by rw [List.take_of_length_le (by have := HXL.out; omega)]
      rw [he]
      clear he
      go_wp2_with fail
      go_ret
      exact ⟨rfl, HR.out, HG.out⟩
end Go.Proofs.Ytljkcnoicdhchaa.Tz
