/-
  TzBa, TzBb, TzBc, TzBd, TzBe, one behind the other.
-/
import Derived.Test.YtohpdpcjhmopbaaTzSame2
import Derived.Laws.BytesArg
/-! Layer 6 (tzif): what the reader takes, and its numbers. -/
namespace Go.Proofs.Ytohpdpcjhmopbaa.Tz
open Go.RowKit

def byteCells (b : Nat) : List Value := [by8 b]
/-- Bytes that a slice reads, in blocks below B. -/
def SB (w : World) (B : Nat) (A : Option Addr) (n c : Nat) (l : List Nat) : Prop :=
  l.length = n ∧ n ≤ c ∧ c ≤ 9223372036854775807 ∧ ((A = none ∧ c = 0) ∨ ∃ g off, A = some ⟨g, off, none⟩ ∧ g < B ∧ ∀ (j b : Nat), l[j]? = some b → w.cell? ⟨g, off + j, none⟩ = some (by8 b))
theorem SB.below {w w' : World} {B C : Nat} {A : Option Addr} {n c : Nat} {l : List Nat} (h : SB w B A n c l) (hb : Below C w w') (hB : B ≤ C) : SB w' B A n c l := by
  obtain ⟨h1, h2, h3, h4⟩ := h
  refine ⟨h1, h2, h3, h4.imp id ?_⟩
  rintro ⟨g, off, e, hg, hc⟩
  exact ⟨g, off, e, hg, fun j b hj => cells_at g hb (by omega) (hc j b hj)⟩
theorem SB.grown {w w' : World} {B : Nat} {A : Option Addr} {n c g : Nat} {l : List Nat} (h : SB w B A n c l) (hg : w.grownBy w' (some g)) (hB : B ≤ g) (hs : B ≤ w.heap.size) : SB w' B A n c l := by
  obtain ⟨h1, h2, h3, h4⟩ := h
  refine ⟨h1, h2, h3, h4.imp id ?_⟩
  rintro ⟨g', off, e, hg', hc⟩
  exact ⟨g', off, e, hg', fun j b hj => (World.cell?_of_block (a := ⟨g', off + j, none⟩) (hg.block g' (by omega) (fun e => by injection e with e; omega))).trans (hc j b hj)⟩
theorem SB.take {w : World} {B : Nat} {A : Option Addr} {n c : Nat} {l : List Nat} (h : SB w B A n c l) {k : Nat} (hk : k ≤ n) : SB w B A k c (l.take k) := by
  obtain ⟨h1, h2, h3, h4⟩ := h
  refine ⟨by rw [List.length_take]; omega, by omega, h3, h4.imp id ?_⟩
  rintro ⟨g, off, e, hg, hc⟩
  exact ⟨g, off, e, hg, fun j b hj => hc j b (by rw [List.getElem?_take] at hj; split at hj; exact hj; cases hj)⟩
theorem SB.drop {w : World} {B g off n c : Nat} {l : List Nat} (h : SB w B (some ⟨g, off, none⟩) n c l) {k : Nat} (hk : k ≤ n) : SB w B (some ⟨g, off + k, none⟩) (n - k) (c - k) (l.drop k) := by
  obtain ⟨h1, h2, h3, h4⟩ := h
  refine ⟨by rw [List.length_drop]; omega, by omega, by omega, .inr ?_⟩
  rcases h4 with ⟨e, _⟩ | ⟨g', off', e, hg, hc⟩
  · cases e
  · injection e with e; injection e with e1 e2 _; subst e1; subst e2
    exact ⟨_, _, rfl, hg, fun j b hj => by rw [Nat.add_assoc]; exact hc (k + j) b (by rw [List.getElem?_drop] at hj; exact hj)⟩
theorem SB.full {w : World} {B n c : Nat} {A : Option Addr} {l : List Nat} (h : SB w B A n c l) : SB w B A 0 0 (l.drop n) := by
  obtain ⟨h1, h2, h3, h4⟩ := h
  rw [List.drop_eq_nil_of_le (by omega)]
  refine ⟨rfl, by omega, by omega, ?_⟩
  rcases h4 with ⟨e, _⟩ | ⟨g', off', e, hg, _⟩
  · exact .inl ⟨e, rfl⟩
  · exact .inr ⟨g', off', e, hg, fun j b hj => by simp at hj⟩
/-- What is left to be read. -/
structure Rd (w : World) (B g : Nat) (l : List Nat) : Prop where
  ex : ∃ A n c, w.cell? ⟨g, 0, none⟩ = some (.slice A n c) ∧ SB w B A n c l
  fr : w.frozen? ⟨g, 0, none⟩ = false
  lo : B ≤ g
  lt : g < w.heap.size
theorem Rd.below {w w' : World} {B g C : Nat} {l : List Nat} (h : Rd w B g l) (hb : Below C w w') (hC : g < C) : Rd w' B g l := by
  obtain ⟨⟨A, n, c, h1, h2⟩, h3, h4, h5⟩ := h
  exact ⟨⟨A, n, c, cells_at g hb hC h1, h2.below hb (by omega)⟩, (hb.frozen (p := ⟨g, 0, none⟩) hC).trans h3, h4, Nat.lt_of_lt_of_le h5 hb.size⟩
theorem Rd.len {w : World} {B g : Nat} {l : List Nat} (h : Rd w B g l) : l.length ≤ 9223372036854775807 := by
  obtain ⟨⟨A, n, c, _, h1, h2, h3, _⟩, _, _, _⟩ := h
  omega
theorem has_any (l : List Nat) (B g : Nat) (m : Int) (w : World) (h : Rd w B g l) : Calls Try.prog 46 #[.pointer (some ⟨g, 0, none⟩), .int .i64 m] w fun e w' => e = .returned (.bool (decide (m ≤ l.length))) ∧ w = w' := by
  obtain ⟨⟨A, n, c, h1, h2, h3, h4, _⟩, _, _, _⟩ := h
  subst h2
  by_cases hm : m ≤ l.length
  · rw [decide_eq_true hm]; exact has_yes g A l.length c m w h1 hm
  · rw [decide_eq_false hm]; exact has_no g A l.length c m w h1 hm
set_option maxRecDepth 100000 in
set_option maxHeartbeats 1000000 in
theorem take_any (l : List Nat) (B g k : Nat) (w : World) (h : Rd w B g l) (hk : k ≤ l.length) :
    Calls Try.prog 47 #[.pointer (some ⟨g, 0, none⟩), .int .i64 k] w fun e w' => ∃ A c, e = .returned (.slice A k c) ∧ SB w' B A k c (l.take k) ∧ Rd w' B g (l.drop k) ∧ w.grownBy w' (some g) := by
  obtain ⟨⟨A, n, c, h1, h2⟩, hf, hlo, hlt⟩ := h
  have hl := h2.1
  have hnc := h2.2.1
  have hcm := h2.2.2.1
  subst hl
  have H2 := Lib.hid h2
  have hk0 : (0 : Int) ≤ (k : Int) := by omega
  have hk1 : (k : Int) ≤ (c : Int) := by omega
  have hk2 : (k : Int) ≤ (l.length : Int) := by omega
  have hfin : ∀ A' n' c', SB w B A' n' c' (l.drop k) → Rd (w.setCell ⟨g, 0, none⟩ (.slice A' n' c')) B g (l.drop k) ∧ SB (w.setCell ⟨g, 0, none⟩ (.slice A' n' c')) B A k c (l.take k) ∧ w.grownBy (w.setCell ⟨g, 0, none⟩ (.slice A' n' c')) (some g) := fun A' n' c' hs => by
    have hgr := grown_set w g 0 (.slice A' n' c')
    exact ⟨⟨⟨A', n', c', World.cell?_setCell_same _ _ _ h1, hs.grown hgr hlo (by omega)⟩, by rw [World.frozen?_setCell]; exact hf, hlo, by simpa using hlt⟩, (H2.out.take hk).grown hgr hlo (by omega), hgr⟩
  have HFIN := Lib.hid hfin
  clear hfin
  rcases h2.2.2.2 with ⟨rfl, rfl⟩ | ⟨gb, off, rfl, _, _⟩
  · have hl0 : l = [] := List.eq_nil_of_length_eq_zero (by omega)
    subst hl0
    obtain rfl : k = 0 := by simpa using hk
    clear h2 hk
    go_enter Try.func47, Try.ntmps47
    go_wp2_with fail
    go_ret
    obtain ⟨a1, a2, a3⟩ := HFIN.out none 0 0 (by simpa using H2.out)
    exact ⟨none, 0, rfl, a2, a1, a3⟩
  · clear h2
    by_cases hck : c = k
    · subst hck
      obtain ⟨a1, a2, a3⟩ := HFIN.out (some ⟨gb, off, none⟩) 0 0 (by
        have hcl : c = l.length := by omega
        have := H2.out.full
        rwa [← hcl] at this)
      have A1 := Lib.hid a1; have A2 := Lib.hid a2; have A3 := Lib.hid a3
      clear a1 a2 a3 HFIN
      go_enter Try.func47, Try.ntmps47
      go_wp2_with fail
      go_ret
      exact ⟨_, _, rfl, A2.out, A1.out, A3.out⟩
    · obtain ⟨a1, a2, a3⟩ := HFIN.out (some ⟨gb, off + k, none⟩) (l.length - k) (c - k) (H2.out.drop hk)
      have A1 := Lib.hid a1; have A2 := Lib.hid a2; have A3 := Lib.hid a3
      have hck2 : ¬ c - k = 0 := by omega
      clear a1 a2 a3 HFIN
      go_enter Try.func47, Try.ntmps47
      go_wp2_with fail
      go_ret
      exact ⟨_, _, rfl, A2.out, A1.out, A3.out⟩
/-! ### Numbers -/
/-- The highest byte first. -/
def be (l : List Nat) : Nat := l.foldl (fun n b => n * 256 + b) 0
theorem be_snoc (l : List Nat) (b : Nat) : be (l ++ [b]) = be l * 256 + b := by unfold be; rw [List.foldl_append]; rfl
theorem fold_lt : ∀ (l : List Nat) (a m : Nat), a < m → (∀ b ∈ l, b < 256) → l.foldl (fun n b => n * 256 + b) a < m * 256 ^ l.length
  | [], a, m, h, _ => by simpa using h
  | x :: l, a, m, h, hb => by
    have h1 := hb x (by simp)
    have h2 := fold_lt l (a * 256 + x) (m * 256) (by omega) (fun b hx => hb b (by simp [hx]))
    rw [List.foldl_cons, List.length_cons, Nat.pow_succ, Nat.mul_comm (256 ^ l.length) 256, ← Nat.mul_assoc]
    exact h2
theorem be_lt {l : List Nat} (h : ∀ b ∈ l, b < 256) : be l < 256 ^ l.length := by
  have := fold_lt l 0 1 (by omega) h
  rw [Nat.one_mul] at this
  exact this
theorem ofInt_u64 (a : Nat) (ha : a < 18446744073709551616) : (BitVec.ofInt 64 (a : Int)).toNat = a := by
  rw [BitVec.ofInt_natCast, BitVec.toNat_ofNat]; exact Nat.mod_eq_of_lt (by omega)
theorem or_byte (n b : Nat) (hn : n < 72057594037927936) (hb : b < 256) : bits .or .u64 (IntKind.u64.wrap ((n : Int) * 256)) (b : Int) = ((n * 256 + b : Nat) : Int) := by
  have e1 : IntKind.u64.wrap ((n : Int) * 256) = ((n * 256 : Nat) : Int) := by rw [IntKind.wrap_u64]; omega
  rw [e1]
  show IntKind.u64.wrap ((BitVec.ofInt 64 ((n * 256 : Nat) : Int) ||| BitVec.ofInt 64 (b : Int)).toNat : Int) = _
  rw [BitVec.toNat_or, ofInt_u64 _ (by omega), ofInt_u64 b (by omega)]
  have e2 : n * 256 ||| b = n * 256 + b := by
    have := Nat.two_pow_add_eq_or_of_lt (i := 8) (b := b) (by omega) n
    rw [Nat.mul_comm n, show (256 : Nat) = 2 ^ 8 from rfl, ← this]
  rw [e2, IntKind.wrap_u64]
  omega
set_option maxRecDepth 100000 in
set_option maxHeartbeats 1000000 in
theorem number_any (l : List Nat) (B g k : Nat) (w : World) (h : Rd w B g l) (hk : k ≤ l.length) (h8 : k ≤ 8) (hb : ∀ b ∈ l, b < 256) :
    Calls Try.prog 65 #[.pointer (some ⟨g, 0, none⟩), .int .i64 k] w fun e w' => e = .returned (.int .u64 (be (l.take k))) ∧ Rd w' B g (l.drop k) ∧ w.grownBy w' (some g) := by
  have HT : Hid (Calls Try.prog 47 #[.pointer (some ⟨g, 0, none⟩), .int .i64 k] w fun e w' => ∃ A c, e = .returned (.slice A k c) ∧ SB w' B A k c (l.take k) ∧ Rd w' B g (l.drop k) ∧ w.grownBy w' (some g)) := Lib.hid (take_any l B g k w h hk)
  obtain ⟨xs, hxs⟩ : ∃ xs, l.take k = xs := ⟨_, rfl⟩
  have hxl : xs.length = k := by rw [← hxs, List.length_take]; omega
  have hxb : ∀ b ∈ xs, b < 256 := fun b hx => hb b (List.mem_of_mem_take (by rw [hxs]; exact hx))
  rw [hxs] at HT ⊢
  have HXL := Lib.hid hxl; have HXB := Lib.hid hxb
  clear hxs hxl hxb hb h
  have hk0 : (0 : Int) ≤ (k : Int) := by omega
  have hk8 : (k : Int) ≤ 8 := by omega
  go_enter Try.func65, Try.ntmps65
  go_wp2_with (first
    | (go_at_call 47; refine HT.out.mono ?_; clear HT; rintro e V ⟨A, c, rfl, hs, hr, hg⟩; have HS := Lib.hid hs; have HR := Lib.hid hr; have HG := Lib.hid hg; clear hs hr hg)
    | fail)
  go_loopw [5, 12] (fun u i wr => ∃ j : Nat, j ≤ k ∧ i = .int .i64 j ∧ u = .int .u64 (be (xs.take j) : Nat) ∧ wr = V) (fun _ i _ => k - (intOf i).toNat)
  case atStart => exact ⟨0, Nat.zero_le _, rfl, rfl, rfl⟩
  case round =>
    obtain ⟨j, hj, rfl, rfl, rfl⟩ := hrel
    by_cases hlt : j < k
    · have hj0 : (0 : Int) ≤ (j : Int) := by omega
      have hj1 : (j : Int) < (k : Int) := by omega
      obtain ⟨x, hx⟩ : ∃ x, xs[j]? = some x := ⟨_, List.getElem?_eq_getElem (by have := HXL.out; omega)⟩
      have hxb := HXB.out x (List.mem_of_getElem? hx)
      obtain ⟨n, hn⟩ : ∃ n, be (xs.take j) = n := ⟨_, rfl⟩
      have hnb : n < 72057594037927936 := by
        have h1 : n < 256 ^ (xs.take j).length := by rw [← hn]; exact be_lt fun b hb => HXB.out b (List.mem_of_mem_take hb)
        have h2 : (xs.take j).length ≤ 7 := by rw [List.length_take]; omega
        have h3 : (256 : Nat) ^ (xs.take j).length ≤ 256 ^ 7 := Nat.pow_le_pow_right (by omega) h2
        omega
      rw [hn]
      have ho := or_byte n x hnb hxb
      have ho2 : bits .or .u64 ((n : Int) * 256) (x : Int) = ((n * 256 + x : Nat) : Int) := by
        rw [← ho, show IntKind.u64.wrap ((n : Int) * 256) = (n : Int) * 256 by rw [IntKind.wrap_u64]; omega]
      clear ho
      rcases HS.out.2.2.2 with ⟨rfl, rfl⟩ | ⟨gb, off, rfl, hgb, hcell⟩
      · have := HS.out.2.1; omega
      · have c0 : wr.cell? ⟨gb, off + j, none⟩ = some (.int .u8 x) := hcell j x hx
        have HN := Lib.hid hn; have HX := Lib.hid hx
        have hx0 : (0 : Int) ≤ (x : Int) := by omega
        have hx1 : (x : Int) < 256 := by omega
        clear hn hx hcell hgb
        go_wp2_with fail
        refine ⟨⟨j + 1, hlt, by go_num, ?_, by first | rfl | trivial⟩, by simp [intOf]; omega⟩
        rw [take_one HX.out, be_snoc, HN.out]
        exact congrArg (Value.int .u64) (by omega)
    · have hj1 : ¬ (j : Int) < (k : Int) := by omega
      have he : be (xs.take j) = be xs := by rw [List.take_of_length_le (by have := HXL.out; omega)]
      rw [he]
      clear he
      go_wp2_with fail
      go_ret
      exact ⟨rfl, HR.out, HG.out⟩
end Go.Proofs.Ytohpdpcjhmopbaa.Tz

/-! Layer 6 (tzif): the reader's counts, and rows of them. -/
namespace Go.Proofs.Ytohpdpcjhmopbaa.Tz
open Go.RowKit

theorem count_any (l : List Nat) (B g : Nat) (w : World) (h : Rd w B g l) (hk : 4 ≤ l.length) (hb : ∀ b ∈ l, b < 256) :
    Calls Try.prog 53 #[.pointer (some ⟨g, 0, none⟩)] w fun e w' => e = .returned (.int .i64 (be (l.take 4))) ∧ Rd w' B g (l.drop 4) ∧ w.grownBy w' (some g) := by
  have HN : Hid (Calls Try.prog 65 #[.pointer (some ⟨g, 0, none⟩), .int .i64 4] w fun e w' => e = .returned (.int .u64 (be (l.take 4))) ∧ Rd w' B g (l.drop 4) ∧ w.grownBy w' (some g)) := Lib.hid (number_any l B g 4 w h hk (by omega) hb)
  have hlt := be_lt (l := l.take 4) (fun b hx => hb b (List.mem_of_mem_take hx))
  rw [List.length_take, Nat.min_eq_left hk] at hlt
  obtain ⟨n, hn⟩ : ∃ n, be (l.take 4) = n := ⟨_, rfl⟩
  rw [hn] at HN hlt ⊢
  have hn0 : (0 : Int) ≤ (n : Int) := by omega
  have hn1 : (n : Int) < 4294967296 := by omega
  clear hn hlt h hk hb
  go_enter Try.func53, Try.ntmps53
  go_wp2_with (first
    | (go_at_call 65; refine HN.out.mono ?_; clear HN; rintro e V ⟨rfl, hr, hg⟩; have HR := Lib.hid hr; have HG := Lib.hid hg; clear hr hg)
    | fail)
  go_ret
  exact ⟨rfl, HR.out, HG.out⟩
theorem eight_any (l : List Nat) (B g : Nat) (w : World) (h : Rd w B g l) (hk : 8 ≤ l.length) (hb : ∀ b ∈ l, b < 256) :
    Calls Try.prog 55 #[.pointer (some ⟨g, 0, none⟩)] w fun e w' => e = .returned (.int .i64 (wrap64 (be (l.take 8)))) ∧ Rd w' B g (l.drop 8) ∧ w.grownBy w' (some g) := by
  have HN : Hid (Calls Try.prog 65 #[.pointer (some ⟨g, 0, none⟩), .int .i64 8] w fun e w' => e = .returned (.int .u64 (be (l.take 8))) ∧ Rd w' B g (l.drop 8) ∧ w.grownBy w' (some g)) := Lib.hid (number_any l B g 8 w h hk (by omega) hb)
  have hlt := be_lt (l := l.take 8) (fun b hx => hb b (List.mem_of_mem_take hx))
  rw [List.length_take, Nat.min_eq_left hk] at hlt
  obtain ⟨n, hn⟩ : ∃ n, be (l.take 8) = n := ⟨_, rfl⟩
  rw [hn] at HN hlt ⊢
  have hn0 : (0 : Int) ≤ (n : Int) := by omega
  have hn1 : (n : Int) < 18446744073709551616 := by omega
  clear hn hlt h hk hb
  go_enter Try.func55, Try.ntmps55
  go_wp2_with (first
    | (go_at_call 65; refine HN.out.mono ?_; clear HN; rintro e V ⟨rfl, hr, hg⟩; have HR := Lib.hid hr; have HG := Lib.hid hg; clear hr hg)
    | fail)
  go_ret
  exact ⟨rfl, HR.out, HG.out⟩
theorem four_any (l : List Nat) (B g : Nat) (w : World) (h : Rd w B g l) (hk : 4 ≤ l.length) (hb : ∀ b ∈ l, b < 256) :
    Calls Try.prog 56 #[.pointer (some ⟨g, 0, none⟩)] w fun e w' => e = .returned (.int .i64 (wrap64 (wrap32 (be (l.take 4))))) ∧ Rd w' B g (l.drop 4) ∧ w.grownBy w' (some g) := by
  have HN : Hid (Calls Try.prog 65 #[.pointer (some ⟨g, 0, none⟩), .int .i64 4] w fun e w' => e = .returned (.int .u64 (be (l.take 4))) ∧ Rd w' B g (l.drop 4) ∧ w.grownBy w' (some g)) := Lib.hid (number_any l B g 4 w h hk (by omega) hb)
  have hlt := be_lt (l := l.take 4) (fun b hx => hb b (List.mem_of_mem_take hx))
  rw [List.length_take, Nat.min_eq_left hk] at hlt
  obtain ⟨n, hn⟩ : ∃ n, be (l.take 4) = n := ⟨_, rfl⟩
  rw [hn] at HN hlt ⊢
  have hn0 : (0 : Int) ≤ (n : Int) := by omega
  have hn1 : (n : Int) < 4294967296 := by omega
  clear hn hlt h hk hb
  go_enter Try.func56, Try.ntmps56
  go_wp2_with (first
    | (go_at_call 65; refine HN.out.mono ?_; clear HN; rintro e V ⟨rfl, hr, hg⟩; have HR := Lib.hid hr; have HG := Lib.hid hg; clear hr hg)
    | fail)
  go_ret
  exact ⟨rfl, HR.out, HG.out⟩
theorem one_any (l : List Nat) (B g : Nat) (w : World) (h : Rd w B g l) (hk : 1 ≤ l.length) (hb : ∀ b ∈ l, b < 256) :
    Calls Try.prog 58 #[.pointer (some ⟨g, 0, none⟩)] w fun e w' => e = .returned (.int .i64 (be (l.take 1))) ∧ Rd w' B g (l.drop 1) ∧ w.grownBy w' (some g) := by
  have HN : Hid (Calls Try.prog 65 #[.pointer (some ⟨g, 0, none⟩), .int .i64 1] w fun e w' => e = .returned (.int .u64 (be (l.take 1))) ∧ Rd w' B g (l.drop 1) ∧ w.grownBy w' (some g)) := Lib.hid (number_any l B g 1 w h hk (by omega) hb)
  have hlt := be_lt (l := l.take 1) (fun b hx => hb b (List.mem_of_mem_take hx))
  rw [List.length_take, Nat.min_eq_left hk] at hlt
  obtain ⟨n, hn⟩ : ∃ n, be (l.take 1) = n := ⟨_, rfl⟩
  rw [hn] at HN hlt ⊢
  have hn0 : (0 : Int) ≤ (n : Int) := by omega
  have hn1 : (n : Int) < 256 := by omega
  clear hn hlt h hk hb
  go_enter Try.func58, Try.ntmps58
  go_wp2_with (first
    | (go_at_call 65; refine HN.out.mono ?_; clear HN; rintro e V ⟨rfl, hr, hg⟩; have HR := Lib.hid hr; have HG := Lib.hid hg; clear hr hg)
    | fail)
  go_ret
  exact ⟨rfl, HR.out, HG.out⟩
/-! ### Rows of them -/
/-- What each of n readings of kk bytes gives. -/
def vals (kk : Nat) (val : List Nat → Int) : Nat → List Nat → List Int
  | 0, _ => []
  | n + 1, l => val (l.take kk) :: vals kk val n (l.drop kk)
theorem vals_len (kk : Nat) (val : List Nat → Int) : ∀ (n : Nat) (l : List Nat), (vals kk val n l).length = n
  | 0, _ => rfl
  | n + 1, l => by unfold vals; rw [List.length_cons, vals_len kk val n]
theorem vals_snoc (kk : Nat) (val : List Nat → Int) : ∀ (n : Nat) (l : List Nat), vals kk val (n + 1) l = vals kk val n l ++ [val ((l.drop (kk * n)).take kk)]
  | 0, l => by simp [vals]
  | n + 1, l => by
    have h := vals_snoc kk val n (l.drop kk)
    rw [show vals kk val (n + 1 + 1) l = val (l.take kk) :: vals kk val (n + 1) (l.drop kk) from rfl, h]
    rw [show vals kk val (n + 1) l = val (l.take kk) :: vals kk val n (l.drop kk) from rfl, List.drop_drop, List.cons_append, Nat.mul_add, Nat.mul_one, Nat.add_comm kk (kk * n)]
/-- A way to read one. -/
def Reads (f : FuncId) (B g kk : Nat) (val : List Nat → Int) : Prop := ∀ (V : World) (l : List Nat), Rd V B g l → kk ≤ l.length → (∀ b ∈ l, b < 256) → Calls Try.prog f #[.pointer (some ⟨g, 0, none⟩)] V fun e w' => e = .returned (.int .i64 (val (l.take kk))) ∧ Rd w' B g (l.drop kk) ∧ V.grownBy w' (some g)
theorem OwnI.other {w w' : World} {base g : Nat} {te : TypeId} {v : Value} {xs : List Int} (h : OwnI w base te v xs) (hg : w.grownBy w' (some g)) (hb : g < base) : OwnI w' base te v xs :=
  World.ownsRow.kept h hg (by
    cases hv : v.ownBlock with
    | none => exact .inl rfl
    | some k => exact .inr (fun e => by injection e with e; have := (h.lt k hv).1; omega))
theorem Rd.other {w w' : World} {B g : Nat} {l : List Nat} (h : Rd w B g l) {v v' : Value} (hg : Grew w w' v v') (hv : ∀ k, v.ownBlock = some k → g < k ∧ B ≤ k) : Rd w' B g l := by
  have hb : Below (g + 1) w w' := ⟨hg.gr.os, hg.gr.tape, hg.gr.output, hg.gr.size, fun k hk => hg.gr.block k (by have := h.lt; omega) (fun e => by have := (hv k e.symm).1; omega)⟩
  exact h.below hb (Nat.lt_succ_self _)
theorem gb_below {w V w' : World} {g : Nat} (h : w.grownBy V (some g)) (hb : Below w.heap.size V w') : w.grownBy w' (some g) :=
  ⟨hb.os.trans h.os, hb.tape.trans h.tape, hb.output.trans h.output, Nat.le_trans h.size hb.size, fun k hk hne => (hb.block k hk).trans (h.block k hk hne)⟩
theorem sl_one (V : World) (x : Int) (t : TypeId) : Sl (V.alloc (.cells #[.int .i64 x] t)) (V.heap.size + 1) 1 (.slice (some ⟨V.heap.size, 0, none⟩) 1 1) ([x].map intCells) :=
  Sl.new (rows := [[.int .i64 x]]) (Nat.lt_succ_self _) (fun j row hj k u hu => by
    match j, hj with
    | 0, hj =>
      have e : row = [.int .i64 x] := by simpa using hj.symm
      subst e
      match k, hu with
      | 0, hu => exact cell_new V _ _ _ 0 u rfl hu)
set_option maxRecDepth 100000 in
set_option maxHeartbeats 1000000 in
theorem rows64_any (f : FuncId) (hf : f = 53 ∨ f = 55 ∨ f = 56) (l : List Nat) (B g kk n : Nat) (val : List Nat → Int) (w : World) (h : Rd w B g l) (hr : Reads f B g kk val) (hn : n ≤ 5000) (hk : kk * n ≤ l.length) (hb : ∀ b ∈ l, b < 256) :
    Calls Try.prog 52 #[.int .i64 n, .func (.func f) #[.pointer (some ⟨g, 0, none⟩)] #[]] w fun e w' => ∃ A c, e = .returned (.slice A n c) ∧ OwnI w' w.heap.size 2 (.slice A n c) (vals kk val n l) ∧ Rd w' B g (l.drop (kk * n)) ∧ w.grownBy w' (some g) := by
  have HRD := Lib.hid hr
  have H := Lib.hid h
  have HBY := Lib.hid hb
  have hn0 : (0 : Int) ≤ (n : Int) := by omega
  have hn1 : (n : Int) ≤ 5000 := by omega
  clear hr h hb
  go_enter Try.func52, Try.ntmps52
  go_wp2_with fail
  go_loopw [5, 7] (fun u i wr => ∃ (k : Nat) (A : Option Addr) (c : Nat), k ≤ n ∧ i = .int .i64 k ∧ u = .slice A k c ∧ OwnI wr w.heap.size 2 (.slice A k c) (vals kk val k l) ∧ Rd wr B g (l.drop (kk * k)) ∧ w.grownBy wr (some g)) (fun _ i _ => n - (intOf i).toNat)
  case atStart => exact ⟨0, none, 0, Nat.zero_le _, rfl, rfl, World.ownsRow_nil _ _ _ _, by simpa using H.out, World.grownBy.refl _ _⟩
  case round =>
    obtain ⟨k, A, c, hkn, rfl, rfl, hown, hrd, hgr⟩ := hrel
    have HOW := Lib.hid hown; have HR := Lib.hid hrd; have HG := Lib.hid hgr
    clear hown hrd hgr
    by_cases hlt : k < n
    · have hk0 : (0 : Int) ≤ (k : Int) := by omega
      have hk1 : (k : Int) < (n : Int) := by omega
      have hkl : kk * k + kk ≤ l.length := by
        have : kk * (k + 1) ≤ kk * n := Nat.mul_le_mul_left _ hlt
        rw [Nat.mul_add, Nat.mul_one] at this; omega
      have HC : Hid (Calls Try.prog f #[.pointer (some ⟨g, 0, none⟩)] wr fun e w' => e = .returned (.int .i64 (val ((l.drop (kk * k)).take kk))) ∧ Rd w' B g ((l.drop (kk * k)).drop kk) ∧ wr.grownBy w' (some g)) := Lib.hid (HRD.out wr _ HR.out (by rw [List.length_drop]; omega) (fun b hx => HBY.out b (List.mem_of_mem_drop hx)))
      obtain ⟨x, hx⟩ : ∃ x, val ((l.drop (kk * k)).take kk) = x := ⟨_, rfl⟩
      rw [hx] at HC
      have HX := Lib.hid hx
      clear hx
      rcases hf with rfl | rfl | rfl
      all_goals
        go_wp2_with (first
          | (go_at_call 53; refine HC.out.mono ?_; clear HC; rintro e V ⟨rfl, hr, hg⟩; have HR2 := Lib.hid hr; have HG2 := Lib.hid (HG.out.trans hg); have HO2 := Lib.hid (HOW.out.other hg (by have := H.out.lt; omega)); clear hr hg)
          | (go_at_call 55; refine HC.out.mono ?_; clear HC; rintro e V ⟨rfl, hr, hg⟩; have HR2 := Lib.hid hr; have HG2 := Lib.hid (HG.out.trans hg); have HO2 := Lib.hid (HOW.out.other hg (by have := H.out.lt; omega)); clear hr hg)
          | (go_at_call 56; refine HC.out.mono ?_; clear HC; rintro e V ⟨rfl, hr, hg⟩; have HR2 := Lib.hid hr; have HG2 := Lib.hid (HG.out.trans hg); have HO2 := Lib.hid (HOW.out.other hg (by have := H.out.lt; omega)); clear hr hg)
          | (at_builtin; refine plain_append_ints_n (.tmp 9) (.tmp 12) 23 2 Try.underlying23 i64_info rfl rfl w.heap.size (V.heap.size + 1) (k + 1) _ _ (vals kk val k l) [x] rfl rfl (HO2.out.alloc _) (sl_one V x _) (by rw [vals_len]; show _ + 1 ≤ _; omega) (by have := HG2.out.size; simp; omega) (by simp [vals_len]) ?_; intro A6 c6 V6 hO hG; have HO6 := Lib.hid hO; have HG6 := Lib.hid hG; clear hO hG)
          | fail)
        have hbl : Below w.heap.size V V6 := ((Below.refl w.heap.size V).alloc HG2.out.size _).trans (growI_below (HO2.out.alloc _) HG6.out (Nat.le_refl _) (by have := HG2.out.size; simp; omega))
        refine ⟨⟨k + 1, A6, c6, hlt, by go_num, rfl, by rw [vals_snoc, HX.out]; exact HO6.out, ?_, gb_below HG2.out hbl⟩, by simp [intOf]; omega⟩
        rw [Nat.mul_add, Nat.mul_one, ← List.drop_drop]
        exact HR2.out.below hbl H.out.lt
    · have hk1 : ¬ (k : Int) < (n : Int) := by omega
      obtain rfl : k = n := by omega
      go_wp2_with fail
      go_ret
      exact ⟨_, _, rfl, HOW.out, HR.out, HG.out⟩
end Go.Proofs.Ytohpdpcjhmopbaa.Tz

/-! Layer 6 (tzif): rows of indices, and a row of a block, read. -/
namespace Go.Proofs.Ytohpdpcjhmopbaa.Tz
open Go.RowKit

set_option maxRecDepth 100000 in
set_option maxHeartbeats 1000000 in
theorem rowsN_any (l : List Nat) (B g kk n : Nat) (val : List Nat → Int) (w : World) (h : Rd w B g l) (hr : Reads 58 B g kk val) (hn : n ≤ 5000) (hk : kk * n ≤ l.length) (hb : ∀ b ∈ l, b < 256) :
    Calls Try.prog 57 #[.int .i64 n, .func (.func 58) #[.pointer (some ⟨g, 0, none⟩)] #[]] w fun e w' => ∃ A c, e = .returned (.slice A n c) ∧ OwnI w' w.heap.size 3 (.slice A n c) (vals kk val n l) ∧ Rd w' B g (l.drop (kk * n)) ∧ w.grownBy w' (some g) := by
  have HRD := Lib.hid hr
  have H := Lib.hid h
  have HBY := Lib.hid hb
  have hn0 : (0 : Int) ≤ (n : Int) := by omega
  have hn1 : (n : Int) ≤ 5000 := by omega
  clear hr h hb
  go_enter Try.func57, Try.ntmps57
  go_wp2_with fail
  go_loopw [5, 7] (fun u i wr => ∃ (k : Nat) (A : Option Addr) (c : Nat), k ≤ n ∧ i = .int .i64 k ∧ u = .slice A k c ∧ OwnI wr w.heap.size 3 (.slice A k c) (vals kk val k l) ∧ Rd wr B g (l.drop (kk * k)) ∧ w.grownBy wr (some g)) (fun _ i _ => n - (intOf i).toNat)
  case atStart => exact ⟨0, none, 0, Nat.zero_le _, rfl, rfl, World.ownsRow_nil _ _ _ _, by simpa using H.out, World.grownBy.refl _ _⟩
  case round =>
    obtain ⟨k, A, c, hkn, rfl, rfl, hown, hrd, hgr⟩ := hrel
    have HOW := Lib.hid hown; have HR := Lib.hid hrd; have HG := Lib.hid hgr
    clear hown hrd hgr
    by_cases hlt : k < n
    · have hk0 : (0 : Int) ≤ (k : Int) := by omega
      have hk1 : (k : Int) < (n : Int) := by omega
      have hkl : kk * k + kk ≤ l.length := by
        have : kk * (k + 1) ≤ kk * n := Nat.mul_le_mul_left _ hlt
        rw [Nat.mul_add, Nat.mul_one] at this; omega
      have HC : Hid (Calls Try.prog 58 #[.pointer (some ⟨g, 0, none⟩)] wr fun e w' => e = .returned (.int .i64 (val ((l.drop (kk * k)).take kk))) ∧ Rd w' B g ((l.drop (kk * k)).drop kk) ∧ wr.grownBy w' (some g)) := Lib.hid (HRD.out wr _ HR.out (by rw [List.length_drop]; omega) (fun b hx => HBY.out b (List.mem_of_mem_drop hx)))
      obtain ⟨x, hx⟩ : ∃ x, val ((l.drop (kk * k)).take kk) = x := ⟨_, rfl⟩
      rw [hx] at HC
      have HX := Lib.hid hx
      clear hx
      go_wp2_with (first
        | (go_at_call 58; refine HC.out.mono ?_; clear HC; rintro e V ⟨rfl, hr, hg⟩; have HR2 := Lib.hid hr; have HG2 := Lib.hid (HG.out.trans hg); have HO2 := Lib.hid (HOW.out.other hg (by have := H.out.lt; omega)); clear hr hg)
        | (at_builtin; refine plain_append_ints_n (.tmp 9) (.tmp 12) 24 3 Try.underlying24 int_info rfl rfl w.heap.size (V.heap.size + 1) (k + 1) _ _ (vals kk val k l) [x] rfl rfl (HO2.out.alloc _) (sl_one V x _) (by rw [vals_len]; show _ + 1 ≤ _; omega) (by have := HG2.out.size; simp; omega) (by simp [vals_len]) ?_; intro A6 c6 V6 hO hG; have HO6 := Lib.hid hO; have HG6 := Lib.hid hG; clear hO hG)
        | fail)
      have hbl : Below w.heap.size V V6 := ((Below.refl w.heap.size V).alloc HG2.out.size _).trans (growI_below (HO2.out.alloc _) HG6.out (Nat.le_refl _) (by have := HG2.out.size; simp; omega))
      refine ⟨⟨k + 1, A6, c6, hlt, by go_num, rfl, by rw [vals_snoc, HX.out]; exact HO6.out, ?_, gb_below HG2.out hbl⟩, by simp [intOf]; omega⟩
      rw [Nat.mul_add, Nat.mul_one, ← List.drop_drop]
      exact HR2.out.below hbl H.out.lt
    · have hk1 : ¬ (k : Int) < (n : Int) := by omega
      obtain rfl : k = n := by omega
      go_wp2_with fail
      go_ret
      exact ⟨_, _, rfl, HOW.out, HR.out, HG.out⟩
/-- A row of a block. -/
def rowOff (l : List Nat) : Int := wrap64 (wrap32 (be (l.take 4)))
def rowDst (l : List Nat) : Int := be ((l.drop 4).take 1)
def rowPlace (l : List Nat) : Int := be ((l.drop 5).take 1)
set_option maxRecDepth 100000 in
set_option maxHeartbeats 1000000 in
theorem row_any (l : List Nat) (B g : Nat) (w : World) (h : Rd w B g l) (hk : 6 ≤ l.length) (hb : ∀ b ∈ l, b < 256) :
    Calls Try.prog 60 #[.pointer (some ⟨g, 0, none⟩)] w fun e w' => e = .returned (.agg #[.int .i64 (rowOff l), .int .i64 (rowDst l), .int .i64 (rowPlace l)]) ∧ Rd w' B g (l.drop 6) ∧ w.grownBy w' (some g) := by
  obtain ⟨P, hP⟩ : ∃ P, w.heap.size = P := ⟨_, rfl⟩
  obtain ⟨W0, hW0⟩ : ∃ W0, w.alloc (.cells #[.int .i64 0, .int .i64 0, .int .i64 0] 108) = W0 := ⟨_, rfl⟩
  have hgP : g < P := by rw [← hP]; exact h.lt
  have HP := Lib.hid hP
  have hR0 : Rd W0 B g l := h.below (C := P) (by rw [← hW0, ← hP]; exact (Below.refl _ _).alloc (Nat.le_refl _) _) hgP
  have HG0 : Hid (w.grownBy W0 (some g)) := Lib.hid (by rw [← hW0]; exact World.grownBy_alloc w _ _)
  have HS0 : Hid (W0.heap.size = P + 1) := Lib.hid (by rw [← hW0]; simp [hP])
  have HC0 : Hid (∀ i u, (#[.int .i64 0, .int .i64 0, .int .i64 0] : Array Value)[i]? = some u → W0.cell? ⟨P, i, none⟩ = some u) := Lib.hid fun i u hu => by rw [← hW0]; exact cell_new w _ _ _ i u hP hu
  have HF0 : Hid (∀ i, W0.frozen? ⟨P, i, none⟩ = false) := Lib.hid fun i => by rw [← hW0, ← hP]; exact frozen_of_row _ _ i _ _ (heap_alloc_new _ _)
  have H1 : Hid (Calls Try.prog 56 #[.pointer (some ⟨g, 0, none⟩)] W0 fun e w' => e = .returned (.int .i64 (rowOff l)) ∧ Rd w' B g (l.drop 4) ∧ W0.grownBy w' (some g)) := Lib.hid (four_any l B g W0 hR0 (by omega) hb)
  have H2 : Hid (∀ V, Rd V B g (l.drop 4) → Calls Try.prog 58 #[.pointer (some ⟨g, 0, none⟩)] V fun e w' => e = .returned (.int .i64 (rowDst l)) ∧ Rd w' B g (l.drop 5) ∧ V.grownBy w' (some g)) := Lib.hid fun V hV => by
    have := one_any (l.drop 4) B g V hV (by rw [List.length_drop]; omega) (fun b hx => hb b (List.mem_of_mem_drop hx))
    rwa [List.drop_drop] at this
  have H3 : Hid (∀ V, Rd V B g (l.drop 5) → Calls Try.prog 58 #[.pointer (some ⟨g, 0, none⟩)] V fun e w' => e = .returned (.int .i64 (rowPlace l)) ∧ Rd w' B g (l.drop 6) ∧ V.grownBy w' (some g)) := Lib.hid fun V hV => by
    have := one_any (l.drop 5) B g V hV (by rw [List.length_drop]; omega) (fun b hx => hb b (List.mem_of_mem_drop hx))
    rwa [List.drop_drop] at this
  have HKE : Hid (∀ V, W0.grownBy V (some g) → (∀ i u, (#[.int .i64 0, .int .i64 0, .int .i64 0] : Array Value)[i]? = some u → V.cell? ⟨P, i, none⟩ = some u) ∧ (∀ i, V.frozen? ⟨P, i, none⟩ = false) ∧ P < V.heap.size) := Lib.hid fun V hV => by
    have hblk : V.heap[P]? = W0.heap[P]? := hV.block P (by rw [HS0.out]; omega) (fun e => by injection e with e; omega)
    exact ⟨fun i u hu => (World.cell?_of_block (a := ⟨P, i, none⟩) hblk).trans (HC0.out i u hu), fun i => (World.frozen?_of_block (a := ⟨P, i, none⟩) hblk).trans (HF0.out i), by have := hV.size; rw [HS0.out] at this; omega⟩
  obtain ⟨o, ho⟩ : ∃ o, rowOff l = o := ⟨_, rfl⟩
  obtain ⟨d, hd⟩ : ∃ d, rowDst l = d := ⟨_, rfl⟩
  obtain ⟨p, hp⟩ : ∃ p, rowPlace l = p := ⟨_, rfl⟩
  rw [ho] at H1 ⊢
  rw [hd] at H2 ⊢
  rw [hp] at H3 ⊢
  clear ho hd hp h hb hk hR0
  go_enter Try.func60, Try.ntmps60
  go_wp2_with fail
  refine H1.out.mono ?_
  rintro e V1 ⟨rfl, hr, hg⟩
  have HR1 := Lib.hid hr; have HG1 := Lib.hid hg
  clear H1 hr hg
  go_wp2_with fail
  refine (H2.out _ HR1.out).mono ?_
  rintro e V2 ⟨rfl, hr, hg⟩
  have HR2 := Lib.hid hr; have HG2 := Lib.hid (HG1.out.trans hg)
  clear H2 hr hg
  go_wp2_with fail
  refine (H3.out _ HR2.out).mono ?_
  rintro e V3 ⟨rfl, hr, hg⟩
  have HR3 := Lib.hid hr; have HG3 := Lib.hid (HG2.out.trans hg)
  clear H3 hr hg
  obtain ⟨hc, hf, hlt⟩ := HKE.out _ HG3.out
  have c0 := hc 0 _ rfl; have c1 := hc 1 _ rfl; have c2 := hc 2 _ rfl
  have f0 := hf 0; have f1 := hf 1; have f2 := hf 2
  clear hc hf
  go_wp2_with fail
  have hbl : Below P V3 (((V3.setCell ⟨P, 0, none⟩ (.int .i64 o)).setCell ⟨P, 1, none⟩ (.int .i64 d)).setCell ⟨P, 2, none⟩ (.int .i64 p)) :=
    (((Below.refl P V3).setCell (Nat.le_refl _) _).setCell (Nat.le_refl _) _).setCell (Nat.le_refl _) _
  refine bodyPost_ret (v := .agg #[.int .i64 o, .int .i64 d, .int .i64 p]) (by simp [results, Try.results60, go_sem, c0, c1, c2]) rfl ⟨rfl, HR3.out.below hbl hgP, gb_below (HG0.out.trans HG3.out) (by rw [HP.out]; exact hbl)⟩
end Go.Proofs.Ytohpdpcjhmopbaa.Tz

/-! Layer 6 (tzif): all rows of a block, read. -/
namespace Go.Proofs.Ytohpdpcjhmopbaa.Tz
open Go.RowKit

structure Rw where
  (off dst place : Int)
def rwCells (r : Rw) : List Value := [.int .i64 r.off, .int .i64 r.dst, .int .i64 r.place]
def rwOf (l : List Nat) : Rw := ⟨rowOff l, rowDst l, rowPlace l⟩
/-- The rows of n types. -/
def rws : Nat → List Nat → List Rw
  | 0, _ => []
  | n + 1, l => rwOf l :: rws n (l.drop 6)
theorem rws_len : ∀ (n : Nat) (l : List Nat), (rws n l).length = n
  | 0, _ => rfl
  | n + 1, l => by unfold rws; rw [List.length_cons, rws_len n]
theorem rws_snoc : ∀ (n : Nat) (l : List Nat), rws (n + 1) l = rws n l ++ [rwOf (l.drop (6 * n))]
  | 0, l => by simp [rws]
  | n + 1, l => by
    have h := rws_snoc n (l.drop 6)
    rw [show rws (n + 1 + 1) l = rwOf l :: rws (n + 1) (l.drop 6) from rfl, h]
    rw [show rws (n + 1) l = rwOf l :: rws n (l.drop 6) from rfl, List.drop_drop, List.cons_append, Nat.mul_add, Nat.mul_one, Nat.add_comm 6 (6 * n)]
theorem rw_info : (Try.prog.info? 108).map (fun i => (i.zero, i.size, i.bytes)) = some (some (.agg #[.int .i64 0, .int .i64 0, .int .i64 0]), 3, 24) := by kernel_rfl
/-- Rows of the call's own. -/
def OwnW (w : World) (base : Nat) (v : Value) (l : List Rw) : Prop := w.ownsRow base 108 3 v l.length (l.flatMap rwCells)
theorem flat_rw : ∀ {l : List Rw} {j k : Nat} {t : Rw} {u : Value}, l[j]? = some t → (rwCells t)[k]? = some u → (l.flatMap rwCells)[j * 3 + k]? = some u
  | [], _, _, _, _, h, _ => by simp at h
  | a :: l, 0, k, t, u, h, hu => by
    have e : a = t := by simpa using h
    subst e
    have hk : k < 3 := by have := (List.getElem?_eq_some_iff.1 hu).1; simpa [rwCells] using this
    rw [List.flatMap_cons, List.getElem?_append_left (by simp [rwCells]; omega), Nat.zero_mul, Nat.zero_add]; exact hu
  | a :: l, j + 1, k, t, u, h, hu => by
    rw [List.flatMap_cons, List.getElem?_append_right (by simp [rwCells]; omega)]
    have : (j + 1) * 3 + k - (rwCells a).length = j * 3 + k := by simp [rwCells]; omega
    rw [this]
    exact flat_rw (by simpa using h) hu
section
variable {w w' : World} {base : Nat} {v : Value} {l : List Rw}
theorem OwnW.lt (h : OwnW w base v l) (k : Nat) (hk : v.ownBlock = some k) : base ≤ k ∧ k < w.heap.size := World.ownsRow.lt h k hk
theorem OwnW.keep (h : OwnW w base v l) (hb : Below w.heap.size w w') : OwnW w' base v l :=
  World.ownsRow.kept h (row := none) ⟨hb.os, hb.tape, hb.output, hb.size, fun k hk _ => hb.block k hk⟩ (by cases hv : v.ownBlock <;> simp)
theorem OwnW.other {g : Nat} (h : OwnW w base v l) (hg : w.grownBy w' (some g)) (hb : g < base) : OwnW w' base v l :=
  World.ownsRow.kept h hg (by
    cases hv : v.ownBlock with
    | none => exact .inl rfl
    | some k => exact .inr (fun e => by injection e with e; have := (h.lt k hv).1; omega))
theorem OwnW.form (h : OwnW w base v l) : ∃ A c, v = .slice A l.length c := by
  rcases h.2 with ⟨rfl, h0⟩ | ⟨g, cap, cur, rfl, _⟩
  · exact ⟨none, 0, by rw [h0]⟩
  · exact ⟨_, _, rfl⟩
theorem OwnW.sl (h : OwnW w base v l) {B : Nat} (hB : w.heap.size ≤ B) : Sl w B 3 v (l.map rwCells) := by
  refine ⟨?_, fun j row hj => ?_⟩
  · obtain ⟨A, c, e⟩ := h.form
    exact ⟨A, c, by rw [List.length_map]; exact e⟩
  · rw [List.getElem?_map] at hj
    cases hx : l[j]? with
    | none => rw [hx] at hj; cases hj
    | some t =>
      rw [hx] at hj
      have e : row = rwCells t := by injection hj with hj; exact hj.symm
      subst e
      have hlt : j < l.length := (List.getElem?_eq_some_iff.1 hx).1
      obtain ⟨g, cap, cur, rfl, hg⟩ : ∃ g cap cur, v = .slice (some ⟨g, 0, none⟩) l.length cap ∧ w.heap[g]? = some (.cells cur 108 (0, 0)) := by
        rcases h.2 with ⟨_, h0⟩ | ⟨g, cap, cur, e, hbg, hg, _⟩
        · omega
        · exact ⟨g, cap, cur, e, hg⟩
      have hgl := (Array.getElem?_eq_some_iff.1 hg).1
      refine ⟨g, 0, cap, by rw [List.length_map], by omega, fun k u hu => ?_⟩
      have := World.ownsRow.cells h (g := g) rfl (j * 3 + k) u (flat_rw hx hu)
      rw [Own_add] at this
      rw [Nat.zero_add]; exact this
end
set_option maxRecDepth 100000 in
theorem plain_append_rw {ops : Array Oper} {rest : List Oper} {o : Oper} {a : Act} {w : World} {Q : Exit → Act → World → Prop} (s x : Operand) (hgd : o.guard = none)
    (ho : o.op = .call { callee := .builtin .append, args := #[s, x], argTypes := #[105, 105] }) (base n : Nat) (v : Value) (l : List Rw) (r : Rw) (g : Nat)
    (hs : a.eval s = v) (hx : a.eval x = .slice (some ⟨g, 0, none⟩) 1 1) (hown : OwnW w base v l) (hz : ∀ j u, (rwCells r)[j]? = some u → w.cell? ((⟨g, 0, none⟩ : Addr).add j) = some u) (hlen : l.length ≤ 1000000) (hbase : base ≤ w.heap.size) (hn : l.length + 1 = n)
    (h : ∀ A c w', OwnW w' base (.slice A n c) (l ++ [r]) → Grew w w' v (.slice A n c) → wpList Try.prog ops Q rest (a.put o.dst (.slice A n c)) w') : wpList Try.prog ops Q (o :: rest) a w := by
  obtain ⟨i, hi, hz0, hz1, hz2⟩ := info_parts rw_info
  refine wpList_append_own_at w hgd s x 105 ho base 108 i _ 3 24 Try.underlying105 hi hz0 hz1 hz2 rfl (by decide) v l.length (l.flatMap rwCells) hs hown ⟨g, 0, none⟩ 1 1 (rwCells r) hx (by simp [rwCells]) hz (by simp [rwCells, Value.oneCell']) (by unfold maxLen; omega) (by omega) hbase ?_
  intro v' w' hown' hgr _ hat
  have hO : OwnW w' base v' (l ++ [r]) := by
    unfold OwnW
    rw [List.length_append, List.flatMap_append]
    simpa using hown'
  obtain ⟨A, c, e⟩ := hO.form
  rw [List.length_append, List.length_singleton, hn] at e
  subst e
  exact h A c w' hO ⟨hgr, hat.imp id fun e => ⟨_, e, Nat.le_refl _⟩⟩
theorem rw_cells (W : World) (r : Rw) (ty : TypeId) (g : Nat) (hg : W.heap.size = g) : ∀ j u, (rwCells r)[j]? = some u → (W.alloc (.cells #[.int .i64 r.off, .int .i64 r.dst, .int .i64 r.place] ty)).cell? ((⟨g, 0, none⟩ : Addr).add j) = some u := by
  intro j u hu
  rw [Own_add]
  exact cell_new W _ ty g j u hg (by rw [List.getElem?_toArray]; exact hu)
theorem growW_below {w w' : World} {base B : Nat} {v v' : Value} {l : List Rw} (h : OwnW w base v l) (hg : Grew w w' v v') (hB : B ≤ base) (hS : B ≤ w.heap.size) : Below B w w' :=
  ⟨hg.gr.os, hg.gr.tape, hg.gr.output, hg.gr.size, fun k hk => hg.gr.block k (by omega) (fun e => by have := (h.lt k e.symm).1; omega)⟩
theorem OwnW.alloc {w : World} {base : Nat} {v : Value} {l : List Rw} (h : OwnW w base v l) (o : Obj) : OwnW (w.alloc o) base v l := World.ownsRow.alloc h o
set_option maxRecDepth 100000 in
set_option maxHeartbeats 1000000 in
theorem rowsR_any (l : List Nat) (B g n : Nat) (w : World) (h : Rd w B g l) (hn : n ≤ 5000) (hk : 6 * n ≤ l.length) (hb : ∀ b ∈ l, b < 256) :
    Calls Try.prog 59 #[.int .i64 n, .func (.func 60) #[.pointer (some ⟨g, 0, none⟩)] #[]] w fun e w' => ∃ A c, e = .returned (.slice A n c) ∧ OwnW w' w.heap.size (.slice A n c) (rws n l) ∧ Rd w' B g (l.drop (6 * n)) ∧ w.grownBy w' (some g) := by
  have H := Lib.hid h
  have HBY := Lib.hid hb
  have hn0 : (0 : Int) ≤ (n : Int) := by omega
  have hn1 : (n : Int) ≤ 5000 := by omega
  clear h hb
  go_enter Try.func59, Try.ntmps59
  go_wp2_with fail
  go_loopw [5, 7] (fun u i wr => ∃ (k : Nat) (A : Option Addr) (c : Nat), k ≤ n ∧ i = .int .i64 k ∧ u = .slice A k c ∧ OwnW wr w.heap.size (.slice A k c) (rws k l) ∧ Rd wr B g (l.drop (6 * k)) ∧ w.grownBy wr (some g)) (fun _ i _ => n - (intOf i).toNat)
  case atStart => exact ⟨0, none, 0, Nat.zero_le _, rfl, rfl, World.ownsRow_nil _ _ _ _, by simpa using H.out, World.grownBy.refl _ _⟩
  case round =>
    obtain ⟨k, A, c, hkn, rfl, rfl, hown, hrd, hgr⟩ := hrel
    have HOW := Lib.hid hown; have HR := Lib.hid hrd; have HG := Lib.hid hgr
    clear hown hrd hgr
    by_cases hlt : k < n
    · have hk0 : (0 : Int) ≤ (k : Int) := by omega
      have hk1 : (k : Int) < (n : Int) := by omega
      obtain ⟨r, hr⟩ : ∃ r, rwOf (l.drop (6 * k)) = r := ⟨_, rfl⟩
      have HC : Hid (Calls Try.prog 60 #[.pointer (some ⟨g, 0, none⟩)] wr fun e w' => e = .returned (.agg #[.int .i64 r.off, .int .i64 r.dst, .int .i64 r.place]) ∧ Rd w' B g ((l.drop (6 * k)).drop 6) ∧ wr.grownBy w' (some g)) := Lib.hid (by
        have := row_any (l.drop (6 * k)) B g wr HR.out (by rw [List.length_drop]; omega) (fun b hx => HBY.out b (List.mem_of_mem_drop hx))
        rw [← hr]; exact this)
      have HRR := Lib.hid hr
      clear hr
      go_wp2_with (first
        | (go_at_call 60; refine HC.out.mono ?_; clear HC; rintro e V ⟨rfl, hr, hg⟩; have HR2 := Lib.hid hr; have HG2 := Lib.hid (HG.out.trans hg); have HO2 := Lib.hid (HOW.out.other hg (by have := H.out.lt; omega)); clear hr hg)
        | (at_builtin; refine plain_append_rw (.tmp 9) (.tmp 12) rfl rfl w.heap.size (k + 1) _ (rws k l) r V.heap.size rfl rfl (HO2.out.alloc _) (rw_cells V r _ _ rfl) (by rw [rws_len]; omega) (by have := HG2.out.size; simp; omega) (by rw [rws_len]) ?_; intro A6 c6 V6 hO hG; have HO6 := Lib.hid hO; have HG6 := Lib.hid hG; clear hO hG)
        | fail)
      have hbl : Below w.heap.size V V6 := ((Below.refl w.heap.size V).alloc HG2.out.size _).trans (growW_below (HO2.out.alloc _) HG6.out (Nat.le_refl _) (by have := HG2.out.size; simp; omega))
      refine ⟨⟨k + 1, A6, c6, hlt, by go_num, rfl, by rw [rws_snoc, HRR.out]; exact HO6.out, ?_, gb_below HG2.out hbl⟩, by simp [intOf]; omega⟩
      rw [Nat.mul_add, Nat.mul_one, ← List.drop_drop]
      exact HR2.out.below hbl H.out.lt
    · have hk1 : ¬ (k : Int) < (n : Int) := by omega
      obtain rfl : k = n := by omega
      go_wp2_with fail
      go_ret
      exact ⟨_, _, rfl, HOW.out, HR.out, HG.out⟩
end Go.Proofs.Ytohpdpcjhmopbaa.Tz

/-! Layer 6 (tzif): a head, read. -/
namespace Go.Proofs.Ytohpdpcjhmopbaa.Tz
open Go.RowKit

def natsI (l : List Nat) : List Int := l.map fun (n : Nat) => (n : Int)
theorem SB.text {w : World} {B : Nat} {A : Option Addr} {n c : Nat} {l : List Nat} (h : SB w B A n c l) (h0 : 0 < n) : (convert 33 9 (.slice A n c)).run Try.prog w = .ok (.string (strOfNums (natsI l))) w := by
  obtain ⟨h1, h2, _, h4⟩ := h
  rcases h4 with ⟨_, e⟩ | ⟨g, off, rfl, _, hc⟩
  · omega
  · exact run_convert_bytes_arg w 33 5 Try.underlying33 Try.underlying5 g off n c (natsI l) (by unfold natsI; simpa using h1) (fun i hi => by
      have h3 := hc i (l[i]'(by omega)) (List.getElem?_eq_getElem (by omega))
      rw [h3]
      unfold natsI
      simp [List.getD_eq_getElem?_getD, List.getElem?_map, List.getElem?_eq_getElem (show i < l.length by omega), by8]) 9 Try.underlying9
/-- What a head tells, its bytes being there. -/
def hdOf (l : List Nat) : Hd := ⟨l.getD 4 0, be ((l.drop 20).take 4), be ((l.drop 24).take 4), be ((l.drop 28).take 4), be ((l.drop 32).take 4), be ((l.drop 36).take 4), be ((l.drop 40).take 4)⟩
def hdGood (l : List Nat) : Bool := decide (44 ≤ l.length) && decide (l.take 4 = [84, 90, 105, 102]) && (decide (l.getD 4 0 = 0) || decide (l.getD 4 0 = 50) || decide (l.getD 4 0 = 51))
theorem magic_text (l : List Nat) (h : l.length = 4) (hb : ∀ b ∈ l, b < 256) : strOfNums (natsI l) = ⟨#[84, 90, 105, 102]⟩ ↔ l = [84, 90, 105, 102] := by
  match l, h with
  | [a, b, c, d], _ =>
    have h1 := hb a (by simp); have h2 := hb b (by simp); have h3 := hb c (by simp); have h4 := hb d (by simp)
    constructor
    · intro e
      have f : ∀ x y : Nat, x < 256 → y < 256 → UInt8.ofNat x = UInt8.ofNat y → x = y := by
        intro x y hx hy hxy
        have := congrArg UInt8.toNat hxy
        simp at this
        omega
      simp [strOfNums, natsI] at e
      obtain ⟨e1, e2, e3, e4⟩ := e
      rw [f a 84 h1 (by omega) e1, f b 90 h2 (by omega) e2, f c 105 h3 (by omega) e3, f d 102 h4 (by omega) e4]
    · intro e
      rw [e]; decide +kernel
set_option maxRecDepth 100000 in
set_option maxHeartbeats 2000000 in
theorem head_a (l : List Nat) (B g : Nat) (w : World) (h : Rd w B g l) (h44 : l.length < 44) :
    Calls Try.prog 44 #[.pointer (some ⟨g, 0, none⟩)] w fun e w' => e = .returned (.tuple #[noHead, .bool false]) ∧ w.grownBy w' (some g) := by
  obtain ⟨P, hP⟩ : ∃ P, w.heap.size = P := ⟨_, rfl⟩
  obtain ⟨W0, hW0⟩ : ∃ W0, w.alloc (.cells #[.int .u8 0, .int .i64 0, .int .i64 0, .int .i64 0, .int .i64 0, .int .i64 0, .int .i64 0] 60) = W0 := ⟨_, rfl⟩
  have hgP : g < P := by rw [← hP]; exact h.lt
  have HP := Lib.hid hP
  have hR0 : Rd W0 B g l := h.below (C := P) (by rw [← hW0, ← hP]; exact (Below.refl _ _).alloc (Nat.le_refl _) _) hgP
  have HR0 := Lib.hid hR0
  have HG0 : Hid (w.grownBy W0 (some g)) := Lib.hid (by rw [← hW0]; exact World.grownBy_alloc w _ _)
  have HS0 : Hid (W0.heap.size = P + 1) := Lib.hid (by rw [← hW0]; simp [hP])
  have HC0 : Hid (∀ i u, (#[.int .u8 0, .int .i64 0, .int .i64 0, .int .i64 0, .int .i64 0, .int .i64 0, .int .i64 0] : Array Value)[i]? = some u → W0.cell? ⟨P, i, none⟩ = some u) := Lib.hid fun i u hu => by rw [← hW0]; exact cell_new w _ _ _ i u hP hu
  have HF0 : Hid (∀ i, W0.frozen? ⟨P, i, none⟩ = false) := Lib.hid fun i => by rw [← hW0, ← hP]; exact frozen_of_row _ _ i _ _ (heap_alloc_new _ _)
  have HKE : Hid (∀ V, W0.grownBy V (some g) → (∀ i u, (#[.int .u8 0, .int .i64 0, .int .i64 0, .int .i64 0, .int .i64 0, .int .i64 0, .int .i64 0] : Array Value)[i]? = some u → V.cell? ⟨P, i, none⟩ = some u) ∧ (∀ i, V.frozen? ⟨P, i, none⟩ = false) ∧ P < V.heap.size) := Lib.hid fun V hV => by
    have hblk : V.heap[P]? = W0.heap[P]? := hV.block P (by rw [HS0.out]; omega) (fun e => by injection e with e; omega)
    exact ⟨fun i u hu => (World.cell?_of_block (a := ⟨P, i, none⟩) hblk).trans (HC0.out i u hu), fun i => (World.frozen?_of_block (a := ⟨P, i, none⟩) hblk).trans (HF0.out i), by have := hV.size; rw [HS0.out] at this; omega⟩
  have H1 : Hid (Calls Try.prog 46 #[.pointer (some ⟨g, 0, none⟩), .int .i64 44] W0 fun e w' => e = .returned (.bool false) ∧ W0 = w') := Lib.hid (by
    have := has_any l B g 44 W0 hR0
    rwa [show decide ((44 : Int) ≤ (l.length : Int)) = false by simp; omega] at this)
  have hk := HKE.out _ (World.grownBy.refl W0 _)
  have c0 := hk.1 0 _ rfl
  have c1 := hk.1 1 _ rfl
  have c2 := hk.1 2 _ rfl
  have c3 := hk.1 3 _ rfl
  have c4 := hk.1 4 _ rfl
  have c5 := hk.1 5 _ rfl
  have c6 := hk.1 6 _ rfl
  have f0 := hk.2.1 0
  have f1 := hk.2.1 1
  have f2 := hk.2.1 2
  have f3 := hk.2.1 3
  have f4 := hk.2.1 4
  have f5 := hk.2.1 5
  have f6 := hk.2.1 6
  have hlt := hk.2.2
  clear hk
  clear hR0 h h44
  go_enter Try.func44, Try.ntmps44
  go_wp2_with (first
    | (go_at_call 46; refine H1.out.mono ?_; clear H1; rintro e V0 ⟨rfl, rfl⟩)
    | fail)
  exact bodyPost_ret (v := .tuple #[noHead, .bool false]) (by simp [results, Try.results44, go_sem, noHead, c0, c1, c2, c3, c4, c5, c6]) rfl ⟨rfl, gb_below (HG0.out) (by rw [HP.out]; exact (((((((Below.refl P W0).setCell (Nat.le_refl _) _).setCell (Nat.le_refl _) _).setCell (Nat.le_refl _) _).setCell (Nat.le_refl _) _).setCell (Nat.le_refl _) _).setCell (Nat.le_refl _) _).setCell (Nat.le_refl _) _)⟩
set_option maxRecDepth 100000 in
set_option maxHeartbeats 2000000 in
theorem head_b (l : List Nat) (B g : Nat) (w : World) (h : Rd w B g l) (hb : ∀ b ∈ l, b < 256) (h44 : 44 ≤ l.length) (hm : l.take 4 ≠ [84, 90, 105, 102]) :
    Calls Try.prog 44 #[.pointer (some ⟨g, 0, none⟩)] w fun e w' => e = .returned (.tuple #[noHead, .bool false]) ∧ w.grownBy w' (some g) := by
  obtain ⟨P, hP⟩ : ∃ P, w.heap.size = P := ⟨_, rfl⟩
  obtain ⟨W0, hW0⟩ : ∃ W0, w.alloc (.cells #[.int .u8 0, .int .i64 0, .int .i64 0, .int .i64 0, .int .i64 0, .int .i64 0, .int .i64 0] 60) = W0 := ⟨_, rfl⟩
  have hgP : g < P := by rw [← hP]; exact h.lt
  have HP := Lib.hid hP
  have hR0 : Rd W0 B g l := h.below (C := P) (by rw [← hW0, ← hP]; exact (Below.refl _ _).alloc (Nat.le_refl _) _) hgP
  have HR0 := Lib.hid hR0
  have HG0 : Hid (w.grownBy W0 (some g)) := Lib.hid (by rw [← hW0]; exact World.grownBy_alloc w _ _)
  have HS0 : Hid (W0.heap.size = P + 1) := Lib.hid (by rw [← hW0]; simp [hP])
  have HC0 : Hid (∀ i u, (#[.int .u8 0, .int .i64 0, .int .i64 0, .int .i64 0, .int .i64 0, .int .i64 0, .int .i64 0] : Array Value)[i]? = some u → W0.cell? ⟨P, i, none⟩ = some u) := Lib.hid fun i u hu => by rw [← hW0]; exact cell_new w _ _ _ i u hP hu
  have HF0 : Hid (∀ i, W0.frozen? ⟨P, i, none⟩ = false) := Lib.hid fun i => by rw [← hW0, ← hP]; exact frozen_of_row _ _ i _ _ (heap_alloc_new _ _)
  have HKE : Hid (∀ V, W0.grownBy V (some g) → (∀ i u, (#[.int .u8 0, .int .i64 0, .int .i64 0, .int .i64 0, .int .i64 0, .int .i64 0, .int .i64 0] : Array Value)[i]? = some u → V.cell? ⟨P, i, none⟩ = some u) ∧ (∀ i, V.frozen? ⟨P, i, none⟩ = false) ∧ P < V.heap.size) := Lib.hid fun V hV => by
    have hblk : V.heap[P]? = W0.heap[P]? := hV.block P (by rw [HS0.out]; omega) (fun e => by injection e with e; omega)
    exact ⟨fun i u hu => (World.cell?_of_block (a := ⟨P, i, none⟩) hblk).trans (HC0.out i u hu), fun i => (World.frozen?_of_block (a := ⟨P, i, none⟩) hblk).trans (HF0.out i), by have := hV.size; rw [HS0.out] at this; omega⟩
  have H1 : Hid (Calls Try.prog 46 #[.pointer (some ⟨g, 0, none⟩), .int .i64 44] W0 fun e w' => e = .returned (.bool true) ∧ W0 = w') := Lib.hid (by
    have := has_any l B g 44 W0 hR0
    rwa [show decide ((44 : Int) ≤ (l.length : Int)) = true by simp; omega] at this)
  obtain ⟨S, hS⟩ : ∃ S, strOfNums (natsI (l.take 4)) = S := ⟨_, rfl⟩
  have hne : S ≠ ⟨#[84, 90, 105, 102]⟩ := fun e => hm ((magic_text (l.take 4) (by rw [List.length_take]; omega) (fun b hx => hb b (List.mem_of_mem_take hx))).1 (hS.trans e))
  have HT1 : Hid (Calls Try.prog 47 #[.pointer (some ⟨g, 0, none⟩), .int .i64 4] W0 fun e w' => ∃ A c, e = .returned (.slice A 4 c) ∧ (convert 33 9 (.slice A 4 c)).run Try.prog w' = .ok (.string S) w' ∧ Rd w' B g (l.drop 4) ∧ W0.grownBy w' (some g)) := Lib.hid (by
    refine (take_any l B g 4 W0 HR0.out (by omega)).mono ?_
    rintro e w' ⟨A, c, he, h1, h2, h3⟩
    exact ⟨A, c, he, by rw [← hS]; exact h1.text (by omega), h2, h3⟩)
  have n1 : S.toList ≠ [84, 90, 105, 102] := fun e => toList_ne hne (by rw [e]; decide +kernel)
  have n2 : (S.toList == [84, 90, 105, 102]) = false := by simpa using n1
  have n3 : (S.toList != [84, 90, 105, 102]) = true := by simpa using n1
  have n4 := toList_ne hne
  clear hR0 h h44 hm hb hS hne
  go_enter Try.func44, Try.ntmps44
  go_wp2_with (first
    | (go_at_call 46; refine H1.out.mono ?_; clear H1; rintro e V0 ⟨rfl, rfl⟩)
    | (go_at_call 47; refine HT1.out.mono ?_; clear HT1; rintro e V1 ⟨A1, c1v, rfl, hcv, hr, hg⟩; have HR1 := Lib.hid hr; have HG1 := Lib.hid hg; clear hr hg; have hk := HKE.out _ HG1.out; have c0 := hk.1 0 _ rfl; have c1 := hk.1 1 _ rfl; have c2 := hk.1 2 _ rfl; have c3 := hk.1 3 _ rfl; have c4 := hk.1 4 _ rfl; have c5 := hk.1 5 _ rfl; have c6 := hk.1 6 _ rfl; have f0 := hk.2.1 0; have f1 := hk.2.1 1; have f2 := hk.2.1 2; have f3 := hk.2.1 3; have f4 := hk.2.1 4; have f5 := hk.2.1 5; have f6 := hk.2.1 6; have hlt := hk.2.2; clear hk)
    | fail)
  exact bodyPost_ret (v := .tuple #[noHead, .bool false]) (by simp [results, Try.results44, go_sem, noHead, c0, c1, c2, c3, c4, c5, c6]) rfl ⟨rfl, gb_below (HG0.out.trans HG1.out) (by rw [HP.out]; exact (((((((Below.refl P V1).setCell (Nat.le_refl _) _).setCell (Nat.le_refl _) _).setCell (Nat.le_refl _) _).setCell (Nat.le_refl _) _).setCell (Nat.le_refl _) _).setCell (Nat.le_refl _) _).setCell (Nat.le_refl _) _)⟩
end Go.Proofs.Ytohpdpcjhmopbaa.Tz
