/-
  The walk of the law TimespanSums.
-/
import Derived.Test.YtcllimfaoajapaaDoorTimespanBackWalk
namespace Go.Proofs.YtcllimfaoajapaaDoor.Ts
open Go.RowKit

theorem Tells.parsed_any {l : List UInt8} {n : Nat} (h : Tells l n) {Z1 Z2 : List UInt8} (h1 : ∀ c ∈ Z1, bl c = true) (h2 : ∀ c ∈ Z2, bl c = true) : Ts.parsed (Z1 ++ l ++ Z2) = if 9223372036854775807 ≤ n then (0, 6) else ((n : Int), 0) := by
  obtain ⟨d, Y, hd, hdg⟩ := h.head
  have ht : trim (Z1 ++ l ++ Z2) = l := trim_pad h1 h2 ⟨d, Y, hd, (dg_lt hdg).2⟩ h.last
  have hnv : l ≠ never := by
    rw [hd]; intro e; unfold never at e
    rw [(List.cons.inj e).1] at hdg; exact absurd hdg (by decide)
  unfold Ts.parsed
  rw [ht, if_neg hnv]
  unfold spanOf
  rw [if_neg (by rw [hd]; simp), show spanF l.length l = some n from h.sum]
theorem tells_any (x : Nat) (h : x < 9223372036854775807) : Tells (textL (x : Int)) x := by
  unfold textL
  rw [if_neg (by omega)]
  by_cases h2 : (x : Int) = 0
  · rw [if_pos h2]
    have : x = 0 := by omega
    subst this
    exact ⟨⟨48, [], rfl, by decide⟩, ⟨[], 48, rfl, by decide⟩, by decide⟩
  · rw [if_neg h2, if_neg (by omega)]
    exact tells_text x (by omega)
/-- So often over. -/
def Times (x j : Nat) (al : List UInt8) : Prop := (j = 0 ∧ al = []) ∨ (0 < j ∧ ∃ T, al = T ++ [9] ∧ Tells T (x * j))
theorem Times.step {l : List UInt8} {x j : Nat} {al : List UInt8} (hl : Tells l x) (h : Times x j al) : Times x (j + 1) (al ++ l ++ [9]) := by
  rcases h with ⟨rfl, rfl⟩ | ⟨_, T, rfl, h⟩
  · exact .inr ⟨by omega, l, rfl, by simpa using hl⟩
  · refine .inr ⟨by omega, T ++ 9 :: l, by simp, ?_⟩
    have := Tells.cat (c := 9) (by decide) h hl
    rw [Nat.mul_succ]; exact this
theorem Times.parsed {x j : Nat} {al : List UInt8} (h : Times x j al) (hj : 0 < j) : Ts.parsed al = if 9223372036854775807 ≤ x * j then (0, 6) else (((x * j : Nat) : Int), 0) := by
  rcases h with ⟨rfl, _⟩ | ⟨_, T, rfl, h⟩
  · omega
  · have := h.parsed_any (Z1 := []) (Z2 := [9]) (by simp) (by decide)
    simpa using this
theorem u8_wf {n : Int} (h : (Lit.int .u8 n).wf = true) : 0 ≤ n ∧ n < 256 := by
  simp [Lit.wf, IntKind.min, IntKind.max, IntKind.bits, IntKind.signed] at h; omega
theorem cat_data32 (a b : ByteArray) : (a ++ ⟨#[32]⟩ ++ b).data.toList = a.data.toList ++ 32 :: b.data.toList := by simp

set_option maxRecDepth 100000 in
set_option maxHeartbeats 1000000 in
theorem sums_a (a b : Int) (m : Int) (w : World) (htab : Lib.TabIs Tryd.prog w "internal/strconv.uint64pow10" .u64 Lib.pow10Tab) (h : a < 0) :
    Calls Tryd.prog 8 #[.int .i64 a, .int .i64 b, .int .u8 m] w fun e w' => e = .returned (.bool true) ∧ Below w.heap.size w w' := by
  have HT := Lib.hid htab
  clear htab
  go_enter Tryd.func8, Tryd.ntmps8
  go_wp2_with fail
  refine (works_any _ HT.out).mono ?_
  rintro e w9 ⟨rfl, hB⟩
  have HB9 := Lib.hid hB
  clear hB
  go_wp2
  go_ret
  exact ⟨rfl, HB9.out⟩

set_option maxRecDepth 100000 in
set_option maxHeartbeats 1000000 in
theorem sums_b (a b : Int) (m : Int) (w : World) (htab : Lib.TabIs Tryd.prog w "internal/strconv.uint64pow10" .u64 Lib.pow10Tab) (h0 : ¬ a < 0) (h : b < 0) :
    Calls Tryd.prog 8 #[.int .i64 a, .int .i64 b, .int .u8 m] w fun e w' => e = .returned (.bool true) ∧ Below w.heap.size w w' := by
  have HT := Lib.hid htab
  clear htab
  go_enter Tryd.func8, Tryd.ntmps8
  go_wp2_with fail
  refine (works_any _ HT.out).mono ?_
  rintro e w9 ⟨rfl, hB⟩
  have HB9 := Lib.hid hB
  clear hB
  go_wp2
  go_ret
  exact ⟨rfl, HB9.out⟩

set_option maxRecDepth 100000 in
set_option maxHeartbeats 1000000 in
theorem sums_c (b : Int) (m : Int) (w : World) (htab : Lib.TabIs Tryd.prog w "internal/strconv.uint64pow10" .u64 Lib.pow10Tab) (h : ¬ b < 0) :
    Calls Tryd.prog 8 #[.int .i64 9223372036854775807, .int .i64 b, .int .u8 m] w fun e w' => e = .returned (.bool true) ∧ Below w.heap.size w w' := by
  have HT := Lib.hid htab
  clear htab
  go_enter Tryd.func8, Tryd.ntmps8
  go_wp2_with fail
  refine (works_any _ HT.out).mono ?_
  rintro e w9 ⟨rfl, hB⟩
  have HB9 := Lib.hid hB
  clear hB
  go_wp2
  go_ret
  exact ⟨rfl, HB9.out⟩

set_option maxRecDepth 100000 in
set_option maxHeartbeats 1000000 in
theorem sums_d (a : Int) (m : Int) (w : World) (htab : Lib.TabIs Tryd.prog w "internal/strconv.uint64pow10" .u64 Lib.pow10Tab) (h0 : ¬ a < 0) (h : (a == 9223372036854775807) = false) :
    Calls Tryd.prog 8 #[.int .i64 a, .int .i64 9223372036854775807, .int .u8 m] w fun e w' => e = .returned (.bool true) ∧ Below w.heap.size w w' := by
  have HT := Lib.hid htab
  clear htab
  go_enter Tryd.func8, Tryd.ntmps8
  go_wp2_with fail
  refine (works_any _ HT.out).mono ?_
  rintro e w9 ⟨rfl, hB⟩
  have HB9 := Lib.hid hB
  clear hB
  go_wp2
  go_ret
  exact ⟨rfl, HB9.out⟩

set_option maxRecDepth 100000 in
set_option maxHeartbeats 4000000 in
theorem sums_main (x y : Nat) (m : Int) (w : World) (htab : Lib.TabIs Tryd.prog w "internal/strconv.uint64pow10" .u64 Lib.pow10Tab) (hx : x ≤ 9223372036854775806) (hy : y ≤ 9223372036854775806) (hm0 : 0 ≤ m) (hm1 : m < 256) :
    Calls Tryd.prog 8 #[.int .i64 (x : Int), .int .i64 (y : Int), .int .u8 m] w fun e w' => e = .returned (.bool true) ∧ Below w.heap.size w w' := by
  have HT := Lib.hid htab
  have hx0 : ¬ (x : Int) < 0 := by omega
  have hy0 : ¬ (y : Int) < 0 := by omega
  have hxi : ((x : Int) == 9223372036854775807) = false := by rw [beq_eq_false_iff_ne]; omega
  have hyi : ((y : Int) == 9223372036854775807) = false := by rw [beq_eq_false_iff_ne]; omega
  have hsl := textL_len (x : Int) (by omega)
  have htl := textL_len (y : Int) (by omega)
  have T1 := Lib.hid (fun w' ht => text_any (x : Int) w' (by omega) ht)
  have T2 := Lib.hid (fun w' ht => text_any (y : Int) w' (by omega) ht)
  have L1 := tells_any x (by omega)
  have L2 := tells_any y (by omega)
  obtain ⟨s, hs⟩ : ∃ s : ByteArray, (⟨(textL (x : Int)).toArray⟩ : ByteArray) = s := ⟨_, rfl⟩
  obtain ⟨t, ht⟩ : ∃ t : ByteArray, (⟨(textL (y : Int)).toArray⟩ : ByteArray) = t := ⟨_, rfl⟩
  have hsd : s.data.toList = textL (x : Int) := by rw [← hs]
  have htd : t.data.toList = textL (y : Int) := by rw [← ht]
  rw [← hsd] at hsl L1
  rw [← htd] at htl L2
  rw [← size_of] at hsl htl
  rw [hs] at T1
  rw [ht] at T2
  have hcat : parsed (s ++ ⟨#[32]⟩ ++ t).data.toList = if 9223372036854775807 ≤ x + y then (0, 6) else (((x + y : Nat) : Int), 0) := by
    rw [cat_data32]
    have := (Tells.cat (c := 32) (by decide) L1 L2).parsed_any (Z1 := []) (Z2 := []) (by simp) (by simp)
    simpa using this
  have hcs : (s ++ ⟨#[32]⟩ ++ t).size ≤ 9223372036854775807 := by rw [ByteArray.size_append, ByteArray.size_append]; show s.size + 1 + t.size ≤ _; omega
  have HCAT := Lib.hid hcat
  have HCS := Lib.hid hcs
  have HL1 := Lib.hid L1
  have s1 : s.size + (⟨#[32]⟩ : ByteArray).size ≤ 9223372036854775807 := by show s.size + 1 ≤ _; omega
  have s2 : (s ++ (⟨#[32]⟩ : ByteArray)).size + t.size ≤ 9223372036854775807 := by rw [ByteArray.size_append]; show s.size + 1 + t.size ≤ _; omega
  clear htab hs ht hsd htd L1 L2 hcat hcs
  have HB0 := Lib.hid (Below.refl w.heap.size w)
  by_cases hg : 9223372036854775806 - (y : Int) < (x : Int)
  · have HP := Lib.hid (show parsed (s ++ ⟨#[32]⟩ ++ t).data.toList = (0, 6) by rw [HCAT.out, if_pos (by omega)])
    clear HCAT
    go_enter Tryd.func8, Tryd.ntmps8
    go_wp2_with fail
    refine (T1.out _ HT.out).mono ?_
    rintro e w1 ⟨rfl, hB⟩
    have HB1 := Lib.hid (HB0.out.trans (hB.mono HB0.out.size))
    clear hB
    go_wp2_with fail
    refine (T2.out _ (tabAt w _ HT.out HB1.out)).mono ?_
    rintro e w2 ⟨rfl, hB⟩
    have HB2 := Lib.hid (HB1.out.trans (hB.mono HB1.out.size))
    clear hB
    go_wp2_with fail
    refine (is_yes _ 0 6 _ HCS.out HP.out).mono ?_
    rintro e w3 ⟨rfl, hB⟩
    have HB3 := Lib.hid (HB2.out.trans (hB.mono HB2.out.size))
    clear hB
    go_wp2_with fail
    refine (works_any _ (tabAt w _ HT.out HB3.out)).mono ?_
    rintro e w9 ⟨rfl, hB⟩
    have HB9 := Lib.hid (HB3.out.trans (hB.mono HB3.out.size))
    clear hB
    go_wp2
    go_ret
    exact ⟨rfl, HB9.out⟩
  · have HP := Lib.hid (show parsed (s ++ ⟨#[32]⟩ ++ t).data.toList = ((x : Int) + (y : Int), 0) by rw [HCAT.out, if_neg (by omega)]; simp)
    clear HCAT
    obtain ⟨r, hr, hmr⟩ : ∃ r : Nat, r < 9 ∧ m % 9 = (r : Int) := ⟨(m % 9).toNat, by omega, by omega⟩
    have hrz : ((r : Int) + 1 == 0) = false := by rw [beq_eq_false_iff_ne]; omega
    have hxy : 0 ≤ (x : Int) + (y : Int) ∧ (x : Int) + (y : Int) ≤ 9223372036854775806 := by omega
    obtain ⟨hxy1, hxy2⟩ := hxy
    go_enter Tryd.func8, Tryd.ntmps8
    go_wp2_with fail
    refine (T1.out _ HT.out).mono ?_
    rintro e w1 ⟨rfl, hB⟩
    have HB1 := Lib.hid (HB0.out.trans (hB.mono HB0.out.size))
    clear hB
    go_wp2_with fail
    refine (T2.out _ (tabAt w _ HT.out HB1.out)).mono ?_
    rintro e w2 ⟨rfl, hB⟩
    have HB2 := Lib.hid (HB1.out.trans (hB.mono HB1.out.size))
    clear hB
    go_wp2
    go_loop [10, 11] (fun a b => ∃ (j : Nat) (al : ByteArray), j ≤ r + 1 ∧ b = .int .i64 (j : Int) ∧ a = .string al ∧ al.size ≤ j * 140 ∧ Times x j al.data.toList) (fun _ b => r + 1 - (intOf b).toNat)
    case atStart => exact ⟨0, ⟨#[]⟩, by omega, rfl, rfl, by decide, .inl ⟨rfl, rfl⟩⟩
    case round =>
      obtain ⟨j, al, hj, rfl, rfl, has, htm⟩ := hrel
      have HTM := Lib.hid htm
      clear htm
      by_cases hlt : j < r + 1
      · have hjr : (j : Int) < (r : Int) + 1 := by omega
        have a1 : al.size + s.size ≤ 9223372036854775807 := by omega
        have a2 : (al ++ s).size + (⟨#[9]⟩ : ByteArray).size ≤ 9223372036854775807 := by rw [ByteArray.size_append]; show al.size + s.size + 1 ≤ _; omega
        have HN := Lib.hid (show Times x (j + 1) (al ++ s ++ ⟨#[9]⟩).data.toList by have := HTM.out.step HL1.out; simpa using this)
        have HSZ := Lib.hid (show (al ++ s ++ ⟨#[9]⟩).size ≤ (j + 1) * 140 by rw [ByteArray.size_append, ByteArray.size_append]; show al.size + s.size + 1 ≤ _; omega)
        go_wp2
        go_round
        case rel => exact ⟨j + 1, _, by omega, by go_num, rfl, HSZ.out, HN.out⟩
        case measure => simp [intOf]; omega
      · have hjr : ¬ (j : Int) < (r : Int) + 1 := by omega
        have hje : j = r + 1 := by omega
        have hal : al.size ≤ 9223372036854775807 := by omega
        have HPA := Lib.hid (show parsed al.data.toList = if 9223372036854775807 ≤ x * (r + 1) then (0, 6) else (((x * (r + 1) : Nat) : Int), 0) by rw [← hje]; exact HTM.out.parsed (by omega))
        have HAL := Lib.hid hal
        have hqc : (9223372036854775806 : Int) / ((r : Int) + 1) = ((9223372036854775806 / (r + 1) : Nat) : Int) := quo_cast (r + 1)
        clear hje has
        by_cases hq : 9223372036854775806 / (r + 1) < x
        · have hqi : (9223372036854775806 : Int) / ((r : Int) + 1) < (x : Int) := by rw [hqc]; exact Int.ofNat_lt.2 hq
          have HP2 := Lib.hid (show parsed al.data.toList = (0, 6) by rw [HPA.out]; exact if_pos (by have := (Nat.div_lt_iff_lt_mul (x := 9223372036854775806) (y := x) (show 0 < r + 1 by omega)).1 hq; omega))
          clear hqc hq
          go_wp2_with fail
          refine (is_yes _ 0 6 _ HAL.out HP2.out).mono ?_
          rintro e w3 ⟨rfl, hB⟩
          have HB3 := Lib.hid (HB2.out.trans (hB.mono HB2.out.size))
          clear hB
          go_wp2_with fail
          refine (works_any _ (tabAt w _ HT.out HB3.out)).mono ?_
          rintro e w9 ⟨rfl, hB⟩
          have HB9 := Lib.hid (HB3.out.trans (hB.mono HB3.out.size))
          clear hB
          go_wp2
          go_ret
          exact ⟨rfl, HB9.out⟩
        · have hqi : ¬ (9223372036854775806 : Int) / ((r : Int) + 1) < (x : Int) := by rw [hqc]; exact fun g => hq (Int.ofNat_lt.1 g)
          have hpr : x * (r + 1) ≤ 9223372036854775806 := (Nat.le_div_iff_mul_le (show 0 < r + 1 by omega)).1 (Nat.le_of_not_lt hq)
          have hpi : ((x * (r + 1) : Nat) : Int) = (x : Int) * ((r : Int) + 1) := by simp
          have HP2 := Lib.hid (show parsed al.data.toList = ((x : Int) * ((r : Int) + 1), 0) by rw [HPA.out, ← hpi]; exact if_neg (by omega))
          have hb : 0 ≤ (x : Int) * ((r : Int) + 1) ∧ (x : Int) * ((r : Int) + 1) ≤ 9223372036854775806 := by rw [← hpi]; omega
          obtain ⟨hb1, hb2⟩ := hb
          clear hqc hq hpi hpr
          go_wp2_with fail
          refine (is_yes _ ((x : Int) + (y : Int)) 0 _ HCS.out HP.out).mono ?_
          rintro e w3 ⟨rfl, hB⟩
          have HB3 := Lib.hid (HB2.out.trans (hB.mono HB2.out.size))
          clear hB
          go_wp2_with fail
          refine (is_yes _ ((x : Int) * ((r : Int) + 1)) 0 _ HAL.out HP2.out).mono ?_
          rintro e w4 ⟨rfl, hB⟩
          have HB4 := Lib.hid (HB3.out.trans (hB.mono HB3.out.size))
          clear hB
          go_wp2_with fail
          refine (works_any _ (tabAt w _ HT.out HB4.out)).mono ?_
          rintro e w9 ⟨rfl, hB⟩
          have HB9 := Lib.hid (HB4.out.trans (hB.mono HB4.out.size))
          clear hB
          go_wp2
          go_ret
          exact ⟨rfl, HB9.out⟩

theorem timespanSums_any (a b m : Int) (w : World) (ha : -9223372036854775808 ≤ a ∧ a ≤ 9223372036854775807) (hb : -9223372036854775808 ≤ b ∧ b ≤ 9223372036854775807) (hm : 0 ≤ m ∧ m < 256) (htab : Lib.TabIs Tryd.prog w "internal/strconv.uint64pow10" .u64 Lib.pow10Tab) :
    Calls Tryd.prog 8 #[.int .i64 a, .int .i64 b, .int .u8 m] w fun e w' => e = .returned (.bool true) ∧ Below w.heap.size w w' := by
  by_cases h1 : a < 0
  · exact sums_a a b m w htab h1
  by_cases h2 : b < 0
  · exact sums_b a b m w htab h1 h2
  by_cases h3 : a = 9223372036854775807
  · subst h3; exact sums_c b m w htab h2
  by_cases h4 : b = 9223372036854775807
  · subst h4; exact sums_d a m w htab h1 (beq_eq_false_iff_ne.2 h3)
  obtain ⟨x, rfl⟩ : ∃ x : Nat, a = (x : Int) := ⟨a.toNat, by omega⟩
  obtain ⟨y, rfl⟩ : ∃ y : Nat, b = (y : Int) := ⟨b.toNat, by omega⟩
  exact sums_main x y m w htab (by omega) (by omega) hm.1 hm.2
end Go.Proofs.YtcllimfaoajapaaDoor.Ts
