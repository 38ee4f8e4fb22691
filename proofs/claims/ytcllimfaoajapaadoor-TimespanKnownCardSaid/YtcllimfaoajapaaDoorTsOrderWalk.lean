/-
  The law TimespanOrder: one walk a case. (Made by tools/gen_order2.py.)
-/
import Derived.Test.YtcllimfaoajapaaDoorTsIs
import Derived.Test.YtcllimfaoajapaaDoorTsTrim
namespace Go.Proofs.YtcllimfaoajapaaDoor.Ts
open Go.RowKit

theorem parse_at (s : ByteArray) (m e : Int) (w : World) (hs : s.size ≤ 9223372036854775807) (hp : parsed s.data.toList = (m, e)) :
    Calls Tryd.prog 10 #[.string s] w fun e' w' => e' = .returned (.tuple #[.int .i64 m, .int .i64 e]) ∧ Below w.heap.size w w' := by
  have := parse_any s w hs; rw [hp] at this; exact this
theorem neq_of {a b : Int} (h : a ≠ b) : (a == b) = false ∧ (a != b) = true := by
  have : (a == b) = false := by rw [beq_eq_false_iff_ne]; exact h
  exact ⟨this, by simp [bne, this]⟩
theorem cat_data (a b : ByteArray) (x : UInt8) : (a ++ (⟨#[x]⟩ : ByteArray) ++ b).data.toList = a.data.toList ++ x :: b.data.toList := by simp
set_option maxRecDepth 100000 in
set_option maxHeartbeats 1000000 in
theorem order_long1 (a b : ByteArray) (w : World) (htab : Lib.TabIs Tryd.prog w "internal/strconv.uint64pow10" .u64 Lib.pow10Tab) (hs : a.size ≤ 9223372036854775807) (h0 : 200 < a.size) :
    Calls Tryd.prog 5 #[.string a, .string b] w fun e w' => e = .returned (.bool true) ∧ Below w.heap.size w w' := by
  have HT := Lib.hid htab
  clear htab
  go_enter Tryd.func5, Tryd.ntmps5
  go_wp2_with fail
  refine (works_any _ (tabAt w _ HT.out (Below.refl _ _))).mono ?_
  rintro e w9 ⟨rfl, hB⟩
  have HB9 := Lib.hid (hB)
  clear hB
  go_wp2
  go_ret
  exact ⟨rfl, HB9.out⟩
set_option maxRecDepth 100000 in
set_option maxHeartbeats 1000000 in
theorem order_long2 (a b : ByteArray) (w : World) (htab : Lib.TabIs Tryd.prog w "internal/strconv.uint64pow10" .u64 Lib.pow10Tab) (hs : b.size ≤ 9223372036854775807) (h0 : a.size ≤ 200) (h1 : 200 < b.size) :
    Calls Tryd.prog 5 #[.string a, .string b] w fun e w' => e = .returned (.bool true) ∧ Below w.heap.size w w' := by
  have HT := Lib.hid htab
  clear htab
  go_enter Tryd.func5, Tryd.ntmps5
  go_wp2_with fail
  refine (works_any _ (tabAt w _ HT.out (Below.refl _ _))).mono ?_
  rintro e w9 ⟨rfl, hB⟩
  have HB9 := Lib.hid (hB)
  clear hB
  go_wp2
  go_ret
  exact ⟨rfl, HB9.out⟩
set_option maxRecDepth 100000 in
set_option maxHeartbeats 1000000 in
theorem order_bad1 (a b : ByteArray) (w : World) (htab : Lib.TabIs Tryd.prog w "internal/strconv.uint64pow10" .u64 Lib.pow10Tab) (m e n f : Int) (h0 : a.size ≤ 200) (h1 : b.size ≤ 200) (ha : parsed a.data.toList = (m, e)) (hb : parsed b.data.toList = (n, f)) (k2 : (e != 0) = true) :
    Calls Tryd.prog 5 #[.string a, .string b] w fun e w' => e = .returned (.bool true) ∧ Below w.heap.size w w' := by
  have HT := Lib.hid htab
  clear htab
  have HA := Lib.hid ha
  have HB := Lib.hid hb
  clear ha hb
  go_enter Tryd.func5, Tryd.ntmps5
  go_wp2_with fail
  refine (parse_at a m e _ (by omega) HA.out).mono ?_
  rintro e' w1 ⟨rfl, hB⟩
  have HB1 := Lib.hid hB
  clear hB
  go_wp2_with fail
  refine (parse_at b n f _ (by omega) HB.out).mono ?_
  rintro e' w2 ⟨rfl, hB⟩
  have HB2 := Lib.hid (HB1.out.trans (hB.mono HB1.out.size))
  clear hB
  go_wp2_with fail
  refine (works_any _ (tabAt w _ HT.out HB2.out)).mono ?_
  rintro e w9 ⟨rfl, hB⟩
  have HB9 := Lib.hid (HB2.out.trans (hB.mono HB2.out.size))
  clear hB
  go_wp2
  go_ret
  exact ⟨rfl, HB9.out⟩
set_option maxRecDepth 100000 in
set_option maxHeartbeats 1000000 in
theorem order_bad2 (a b : ByteArray) (w : World) (htab : Lib.TabIs Tryd.prog w "internal/strconv.uint64pow10" .u64 Lib.pow10Tab) (m n f : Int) (h0 : a.size ≤ 200) (h1 : b.size ≤ 200) (ha : parsed a.data.toList = (m, 0)) (hb : parsed b.data.toList = (n, f)) (k2 : (f != 0) = true) :
    Calls Tryd.prog 5 #[.string a, .string b] w fun e w' => e = .returned (.bool true) ∧ Below w.heap.size w w' := by
  have HT := Lib.hid htab
  clear htab
  have HA := Lib.hid ha
  have HB := Lib.hid hb
  clear ha hb
  go_enter Tryd.func5, Tryd.ntmps5
  go_wp2_with fail
  refine (parse_at a m 0 _ (by omega) HA.out).mono ?_
  rintro e' w1 ⟨rfl, hB⟩
  have HB1 := Lib.hid hB
  clear hB
  go_wp2_with fail
  refine (parse_at b n f _ (by omega) HB.out).mono ?_
  rintro e' w2 ⟨rfl, hB⟩
  have HB2 := Lib.hid (HB1.out.trans (hB.mono HB1.out.size))
  clear hB
  go_wp2_with fail
  refine (works_any _ (tabAt w _ HT.out HB2.out)).mono ?_
  rintro e w9 ⟨rfl, hB⟩
  have HB9 := Lib.hid (HB2.out.trans (hB.mono HB2.out.size))
  clear hB
  go_wp2
  go_ret
  exact ⟨rfl, HB9.out⟩
set_option maxRecDepth 100000 in
set_option maxHeartbeats 1000000 in
theorem order_inf1 (a b : ByteArray) (w : World) (htab : Lib.TabIs Tryd.prog w "internal/strconv.uint64pow10" .u64 Lib.pow10Tab) (n : Int) (h0 : a.size ≤ 200) (h1 : b.size ≤ 200) (ha : parsed a.data.toList = (9223372036854775807, 0)) (hb : parsed b.data.toList = (n, 0))  :
    Calls Tryd.prog 5 #[.string a, .string b] w fun e w' => e = .returned (.bool true) ∧ Below w.heap.size w w' := by
  have HT := Lib.hid htab
  clear htab
  have HA := Lib.hid ha
  have HB := Lib.hid hb
  clear ha hb
  go_enter Tryd.func5, Tryd.ntmps5
  go_wp2_with fail
  refine (parse_at a 9223372036854775807 0 _ (by omega) HA.out).mono ?_
  rintro e' w1 ⟨rfl, hB⟩
  have HB1 := Lib.hid hB
  clear hB
  go_wp2_with fail
  refine (parse_at b n 0 _ (by omega) HB.out).mono ?_
  rintro e' w2 ⟨rfl, hB⟩
  have HB2 := Lib.hid (HB1.out.trans (hB.mono HB1.out.size))
  clear hB
  go_wp2_with fail
  refine (works_any _ (tabAt w _ HT.out HB2.out)).mono ?_
  rintro e w9 ⟨rfl, hB⟩
  have HB9 := Lib.hid (HB2.out.trans (hB.mono HB2.out.size))
  clear hB
  go_wp2
  go_ret
  exact ⟨rfl, HB9.out⟩
set_option maxRecDepth 100000 in
set_option maxHeartbeats 1000000 in
theorem order_inf2 (a b : ByteArray) (w : World) (htab : Lib.TabIs Tryd.prog w "internal/strconv.uint64pow10" .u64 Lib.pow10Tab) (m : Int) (h0 : a.size ≤ 200) (h1 : b.size ≤ 200) (ha : parsed a.data.toList = (m, 0)) (hb : parsed b.data.toList = (9223372036854775807, 0)) (k1 : (m == 9223372036854775807) = false) :
    Calls Tryd.prog 5 #[.string a, .string b] w fun e w' => e = .returned (.bool true) ∧ Below w.heap.size w w' := by
  have HT := Lib.hid htab
  clear htab
  have HA := Lib.hid ha
  have HB := Lib.hid hb
  clear ha hb
  go_enter Tryd.func5, Tryd.ntmps5
  go_wp2_with fail
  refine (parse_at a m 0 _ (by omega) HA.out).mono ?_
  rintro e' w1 ⟨rfl, hB⟩
  have HB1 := Lib.hid hB
  clear hB
  go_wp2_with fail
  refine (parse_at b 9223372036854775807 0 _ (by omega) HB.out).mono ?_
  rintro e' w2 ⟨rfl, hB⟩
  have HB2 := Lib.hid (HB1.out.trans (hB.mono HB1.out.size))
  clear hB
  go_wp2_with fail
  refine (works_any _ (tabAt w _ HT.out HB2.out)).mono ?_
  rintro e w9 ⟨rfl, hB⟩
  have HB9 := Lib.hid (HB2.out.trans (hB.mono HB2.out.size))
  clear hB
  go_wp2
  go_ret
  exact ⟨rfl, HB9.out⟩
set_option maxRecDepth 100000 in
set_option maxHeartbeats 1000000 in
theorem order_great (a b : ByteArray) (w : World) (htab : Lib.TabIs Tryd.prog w "internal/strconv.uint64pow10" .u64 Lib.pow10Tab) (m n : Int) (h0 : a.size ≤ 200) (h1 : b.size ≤ 200) (ha : parsed a.data.toList = (m, 0)) (hb : parsed b.data.toList = (n, 0)) (k1 : (m == 9223372036854775807) = false) (k2 : (n == 9223372036854775807) = false) (_m0 : 0 ≤ m) (_m1 : m ≤ 9223372036854775806) (n0 : 0 ≤ n) (n1 : n ≤ 9223372036854775806) (hg : 9223372036854775806 - n < m) (hc : parsed (a.data.toList ++ 32 :: b.data.toList) = (0, 6)) (hd : parsed (b.data.toList ++ 32 :: a.data.toList) = (0, 6)) :
    Calls Tryd.prog 5 #[.string a, .string b] w fun e w' => e = .returned (.bool true) ∧ Below w.heap.size w w' := by
  have HT := Lib.hid htab
  clear htab
  have HA := Lib.hid ha
  have HB := Lib.hid hb
  clear ha hb
  have e1 := (congrArg parsed (cat_data a b 32)).trans hc
  have e2 := (congrArg parsed (cat_data b a 32)).trans hd
  have HC := Lib.hid (fun w' : World => is_yes (a ++ ⟨#[32]⟩ ++ b) _ _ w' (by rw [ByteArray.size_append, ByteArray.size_append]; show a.size + 1 + b.size ≤ _; omega) e1)
  have HD := Lib.hid (fun w' : World => is_yes (b ++ ⟨#[32]⟩ ++ a) _ _ w' (by rw [ByteArray.size_append, ByteArray.size_append]; show b.size + 1 + a.size ≤ _; omega) e2)
  clear hc hd e1 e2
  have s1 : a.size + (⟨#[32]⟩ : ByteArray).size ≤ 9223372036854775807 := by show a.size + 1 ≤ _; omega
  have s2 : (a ++ (⟨#[32]⟩ : ByteArray)).size + b.size ≤ 9223372036854775807 := by rw [ByteArray.size_append]; show a.size + 1 + b.size ≤ _; omega
  have s3 : b.size + (⟨#[32]⟩ : ByteArray).size ≤ 9223372036854775807 := by show b.size + 1 ≤ _; omega
  have s4 : (b ++ (⟨#[32]⟩ : ByteArray)).size + a.size ≤ 9223372036854775807 := by rw [ByteArray.size_append]; show b.size + 1 + a.size ≤ _; omega
  go_enter Tryd.func5, Tryd.ntmps5
  go_wp2_with fail
  refine (parse_at a m 0 _ (by omega) HA.out).mono ?_
  rintro e' w1 ⟨rfl, hB⟩
  have HB1 := Lib.hid hB
  clear hB
  go_wp2_with fail
  refine (parse_at b n 0 _ (by omega) HB.out).mono ?_
  rintro e' w2 ⟨rfl, hB⟩
  have HB2 := Lib.hid (HB1.out.trans (hB.mono HB1.out.size))
  clear hB
  go_wp2_with fail
  refine (HC.out _).mono ?_
  rintro e' w3 ⟨rfl, hB⟩
  have HB3 := Lib.hid (HB2.out.trans (hB.mono HB2.out.size))
  clear hB
  go_wp2_with fail
  refine (HD.out _).mono ?_
  rintro e' w4 ⟨rfl, hB⟩
  have HB4 := Lib.hid (HB3.out.trans (hB.mono HB3.out.size))
  clear hB
  go_wp2_with fail
  refine (works_any _ (tabAt w _ HT.out HB4.out)).mono ?_
  rintro e w9 ⟨rfl, hB⟩
  have HB9 := Lib.hid (HB4.out.trans (hB.mono HB4.out.size))
  clear hB
  go_wp2
  go_ret
  exact ⟨rfl, HB9.out⟩
set_option maxRecDepth 100000 in
set_option maxHeartbeats 1000000 in
theorem order_fine (a b : ByteArray) (w : World) (htab : Lib.TabIs Tryd.prog w "internal/strconv.uint64pow10" .u64 Lib.pow10Tab) (m n : Int) (h0 : a.size ≤ 200) (h1 : b.size ≤ 200) (ha : parsed a.data.toList = (m, 0)) (hb : parsed b.data.toList = (n, 0)) (k1 : (m == 9223372036854775807) = false) (k2 : (n == 9223372036854775807) = false) (_m0 : 0 ≤ m) (_m1 : m ≤ 9223372036854775806) (n0 : 0 ≤ n) (n1 : n ≤ 9223372036854775806) (hg : m ≤ 9223372036854775806 - n) (hc : parsed (a.data.toList ++ 32 :: b.data.toList) = (m + n, 0)) (hd : parsed (b.data.toList ++ 9 :: a.data.toList) = (m + n, 0)) :
    Calls Tryd.prog 5 #[.string a, .string b] w fun e w' => e = .returned (.bool true) ∧ Below w.heap.size w w' := by
  have HT := Lib.hid htab
  clear htab
  have HA := Lib.hid ha
  have HB := Lib.hid hb
  clear ha hb
  have e1 := (congrArg parsed (cat_data a b 32)).trans hc
  have e2 := (congrArg parsed (cat_data b a 9)).trans hd
  have HC := Lib.hid (fun w' : World => is_yes (a ++ ⟨#[32]⟩ ++ b) _ _ w' (by rw [ByteArray.size_append, ByteArray.size_append]; show a.size + 1 + b.size ≤ _; omega) e1)
  have HD := Lib.hid (fun w' : World => is_yes (b ++ ⟨#[9]⟩ ++ a) _ _ w' (by rw [ByteArray.size_append, ByteArray.size_append]; show b.size + 1 + a.size ≤ _; omega) e2)
  clear hc hd e1 e2
  have s1 : a.size + (⟨#[32]⟩ : ByteArray).size ≤ 9223372036854775807 := by show a.size + 1 ≤ _; omega
  have s2 : (a ++ (⟨#[32]⟩ : ByteArray)).size + b.size ≤ 9223372036854775807 := by rw [ByteArray.size_append]; show a.size + 1 + b.size ≤ _; omega
  have s3 : b.size + (⟨#[9]⟩ : ByteArray).size ≤ 9223372036854775807 := by show b.size + 1 ≤ _; omega
  have s4 : (b ++ (⟨#[9]⟩ : ByteArray)).size + a.size ≤ 9223372036854775807 := by rw [ByteArray.size_append]; show b.size + 1 + a.size ≤ _; omega
  go_enter Tryd.func5, Tryd.ntmps5
  go_wp2_with fail
  refine (parse_at a m 0 _ (by omega) HA.out).mono ?_
  rintro e' w1 ⟨rfl, hB⟩
  have HB1 := Lib.hid hB
  clear hB
  go_wp2_with fail
  refine (parse_at b n 0 _ (by omega) HB.out).mono ?_
  rintro e' w2 ⟨rfl, hB⟩
  have HB2 := Lib.hid (HB1.out.trans (hB.mono HB1.out.size))
  clear hB
  go_wp2_with fail
  refine (HC.out _).mono ?_
  rintro e' w3 ⟨rfl, hB⟩
  have HB3 := Lib.hid (HB2.out.trans (hB.mono HB2.out.size))
  clear hB
  go_wp2_with fail
  refine (HD.out _).mono ?_
  rintro e' w4 ⟨rfl, hB⟩
  have HB4 := Lib.hid (HB3.out.trans (hB.mono HB3.out.size))
  clear hB
  go_wp2_with fail
  refine (works_any _ (tabAt w _ HT.out HB4.out)).mono ?_
  rintro e w9 ⟨rfl, hB⟩
  have HB9 := Lib.hid (HB4.out.trans (hB.mono HB4.out.size))
  clear hB
  go_wp2
  go_ret
  exact ⟨rfl, HB9.out⟩
theorem parsed_bd (l : List UInt8) : 0 ≤ (parsed l).1 ∧ (parsed l).1 ≤ 9223372036854775807 := by
  unfold parsed
  split
  · exact ⟨by omega, by omega⟩
  · split
    · exact ⟨by omega, by omega⟩
    · split
      · exact ⟨by omega, by omega⟩
      · refine ⟨?_, ?_⟩
        · show 0 ≤ ((_ : Nat) : Int); omega
        · show ((_ : Nat) : Int) ≤ _; omega
theorem order_any (a b : ByteArray) (w : World) (hsa : a.size ≤ 9223372036854775807) (hsb : b.size ≤ 9223372036854775807) (htab : Lib.TabIs Tryd.prog w "internal/strconv.uint64pow10" .u64 Lib.pow10Tab) :
    Calls Tryd.prog 5 #[.string a, .string b] w fun e w' => e = .returned (.bool true) ∧ Below w.heap.size w w' := by
  by_cases h0 : 200 < a.size
  · exact order_long1 a b w htab hsa h0
  by_cases h1 : 200 < b.size
  · exact order_long2 a b w htab hsb (by omega) h1
  have ba := parsed_bd a.data.toList
  have bb := parsed_bd b.data.toList
  cases ha : parsed a.data.toList with
  | mk m e =>
    cases hb : parsed b.data.toList with
    | mk n f =>
      rw [ha] at ba; rw [hb] at bb
      dsimp only at ba bb
      by_cases he : e = 0
      · subst he
        by_cases hf : f = 0
        · subst hf
          by_cases hm : m = 9223372036854775807
          · subst hm; exact order_inf1 a b w htab n (by omega) (by omega) ha hb
          by_cases hn : n = 9223372036854775807
          · subst hn; exact order_inf2 a b w htab m (by omega) (by omega) ha hb (neq_of hm).1
          obtain ⟨m', rfl⟩ : ∃ m' : Nat, m = (m' : Int) := ⟨m.toNat, by omega⟩
          obtain ⟨n', rfl⟩ : ∃ n' : Nat, n = (n' : Int) := ⟨n.toNat, by omega⟩
          have hc := parsed_cat (c := 32) (by decide) ha (by omega) hb (by omega)
          by_cases hg : 9223372036854775806 - (n' : Int) < (m' : Int)
          · have hd := parsed_cat (c := 32) (by decide) hb (by omega) ha (by omega)
            rw [if_pos (by omega)] at hc hd
            exact order_great a b w htab m' n' (by omega) (by omega) ha hb (neq_of hm).1 (neq_of hn).1 (by omega) (by omega) (by omega) (by omega) hg hc hd
          · have hd := parsed_cat (c := 9) (by decide) hb (by omega) ha (by omega)
            rw [if_neg (by omega)] at hc hd
            exact order_fine a b w htab m' n' (by omega) (by omega) ha hb (neq_of hm).1 (neq_of hn).1 (by omega) (by omega) (by omega) (by omega) (by omega) (by rw [hc]; simp) (by rw [hd]; simp; omega)
        · exact order_bad2 a b w htab m n f (by omega) (by omega) ha hb (neq_of hf).2
      · exact order_bad1 a b w htab m e n f (by omega) (by omega) ha hb (neq_of he).2
end Go.Proofs.YtcllimfaoajapaaDoor.Ts
