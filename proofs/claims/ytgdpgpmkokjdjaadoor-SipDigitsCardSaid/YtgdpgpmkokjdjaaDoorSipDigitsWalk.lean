/-
  The law SipDigits: a key's digits tell that key.
-/
import Derived.Test.YtgdpgpmkokjdjaaDoorSpDigits
namespace Go.Proofs.YtgdpgpmkokjdjaaDoor.Sp
open Go.RowKit

set_option maxHeartbeats 8000000 in
set_option maxRecDepth 100000 in
theorem sipDigits_any (k : List Int) (great a b : Int) (w : World) (hk : k.length = 16) (hkb : Bytes k) (hg : 0 ≤ great ∧ great ≤ 4294967295) (ha : 0 ≤ a ∧ a ≤ 255) (hb : 0 ≤ b ∧ b ≤ 255) :
    Calls Tryd.prog 6 #[kval k, .int .u32 great, .int .u8 a, .int .u8 b] w fun e w' => e = .returned (.bool true) ∧ Below w.heap.size w w' := by
  have HK := Lib.hid hk; clear hk
  obtain ⟨ha0, ha1⟩ := ha
  obtain ⟨hg0, hg1⟩ := hg
  unfold kval
  go_enter Tryd.func6, Tryd.ntmps6
  go_wp2_with fail
  go_loopw [11, 12] (fun v i wr => ∃ (n : Nat) (xs : List Int), n ≤ 32 ∧ i = .int .i64 n ∧ Tell k n xs ∧ Own wr (w.heap.size + 1) v xs ∧ Hold wr w.heap.size 23 (k.map by8) ∧ Below w.heap.size w wr) (fun _ i _ => 32 - (intOf i).toNat)
  case atStart => exact ⟨0, [], by omega, rfl, tell_nil k, Own.nil _ _, Hold.new w _ (k.map by8), (Below.refl _ _).alloc (Nat.le_refl _) _⟩
  case round =>
    obtain ⟨n, xs, hn, rfl, ht, ho, hk1, hw1⟩ := hrel
    by_cases hlt : n < 32
    · obtain ⟨z, hz⟩ : ∃ z, k.getD (n / 2) 0 = z := ⟨_, rfl⟩
      obtain ⟨z0, z1⟩ := hkb.get (n / 2)
      have hcell : wr.cell? ⟨w.heap.size, n / 2, none⟩ = some (.int .u8 z) := by
        rw [hk1.cell, List.getElem?_map, List.getElem?_eq_getElem (by rw [HK.out]; omega)]
        rw [← hz, List.getD, List.getElem?_eq_getElem (by rw [HK.out]; omega)]; rfl
      rw [hz] at z0 z1
      have hwz : w.heap.size + 1 ≤ wr.heap.size := hk1.lt
      have hxl : xs.length ≤ 100000 := by have := ht.1; omega
      have HZ := Lib.hid hz; have HT := Lib.hid ht; have HO := Lib.hid ho; have HK1 := Lib.hid hk1; have HW1 := Lib.hid hw1; have HXL := Lib.hid hxl
      clear hz ht ho hk1 hw1 hxl
      by_cases hev : n % 2 = 0
      all_goals
        have he : (n : Int) % 2 = ((n % 2 : Nat) : Int) := by omega
        first | (rw [hev] at he) | (rw [show n % 2 = 1 by omega] at he)
        cases hgb : (bits .and .u32 (great / 2 ^ n) 1 == 1)
        all_goals
          go_wp2_with (first
            | (at_builtin; refine plain_append_byte (.tmp 52) (.tmp 54) rfl rfl (w.heap.size + 1) _ xs _ ⟨wr.heap.size, 0, none⟩ 1 rfl rfl (HO.out.alloc _) (new_cell _ _ rfl _ _) HXL.out (Nat.le_trans hwz (by simp)) ?_; intro v' w' hown hgr)
            | fail)
          have hb2 : Below w.heap.size w w' := (HW1.out.alloc HW1.out.size _).trans (own_below (HO.out.alloc _) hgr (Nat.le_succ _) (by simp; omega))
          have hk2 : Hold w' w.heap.size 23 (k.map by8) := (HK1.out.alloc _).keep (hgr.block _ (by simp; omega) (fun e => by have := ((HO.out.alloc (.cells #[by8 0] 5)).lt _ e.symm).1; omega))
          refine ⟨⟨n + 1, _, hlt, by go_num, tell_succ HT.out (byte_rng _) ?_, hown, hk2, hb2⟩, by simp [intOf]; omega⟩
          first | rw [dig_s] | rw [dig_c']
          unfold nibk
          rw [HZ.out]
          first | (rw [if_pos hev]; omega) | (rw [if_neg hev]; omega)
    · obtain rfl : n = 32 := by omega
      obtain ⟨gb, cap, rfl, hgb, hgz, hcap, hcm, hcl⟩ := ho.where_ (by rw [ht.1]; omega)
      have hl32 := ht.1
      obtain ⟨h1a, h1b⟩ := tell_key ht HK.out hkb [] (fun c hc => by cases hc)
      obtain ⟨h2a, h2b⟩ := tell_key ht HK.out hkb [32, 9, 13, 10] (by decide)
      obtain ⟨h3a, h3b⟩ := tell_less ht
      obtain ⟨S, hS⟩ : ∃ S, strOfNums xs = S := ⟨_, rfl⟩
      obtain ⟨S1, hS1⟩ : ∃ S1, strOfNums (xs.drop 1) = S1 := ⟨_, rfl⟩
      have hSd : S.data.toList = lst xs := by rw [← hS]; exact strOfNums_data xs
      have hSs : S.size = 32 := by rw [← hS, strOfNums_size]; exact hl32
      have hS1d : S1.data.toList = lst (xs.drop 1) := by rw [← hS1]; exact strOfNums_data _
      have hS1s : S1.size = 31 := by rw [← hS1, strOfNums_size, List.length_drop, hl32]
      have q1 : ∀ w : World, Calls Tryd.prog 14 #[.string S] w fun e w' => e = .returned (.tuple #[.agg (k.map by8).toArray, .bool true]) ∧ Below w.heap.size w w' := fun w => by
        have := of_any S w (by omega)
        unfold OfPost kval at this
        rw [hSd, ← List.append_nil (lst xs), h1a, h1b] at this; exact this
      have q2 : ∀ w : World, Calls Tryd.prog 14 #[.string (S ++ ⟨#[32, 9, 13, 10]⟩)] w fun e w' => e = .returned (.tuple #[.agg (k.map by8).toArray, .bool true]) ∧ Below w.heap.size w w' := fun w => by
        have := of_any (S ++ ⟨#[32, 9, 13, 10]⟩) w (by rw [ByteArray.size_append, hSs]; decide)
        unfold OfPost kval at this
        rw [show (S ++ (⟨#[32, 9, 13, 10]⟩ : ByteArray)).data.toList = lst xs ++ [32, 9, 13, 10] by rw [ByteArray.data_append, Array.toList_append, hSd], h2a, h2b] at this; exact this
      have q3 : ∀ w : World, Calls Tryd.prog 14 #[.string S1] w fun e w' => e = .returned (.tuple #[.agg (zeros.map by8).toArray, .bool false]) ∧ Below w.heap.size w w' := fun w => by
        have := of_any S1 w (by omega)
        unfold OfPost kval at this
        rw [hS1d, h3a, h3b] at this; exact this
      have D0 : Hid (DL w k gb xs wr) := Lib.hid ⟨hk1, ⟨hgz, hcl⟩, hw1⟩
      have Q1 := Lib.hid q1; have Q2 := Lib.hid q2; have Q3 := Lib.hid q3
      have HS := Lib.hid hS; have HS1 := Lib.hid hS1; have HL32 := Lib.hid hl32; have HT := Lib.hid ht
      have hcc : 32 ≤ cap := by omega
      have hcm2 : cap ≤ 9223372036854775807 := by unfold maxLen at hcm; omega
      rw [hl32]
      clear ht ho hk1 hw1 hcl h1a h1b h2a h2b h3a h3b hS hS1 hSd hS1d hS1s q1 q2 q3 hl32 hcap hcm
      have hc0 : Sem.run Tryd.prog (convert 24 9 (.slice (some ⟨gb, 0, none⟩) 32 cap)) wr = .ok (.string S) wr := by rw [← HS.out]; exact D0.out.conv 32 cap HL32.out
      have hcat : S.size + 4 ≤ 9223372036854775807 := by omega
      have hcat2 : S.size + (⟨#[32, 9, 13, 10]⟩ : ByteArray).size ≤ 9223372036854775807 := by rw [hSs]; decide
      have HSS := Lib.hid hSs; clear hSs
      go_wp2_with fail
      refine (Q1.out _).mono ?_
      rintro e w1 ⟨rfl, hb1⟩
      have D1 := Lib.hid (D0.out.go hb1)
      clear D0 hb1 hc0
      go_wp2_with (first
        | (refine plain_store_arr 23 23 (.tmp 15) (.tmp 60) w1.heap.size (zeros.map by8) (k.map by8) rfl rfl rfl rfl (key_info HK.out) (by8_one _) (Hold.new w1 _ (zeros.map by8)) (by rw [List.length_map, List.length_map, HK.out]; rfl) ?_; intro w2 hR hg2; have D2 := Lib.hid (D1.out.go (only_new hg2)); have N2 := Lib.hid hR; clear hR hg2; have hc2 : Sem.run Tryd.prog (convert 24 9 (.slice (some ⟨gb, 0, none⟩) 32 cap)) w2 = .ok (.string S) w2 := by rw [← HS.out]; exact D2.out.conv 32 cap HL32.out)
        | fail)
      obtain ⟨A1, hA1⟩ : ∃ x, w1.heap.size = x := ⟨_, rfl⟩
      rw [hA1] at N2 ⊢
      clear hA1
      refine (Q2.out _).mono ?_
      rintro e w3 ⟨rfl, hb3⟩
      have D3 := Lib.hid (D2.out.go hb3)
      have XA3 := Lib.hid (N2.out.below hb3 N2.out.lt)
      clear D1 D2 N2 hb3 hc2
      have hcap1 : ¬ (cap = 1) := by omega
      go_wp2_with (first
        | (refine plain_store_arr 23 23 (.tmp 17) (.tmp 67) w3.heap.size (zeros.map by8) (k.map by8) rfl rfl rfl rfl (key_info HK.out) (by8_one _) (Hold.new w3 _ (zeros.map by8)) (by rw [List.length_map, List.length_map, HK.out]; rfl) ?_; intro w4 hR hg2; have D4 := Lib.hid (D3.out.go (only_new hg2)); have XA4 := Lib.hid (XA3.out.below (only_new hg2) XA3.out.lt); have N4 := Lib.hid hR; clear hR hg2; have hc4 : Sem.run Tryd.prog (convert 24 9 (.slice (some ⟨gb, 1, none⟩) 31 (cap - 1))) w4 = .ok (.string S1) w4 := by rw [← HS1.out]; exact D4.out.conv1 31 (cap - 1) HL32.out)
        | fail)
      obtain ⟨A2, hA2⟩ : ∃ x, w3.heap.size = x := ⟨_, rfl⟩
      rw [hA2] at N4 ⊢
      clear hA2
      refine (Q3.out _).mono ?_
      rintro e w5 ⟨rfl, hb5⟩
      have D5 := Lib.hid (D4.out.go hb5)
      have XA5 := Lib.hid (XA4.out.below hb5 XA4.out.lt)
      have XB5 := Lib.hid (N4.out.below hb5 N4.out.lt)
      clear D3 D4 XA3 XA4 N4 hb5 hc4
      have hneq := neq_arr 23 Tryd.underlying23 k HK.out
      unfold kval at hneq
      obtain ⟨J, hJ⟩ : ∃ J : Nat, a % 32 = (J : Int) := ⟨(a % 32).toNat, by omega⟩
      have hJ32 : J < 32 := by omega
      have HB := Lib.hid hb; clear hb
      go_wp2_with (first
        | (refine plain_store_arr 23 23 (.tmp 19) (.tmp 74) w5.heap.size (zeros.map by8) (zeros.map by8) rfl rfl rfl rfl (key_info rfl) (by8_one _) (Hold.new w5 _ (zeros.map by8)) rfl ?_; intro w6 hR hg2; have D6 := Lib.hid (D5.out.go (only_new hg2)); have XA6 := Lib.hid (XA5.out.below (only_new hg2) XA5.out.lt); have XB6 := Lib.hid (XB5.out.below (only_new hg2) XB5.out.lt); have N6 := Lib.hid hR; clear hR hg2; have cj := (D6.out.2.1.2 J (by have := HL32.out; omega)).1; have fj := (D6.out.2.1.2 J (by have := HL32.out; omega)).2; have hc7 : Sem.run Tryd.prog (convert 24 9 (.slice (some ⟨gb, 0, none⟩) 32 cap)) (w6.setCell ⟨gb, J, none⟩ (.int .u8 b)) = .ok (.string (strOfNums (xs.set J b))) (w6.setCell ⟨gb, J, none⟩ (.int .u8 b)) := (D6.out.set J b (by have := HL32.out; omega) (by omega)).conv 32 cap (by rw [List.length_set]; exact HL32.out))
        | (refine want_load_arr 23 23 5 16 (.tmp 15) A1 (k.map by8) rfl rfl rfl Tryd.underlying23 (key_info HK.out) XA6.out ?_)
        | (refine want_load_arr 23 23 5 16 (.tmp 17) A2 (k.map by8) rfl rfl rfl Tryd.underlying23 (key_info HK.out) XB6.out ?_)
        | (refine want_load_arr 23 23 5 16 (.tmp 4) w.heap.size (k.map by8) rfl rfl rfl Tryd.underlying23 (key_info HK.out) D6.out.1 ?_)
        | fail)
      have D7 := Lib.hid (D6.out.set J b (by have := HL32.out; omega) (by omega))
      obtain ⟨S2, hS2⟩ : ∃ S2, strOfNums (xs.set J b) = S2 := ⟨_, rfl⟩
      have hS2s : S2.size = 32 := by rw [← hS2, strOfNums_size, List.length_set]; exact HL32.out
      have HS2 := Lib.hid hS2
      have HL7 := Lib.hid (show (xs.set J b).length = 32 by rw [List.length_set]; exact HL32.out)
      rw [hS2]
      clear D5 D6 XA5 XB5 XA6 XB6 N6 cj fj hc7 hneq hS2
      generalize w6.setCell ⟨gb, J, none⟩ (.int .u8 b) = W at D7 ⊢
      obtain ⟨k2, hk2⟩ : ∃ k2, keyOf S2.data.toList = k2 := ⟨_, rfl⟩
      obtain ⟨f2, hf2⟩ : ∃ f2, keyIs S2.data.toList = f2 := ⟨_, rfl⟩
      have hk2l : k2.length = 16 := by rw [← hk2]; exact keyOf_len _
      have r1 : ∀ w : World, Calls Tryd.prog 14 #[.string S2] w fun e w' => e = .returned (.tuple #[.agg (k2.map by8).toArray, .bool f2]) ∧ Below w.heap.size w w' := fun w => by
        have := of_any S2 w (by omega)
        unfold OfPost kval at this
        rw [hk2, hf2] at this; exact this
      have r2 : ∀ w : World, Calls Tryd.prog 15 #[.string S2] w fun e w' => e = .returned (.tuple #[.agg (k2.map by8).toArray, .bool f2]) ∧ Below w.heap.size w w' := fun w => by
        have := rof_any S2 w (by omega)
        unfold OfPost kval at this
        rw [hk2, hf2] at this; exact this
      have heq := eql_arr 22 Tryd.underlying22 k2 hk2l
      unfold kval at heq
      have R1 := Lib.hid r1; have R2 := Lib.hid r2; have HK2 := Lib.hid hk2l; have HEQ := Lib.hid heq
      clear r1 r2 hk2 hf2 hk2l heq
      refine (R1.out _).mono ?_
      rintro e w8 ⟨rfl, hb8⟩
      have D8 := Lib.hid (D7.out.go hb8)
      clear D7 hb8
      go_wp2_with (first
        | (refine plain_store_arr 23 23 (.tmp 21) (.tmp 104) w8.heap.size (zeros.map by8) (k2.map by8) rfl rfl rfl rfl (key_info HK2.out) (by8_one _) (Hold.new w8 _ (zeros.map by8)) (by rw [List.length_map, List.length_map, HK2.out]; rfl) ?_; intro w9 hR hg2; have D9 := Lib.hid (D8.out.go (only_new hg2)); have N9 := Lib.hid hR; clear hR hg2; have hc9 : Sem.run Tryd.prog (convert 24 9 (.slice (some ⟨gb, 0, none⟩) 32 cap)) w9 = .ok (.string S2) w9 := by rw [← HS2.out]; exact D9.out.conv 32 cap HL7.out)
        | fail)
      obtain ⟨A3, hA3⟩ : ∃ x, w8.heap.size = x := ⟨_, rfl⟩
      rw [hA3] at N9 ⊢
      clear hA3
      refine (R2.out _).mono ?_
      rintro e w10 ⟨rfl, hb10⟩
      have D10 := Lib.hid (D9.out.go hb10)
      have X10 := Lib.hid (N9.out.below hb10 N9.out.lt)
      clear D8 D9 N9 hb10 hc9
      go_wp2_with (first
        | (refine plain_store_arr 22 22 (.tmp 23) (.tmp 110) w10.heap.size (zeros.map by8) (k2.map by8) rfl rfl rfl rfl (arr_info HK2.out) (by8_one _) (Hold.new w10 _ (zeros.map by8)) (by rw [List.length_map, List.length_map, HK2.out]; rfl) ?_; intro w11 hR hg2; have D11 := Lib.hid (D10.out.go (only_new hg2)); have X11 := Lib.hid (X10.out.below (only_new hg2) X10.out.lt); have N11 := Lib.hid hR; clear hR hg2; have heq := HEQ.out)
        | (refine want_load_arr 23 23 5 16 (.tmp 21) A3 (k2.map by8) rfl rfl rfl Tryd.underlying23 (key_info HK2.out) X11.out ?_)
        | (refine want_load_arr 22 22 5 16 (.tmp 23) w10.heap.size (k2.map by8) rfl rfl rfl Tryd.underlying22 (arr_info HK2.out) N11.out ?_)
        | fail)
      refine (works_any _).mono ?_
      rintro e w12 ⟨rfl, hb12⟩
      have HB12 := Lib.hid (D11.out.2.2.trans (hb12.mono D11.out.2.2.size))
      clear hb12
      go_wp2_with fail
      go_ret
      exact ⟨rfl, HB12.out⟩
end Go.Proofs.YtgdpgpmkokjdjaaDoor.Sp
