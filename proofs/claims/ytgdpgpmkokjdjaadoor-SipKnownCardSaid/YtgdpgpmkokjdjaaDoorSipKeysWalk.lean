/-
  The law SipKeys: any text is the key that the document says, or none.
-/
import Derived.Test.YtgdpgpmkokjdjaaDoorSpWorks
namespace Go.Proofs.YtgdpgpmkokjdjaaDoor.Sp
open Go.RowKit

set_option maxHeartbeats 4000000 in
set_option maxRecDepth 100000 in
theorem sipKeys_any (s : ByteArray) (w : World) (hs : s.size ≤ 9223372036854775807) :
    Calls Tryd.prog 5 #[.string s] w fun e w' => e = .returned (.bool true) ∧ Below w.heap.size w w' := by
  by_cases h100 : s.size ≤ 100
  · obtain ⟨k, hk⟩ : ∃ k, keyOf s.data.toList = k := ⟨_, rfl⟩
    obtain ⟨b, hbb⟩ : ∃ b, keyIs s.data.toList = b := ⟨_, rfl⟩
    have hkl : k.length = 16 := by rw [← hk]; exact keyOf_len _
    have c1 : ∀ w : World, Calls Tryd.prog 14 #[.string s] w fun e w' => e = .returned (.tuple #[.agg (k.map by8).toArray, .bool b]) ∧ Below w.heap.size w w' := fun w => by
      have := of_any s w hs
      unfold OfPost kval at this
      rw [hk, hbb] at this; exact this
    have c2 : ∀ w : World, Calls Tryd.prog 15 #[.string s] w fun e w' => e = .returned (.tuple #[.agg (k.map by8).toArray, .bool b]) ∧ Below w.heap.size w w' := fun w => by
      have := rof_any s w (by omega)
      unfold OfPost kval at this
      rw [hk, hbb] at this; exact this
    have heq := eql_arr 22 Tryd.underlying22 k hkl
    unfold kval at heq
    have C1 := Lib.hid c1; have C2 := Lib.hid c2; have HKL := Lib.hid hkl; have HEQ := Lib.hid heq
    clear c1 c2 hkl hk hbb heq
    go_enter Tryd.func5, Tryd.ntmps5
    go_wp2_with fail
    refine (C1.out _).mono ?_
    rintro e w1 ⟨rfl, hb1⟩
    have HB1 := Lib.hid hb1; clear hb1
    go_wp2_with (first
      | (refine plain_store_arr 23 23 (.tmp 3) (.tmp 14) w1.heap.size (zeros.map by8) (k.map by8) rfl rfl rfl rfl (key_info HKL.out) (by8_one _) (Hold.new w1 _ (zeros.map by8)) (by rw [List.length_map, List.length_map, HKL.out]; rfl) ?_; intro w2 hR2 hg2)
      | fail)
    have HB2 := Lib.hid (HB1.out.trans ((only_new hg2).mono HB1.out.size))
    have HR2 := Lib.hid hR2
    have hz : w.heap.size ≤ w1.heap.size := HB1.out.size
    obtain ⟨A, hA⟩ : ∃ A, w1.heap.size = A := ⟨_, rfl⟩
    clear hR2 hg2 HB1
    rw [hA] at HR2 hz ⊢
    clear hA
    refine (C2.out _).mono ?_
    rintro e w3 ⟨rfl, hb3⟩
    have HB3 := Lib.hid (HB2.out.trans (hb3.mono HB2.out.size))
    have HR3 := Lib.hid (HR2.out.below hb3 HR2.out.lt)
    clear HB2 HR2 hb3
    go_wp2_with (first
      | (refine plain_store_arr 22 22 (.tmp 5) (.tmp 19) w3.heap.size (zeros.map by8) (k.map by8) rfl rfl rfl rfl (arr_info HKL.out) (by8_one _) (Hold.new w3 _ (zeros.map by8)) (by rw [List.length_map, List.length_map, HKL.out]; rfl) ?_; intro w4 hR4 hg4; have HB4 := Lib.hid (HB3.out.trans ((only_new hg4).mono HB3.out.size)); have HR4 := Lib.hid (HR3.out.below (only_new hg4) HR3.out.lt); have HS4 := Lib.hid hR4; clear hg4 hR4; have heq := HEQ.out)
      | (refine want_load_arr 23 23 5 16 (.tmp 3) A (k.map by8) rfl rfl rfl Tryd.underlying23 (key_info HKL.out) HR4.out ?_)
      | (refine want_load_arr 22 22 5 16 (.tmp 5) w3.heap.size (k.map by8) rfl rfl rfl Tryd.underlying22 (arr_info HKL.out) HS4.out ?_)
      | fail)
    refine (works_any _).mono ?_
    rintro e w5 ⟨rfl, hb5⟩
    have HB5 := Lib.hid (HB4.out.trans (hb5.mono HB4.out.size))
    clear hb5
    go_wp2_with fail
    go_ret
    exact ⟨rfl, HB5.out⟩
  · have hgt : 100 < s.size := by omega
    go_enter Tryd.func5, Tryd.ntmps5
    go_wp2_with fail
    refine (works_any _).mono ?_
    rintro e w5 ⟨rfl, hb5⟩
    have HB5 := Lib.hid hb5; clear hb5
    go_wp2_with fail
    go_ret
    exact ⟨rfl, HB5.out⟩
end Go.Proofs.YtgdpgpmkokjdjaaDoor.Sp
