/-
  What clepsydraref04.Of answers: the walk.
-/
import Derived.Test.YtgdpgpmkokjdjaaDoorSpRefOf
namespace Go.Proofs.YtgdpgpmkokjdjaaDoor.Sp
open Go.RowKit

theorem len_bytes (r : ByteArray) : r.data.toList.length = r.size := by simp
theorem getD_last (r : ByteArray) (h : 0 < r.size) : r.data.toList.getD (r.data.toList.length - 1) 0 = r[r.size - 1]'(by omega) := by
  have e := len_bytes r
  rw [List.getD, List.getElem?_eq_getElem (show r.data.toList.length - 1 < r.data.toList.length by omega)]
  simp only [e]; rfl
theorem ext_bytes (r : ByteArray) (k : Nat) : (r.extract 0 k).data.toList = r.data.toList.take k := by
  simp
theorem not_key {l m z : List UInt8} (hl : l = m ++ z) (hz : ∀ c ∈ z, blk c = true) (h : m.length ≤ 32 ∨ blk (m.getD (m.length - 1) 0) = false) (hn : ¬ isKey m) : keyOf l = zeros ∧ keyIs l = false := by
  have hk : ¬ isKey (trimmed l) := fun h1 => hn ((key_end hl hz h).1.1 h1)
  exact ⟨keyOf_no rfl hk, keyIs_no rfl hk⟩
theorem is_key {l m z : List UInt8} (hl : l = m ++ z) (hz : ∀ c ∈ z, blk c = true) (h : m.length ≤ 32 ∨ blk (m.getD (m.length - 1) 0) = false) (hn : isKey m) : keyOf l = pairs m 16 ∧ keyIs l = true := by
  obtain ⟨h1, h2⟩ := key_end hl hz h
  exact ⟨keyOf_yes (h2 hn) hn, keyIs_yes (h2 hn) hn⟩

set_option maxHeartbeats 4000000 in
set_option maxRecDepth 100000 in
theorem rof_any (s : ByteArray) (w : World) (hs : s.size ≤ 4294967296) :
    Calls Tryd.prog 15 #[.string s] w (OfPost s.data.toList w) := by
  go_enter Tryd.func15, Tryd.ntmps15
  go_wp2_with fail
  refine wp_world (fun U => Hold U w.heap.size 22 (zeros.map by8) ∧ Hold U (w.heap.size + 1) 22 (zeros.map by8) ∧ Below w.heap.size w U) ⟨(Hold.new w _ (zeros.map by8)).alloc _, Hold.new2 w _ _ (zeros.map by8), ((Below.refl _ _).alloc (Nat.le_refl _) _).alloc (by simp) _⟩ ?_
  rintro U ⟨hR, hK, hB⟩
  obtain ⟨K, hKK⟩ : ∃ K, w.heap.size + 1 = K := ⟨_, rfl⟩
  have hwK : w.heap.size ≤ K := by omega
  have hRK : w.heap.size ≠ K := by omega
  rw [hKK] at hK ⊢
  have HR := Lib.hid hR; have HK := Lib.hid hK; have HB := Lib.hid hB
  clear hR hK hB hKK
  go_loop [0] (fun v => ∃ (r : ByteArray) (z : List UInt8), s.data.toList = r.data.toList ++ z ∧ (∀ c ∈ z, blk c = true) ∧ r.size ≤ 4294967296 ∧ v = .string r) (fun v => match v with | .string r => r.size | _ => 0)
  case atStart => exact ⟨s, [], by simp, by simp, hs, rfl⟩
  case round =>
    obtain ⟨r, z, hrz, hz, hr4, rfl⟩ := hrel
    have HRZ := Lib.hid hrz; have HZ := Lib.hid hz; clear hrz hz
    by_cases hlt : 32 < r.size
    · obtain ⟨c, hc⟩ : ∃ c, r[r.size - 1]'(by omega) = c := ⟨_, rfl⟩
      have hcl := getD_last r (by omega)
      rw [hc] at hcl
      have HCL := Lib.hid hcl; clear hcl
      by_cases hbk : blk c = true
      · have hend : ∃ r1 z1, s.data.toList = (r1 : ByteArray).data.toList ++ z1 ∧ (∀ c ∈ z1, blk c = true) ∧ r1.size ≤ 4294967296 ∧ Value.string (r.extract 0 (r.size - 1)) = Value.string r1 := by
          refine ⟨_, c :: z, ?_, ?_, ?_, rfl⟩
          · have h1 := split_last r.data.toList (by rw [len_bytes]; omega)
            rw [HCL.out] at h1
            rw [ext_bytes, HRZ.out]
            conv => lhs; rw [h1]
            rw [List.append_assoc, len_bytes]; rfl
          · intro d hd
            rcases List.mem_cons.1 hd with rfl | hd
            · exact hbk
            · exact HZ.out d hd
          · rw [ByteArray.size_extract]; omega
        have hlt2 : (r.extract 0 (r.size - 1)).size < r.size := by rw [ByteArray.size_extract]; omega
        have HE := Lib.hid hend; have HL2 := Lib.hid hlt2
        clear hend hlt2
        rcases blk_any hbk with rfl | rfl | rfl | rfl
        all_goals
          clear hbk
          go_wp2_with fail
          exact ⟨HE.out, HL2.out⟩
      · have hb : ¬ (c.toNat = 9) ∧ ¬ (c.toNat = 10) ∧ ¬ (c.toNat = 13) ∧ ¬ (c.toNat = 32) := by
          refine ⟨fun e => hbk ?_, fun e => hbk ?_, fun e => hbk ?_, fun e => hbk ?_⟩
          · rw [show c = 9 from UInt8.toNat_inj.mp e]; rfl
          · rw [show c = 10 from UInt8.toNat_inj.mp e]; rfl
          · rw [show c = 13 from UInt8.toNat_inj.mp e]; rfl
          · rw [show c = 32 from UInt8.toNat_inj.mp e]; rfl
        have b1 : ((c.toNat : Int) == 9) = false := by simp; omega
        have b2 : ((c.toNat : Int) == 10) = false := by simp; omega
        have b3 : ((c.toNat : Int) == 13) = false := by simp; omega
        have b4 : ((c.toNat : Int) == 32) = false := by simp; omega
        have hn1 : ((r.size : Int) == 32) = false := by simp; omega
        have hn2 : ((r.size : Int) != 32) = true := by simp; omega
        obtain ⟨k1, k2⟩ := not_key HRZ.out HZ.out (.inr (by rw [HCL.out]; simpa using hbk)) (fun h => by have h1 := h.1; rw [len_bytes] at h1; omega)
        have K1 := Lib.hid k1; have K2 := Lib.hid k2
        clear k1 k2 hbk hb
        go_wp2_with (first
          | (refine plain_load_arr 22 22 5 16 (.tmp 4) K (zeros.map by8) rfl rfl rfl Tryd.underlying22 (arr_info rfl) HK.out ?_)
          | (refine plain_store_arr 22 22 (.tmp 2) (.tmp 50) w.heap.size (zeros.map by8) (zeros.map by8) rfl rfl rfl rfl (arr_info rfl) (by8_one _) HR.out rfl ?_; intro w2 hR2 hg2)
          | fail)
        refine bodyPost_ret (results_cell2 rfl _ _ w.heap.size (zeros.map by8) _ rfl rfl hR2 Tryd.underlying22 (arr_info rfl)) rfl ⟨?_, gb_new HB.out hg2 HB.out.size (Nat.le_refl _)⟩
        rw [K1.out, K2.out]; rfl
    · by_cases h32 : r.size = 32
      · have hr1 : 32 ≤ r.size := by omega
        have hr2 : r.size ≤ 32 := by omega
        have hn1 : ((r.size : Int) == 32) = true := by rw [h32]; rfl
        have hn2 : ((r.size : Int) != 32) = false := by rw [h32]; rfl
        have hgt : decide (32 < (r.size : Int)) = false := by apply decide_eq_false; omega
        obtain ⟨t, ht⟩ : ∃ t, r.data.toList = t := ⟨_, rfl⟩
        have htl : t.length = 32 := by rw [← ht, len_bytes]; exact h32
        have HT := Lib.hid ht; have HTL := Lib.hid htl
        clear ht htl h32 hlt
        go_wp2_with fail
        go_loopw [5] (fun i wr => ∃ k : Nat, k ≤ 32 ∧ i = .int .i64 k ∧ Hold wr K 22 ((halves t k).map by8) ∧ Hold wr w.heap.size 22 (zeros.map by8) ∧ Below w.heap.size w wr ∧ ∀ i, i < k → 0 ≤ dg t i) (fun i _ => 32 - (intOf i).toNat)
        case atStart => exact ⟨0, by omega, rfl, by rw [halves_zero]; exact HK.out, HR.out, HB.out, fun i hi => absurd hi (by omega)⟩
        case round =>
          obtain ⟨k, hk, rfl, hk1, hr1', hb1, hall⟩ := hrel
          have HK := Lib.hid hk1; have HR := Lib.hid hr1'; have HB := Lib.hid hb1
          by_cases hlt : k < 32
          · obtain ⟨x, hx⟩ : ∃ x, dg t k = x := ⟨_, rfl⟩
            have hx' := (dg_get r t HT.out k (by omega)).symm.trans hx
            have hxr := dig_rng (r[k]'(by omega)).toNat
            rw [hx'] at hxr
            obtain ⟨hx1, hx2⟩ := hxr
            obtain ⟨o, ho⟩ : ∃ o, half t k = o := ⟨_, rfl⟩
            obtain ⟨ho1, ho2⟩ := half_rng t k hall
            have hcell : wr.cell? ⟨K, k / 2, none⟩ = some (.int .u8 o) := by rw [hk1.cell, List.getElem?_map, halves_get t k hlt, ← ho]; rfl
            have hfr := hk1.frozen (k / 2)
            rw [ho] at ho1 ho2
            have hset := halves_set t k hlt
            rw [ho, hx] at hset
            have HX := Lib.hid hx; have HX' := Lib.hid hx'; have HO := Lib.hid ho; have HS := Lib.hid hset; have HA := Lib.hid hall
            clear hx hx' ho hset hall hk1 hr1' hb1
            by_cases hx0 : 0 ≤ x
            · go_wp2_with fail
              refine (rdigit_any _ _ (byte_rng _).1 (byte_rng _).2).mono ?_
              rintro e w' ⟨rfl, rfl⟩
              rw [HX'.out]
              go_wp2_with fail
              refine ⟨⟨k + 1, hlt, by go_num, ?_, HR.out.far (by show w.heap.size ≠ K; exact hRK) _, HB.out.setCell hwK _, fun i hi => ?_⟩, by simp [intOf]; omega⟩
              · have h2 := HK.out.set (k / 2) (by8 (o * 16 + x))
                rw [← List.map_set, HS.out] at h2
                exact h2
              · rcases Nat.lt_or_ge i k with a | a
                · exact HA.out i a
                · obtain rfl : i = k := by omega
                  rw [HX.out]; exact hx0
            · have hnk : ¬ isKey t := fun h => hx0 (by have := h.2 k hlt; rw [HX.out] at this; exact this)
              obtain ⟨k1, k2⟩ := not_key HRZ.out HZ.out (.inl (by rw [len_bytes]; omega)) (by rw [HT.out]; exact hnk)
              have K1 := Lib.hid k1; have K2 := Lib.hid k2
              clear k1 k2 hnk
              go_wp2_with fail
              refine (rdigit_any _ _ (byte_rng _).1 (byte_rng _).2).mono ?_
              rintro e w' ⟨rfl, rfl⟩
              rw [HX'.out]
              go_wp2_with (first | (refine plain_store_arr 22 22 (.tmp 2) (.tmp 61) w.heap.size (zeros.map by8) (zeros.map by8) rfl rfl rfl rfl (arr_info rfl) (by8_one _) HR.out rfl ?_; intro w2 hR2 hg2) | fail)
              refine bodyPost_ret (results_cell2 rfl _ _ w.heap.size (zeros.map by8) _ rfl rfl hR2 Tryd.underlying22 (arr_info rfl)) rfl ⟨?_, gb_new HB.out hg2 HB.out.size (Nat.le_refl _)⟩
              rw [K1.out, K2.out]; rfl
          · obtain rfl : k = 32 := by omega
            have hik : isKey t := ⟨HTL.out, hall⟩
            obtain ⟨k1, k2⟩ := is_key HRZ.out HZ.out (.inl (by rw [len_bytes]; omega)) (by rw [HT.out]; exact hik)
            rw [HT.out] at k1
            rw [halves_all] at hk1
            have HKK := Lib.hid hk1; have K1 := Lib.hid k1; have K2 := Lib.hid k2
            clear k1 k2 hik hk1 hall hr1' hb1
            go_wp2_with (first
              | (refine plain_load_arr 22 22 5 16 (.tmp 4) K ((pairs t 16).map by8) rfl rfl rfl Tryd.underlying22 (arr_info (pairs_len _ _)) HKK.out ?_)
              | (refine plain_store_arr 22 22 (.tmp 2) (.tmp 73) w.heap.size (zeros.map by8) ((pairs t 16).map by8) rfl rfl rfl rfl (arr_info (pairs_len _ _)) (by8_one _) HR.out (by rw [List.length_map, List.length_map, pairs_len]; rfl) ?_; intro w2 hR2 hg2)
              | fail)
            refine bodyPost_ret (results_cell2 rfl _ _ w.heap.size ((pairs t 16).map by8) _ rfl rfl hR2 Tryd.underlying22 (arr_info (pairs_len _ _))) rfl ⟨?_, gb_new HB.out hg2 HB.out.size (Nat.le_refl _)⟩
            rw [K1.out, K2.out]; rfl
      · have hn1 : ((r.size : Int) == 32) = false := by simp; omega
        have hn2 : ((r.size : Int) != 32) = true := by simp; omega
        obtain ⟨k1, k2⟩ := not_key HRZ.out HZ.out (.inl (by rw [len_bytes]; omega)) (fun h => by have h1 := h.1; rw [len_bytes] at h1; omega)
        have K1 := Lib.hid k1; have K2 := Lib.hid k2
        have hle : r.size ≤ 32 := by omega
        clear k1 k2 h32 hlt
        go_wp2_with (first
          | (refine plain_load_arr 22 22 5 16 (.tmp 4) K (zeros.map by8) rfl rfl rfl Tryd.underlying22 (arr_info rfl) HK.out ?_)
          | (refine plain_store_arr 22 22 (.tmp 2) (.tmp 50) w.heap.size (zeros.map by8) (zeros.map by8) rfl rfl rfl rfl (arr_info rfl) (by8_one _) HR.out rfl ?_; intro w2 hR2 hg2)
          | fail)
        refine bodyPost_ret (results_cell2 rfl _ _ w.heap.size (zeros.map by8) _ rfl rfl hR2 Tryd.underlying22 (arr_info rfl)) rfl ⟨?_, gb_new HB.out hg2 HB.out.size (Nat.le_refl _)⟩
        rw [K1.out, K2.out]; rfl
end Go.Proofs.YtgdpgpmkokjdjaaDoor.Sp
