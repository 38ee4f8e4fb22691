/-
  What clepsydra/sip.Of answers: the key that a text tells, or none.
-/
import Derived.Test.YtgdpgpmkokjdjaaDoorSpStore
import Derived.Deep.DeepCutAuto
namespace Go.Proofs.YtgdpgpmkokjdjaaDoor.Sp
open Go.RowKit

def OfPost (l : List UInt8) (w : World) (e : Ending) (w' : World) : Prop := e = .returned (.tuple #[kval (keyOf l), .bool (keyIs l)]) ∧ Below w.heap.size w w'
theorem results_cell2 {P : Program} {fn : Func} {p : Tmp} {q : Tmp} {ty t e : TypeId} {n : Nat} (h : fn.results = #[.cell p ty, .tmp q]) (tmps : Array Value) (w : World) (g : Nat) (cs : List Value) (b : Value)
    (hp : tmps.getD p undef = .pointer (some ⟨g, 0, none⟩)) (hq : tmps.getD q undef = b) (hg : Hold w g t cs) (hu : P.underlying ty = some (.array n e)) (hi : (P.info? ty).map (·.size) = some cs.length) :
    (results fn tmps).run P w = .ok (.tuple #[.agg cs.toArray, b]) w := by
  have hp' : tmps[p]?.getD undef = .pointer (some ⟨g, 0, none⟩) := by simpa using hp
  have hq' : tmps[q]?.getD undef = b := by simpa using hq
  simp [results, h, hp', hq', asAddr, run_loadVar_row w g t ty cs.toArray (0, 0) _ hg hu rfl (by simpa using hi)]
theorem dg_get (r : ByteArray) (t : List UInt8) (h : r.data.toList = t) (i : Nat) (hi : i < r.size) : dg t i = dig (r[i].toNat : Int) := by
  subst h
  unfold dg
  have hl : i < r.data.toList.length := by simpa using hi
  rw [List.getD, List.getElem?_eq_getElem hl]; rfl

theorem Hold.new2 (w : World) (o : Obj) (t : TypeId) (cs : List Value) : Hold ((w.alloc o).alloc (.cells cs.toArray t)) (w.heap.size + 1) t cs := heap_alloc2_new w _ _
theorem digit_yes (c d : Int) (w : World) (h0 : 0 ≤ c) (h1 : c ≤ 255) (h : dig c = d) (hd : 0 ≤ d) : Calls Tryd.prog 23 #[.int .u8 c] w fun e w' => e = .returned (.tuple #[.int .u8 d, .bool true]) ∧ w = w' := by
  have := digit_any c w h0 h1
  rw [h, if_pos hd] at this; exact this
theorem digit_no (c d : Int) (w : World) (h0 : 0 ≤ c) (h1 : c ≤ 255) (h : dig c = d) (hd : ¬ 0 ≤ d) : Calls Tryd.prog 23 #[.int .u8 c] w fun e w' => e = .returned (.tuple #[.int .u8 0, .bool false]) ∧ w = w' := by
  have := digit_any c w h0 h1
  rw [h, if_neg hd] at this; exact this
theorem nib_all : ∀ a b : Fin 16, bits .or .u8 ((a.val : Int) * 16) (b.val : Int) = (a.val : Int) * 16 + b.val := by decide +kernel
theorem nib (x y : Int) (hx : 0 ≤ x ∧ x ≤ 15) (hy : 0 ≤ y ∧ y ≤ 15) : bits .or .u8 (x * 16) y = x * 16 + y := by
  obtain ⟨a, rfl⟩ : ∃ a : Nat, x = a := ⟨x.toNat, by omega⟩
  obtain ⟨b, rfl⟩ : ∃ b : Nat, y = b := ⟨y.toNat, by omega⟩
  exact nib_all ⟨a, by omega⟩ ⟨b, by omega⟩
theorem byte_rng (c : UInt8) : (0 : Int) ≤ (c.toNat : Int) ∧ (c.toNat : Int) ≤ 255 := by have := c.toNat_lt; omega
theorem keyOf_no {l t : List UInt8} (h : trimmed l = t) (hn : ¬ isKey t) : keyOf l = zeros := by unfold keyOf; rw [h, if_neg hn]
theorem keyIs_no {l t : List UInt8} (h : trimmed l = t) (hn : ¬ isKey t) : keyIs l = false := by unfold keyIs; rw [h]; exact decide_eq_false hn
theorem keyOf_yes {l t : List UInt8} (h : trimmed l = t) (hn : isKey t) : keyOf l = pairs t 16 := by unfold keyOf; rw [h, if_pos hn]
theorem keyIs_yes {l t : List UInt8} (h : trimmed l = t) (hn : isKey t) : keyIs l = true := by unfold keyIs; rw [h]; exact decide_eq_true hn
theorem pairs_set (t : List UInt8) (k : Nat) (hk : k < 16) (z : Int) (hz : dg t (2 * k) * 16 + dg t (2 * k + 1) = z) :
    (pairs t k ++ List.replicate (16 - k) 0).set k z = pairs t (k + 1) ++ List.replicate (16 - (k + 1)) 0 := by
  rw [List.set_append, if_neg (by rw [pairs_len]; omega), pairs_len, Nat.sub_self, show 16 - k = (16 - (k + 1)) + 1 by omega, List.replicate_succ, List.set_cons_zero, pairs_succ, hz, List.append_assoc]
  rfl

set_option maxHeartbeats 4000000 in
set_option maxRecDepth 100000 in
theorem of_any (s : ByteArray) (w : World) (hs : s.size ≤ 9223372036854775807) :
    Calls Tryd.prog 14 #[.string s] w (OfPost s.data.toList w) := by
  go_enter Tryd.func14, Tryd.ntmps14
  go_wp2_with fail
  refine (trim_any s _ hs).mono ?_
  rintro e w1 ⟨rfl, hb⟩
  obtain ⟨t, ht⟩ : ∃ t, trimmed s.data.toList = t := ⟨_, rfl⟩
  obtain ⟨r, hr⟩ : ∃ r : ByteArray, (⟨t.toArray⟩ : ByteArray) = r := ⟨_, rfl⟩
  have hrt : r.data.toList = t := by rw [← hr]
  rw [ht, hr]
  have hsz : r.size = t.length := by rw [← hr]; simp [ByteArray.size]
  have HT := Lib.hid ht; have HRT := Lib.hid hrt
  clear ht hr hrt
  have hR : Hold w1 w.heap.size 23 (zeros.map by8) := Hold.below (((Hold.new w 23 (zeros.map by8)).alloc (.cells (zeros.map by8).toArray 23))) hb (by simp; omega)
  have hK : Hold w1 (w.heap.size + 1) 23 (zeros.map by8) := Hold.below (Hold.new2 w (.cells (zeros.map by8).toArray 23) 23 (zeros.map by8)) hb (by simp)
  have hbw : Below w.heap.size w w1 := (((Below.refl _ _).alloc (Nat.le_refl _) _).alloc (by simp) _).trans (hb.mono (by simp; omega))
  clear hb
  have hne : ¬ (w.heap.size + 1 = w.heap.size) := by omega
  obtain ⟨K, hKK⟩ : ∃ K, w.heap.size + 1 = K := ⟨_, rfl⟩
  have hwK : w.heap.size ≤ K := by omega
  have hRK : w.heap.size ≠ K := by omega
  rw [hKK] at hK ⊢
  have HR := Lib.hid hR; have HK := Lib.hid hK; have HB := Lib.hid hbw
  clear hR hK hbw hKK hne
  by_cases h32 : t.length = 32
  · have hr1 : 32 ≤ r.size := by omega
    have hr2 : r.size ≤ 32 := by omega
    have hn1 : ((r.size : Int) == 32) = true := by rw [hsz, h32]; rfl
    have hn2 : ((r.size : Int) != 32) = false := by rw [hsz, h32]; rfl
    have H32 := Lib.hid h32
    clear hsz h32
    go_wp2_with fail
    go_loopw [16] (fun i wr => ∃ k : Nat, k ≤ 16 ∧ i = .int .i64 k ∧ Hold wr K 23 ((pairs t k ++ List.replicate (16 - k) 0).map by8) ∧ Hold wr w.heap.size 23 (zeros.map by8) ∧ Below w.heap.size w wr ∧ ∀ i, i < 2 * k → 0 ≤ dg t i) (fun i _ => 16 - (intOf i).toNat)
    case atStart => exact ⟨0, by omega, rfl, HK.out, HR.out, HB.out, fun i hi => absurd hi (by omega)⟩
    case round =>
      obtain ⟨k, hk, rfl, hk1, hr1', hb1, hall⟩ := hrel
      have HK := Lib.hid hk1; have HR := Lib.hid hr1'; have HB := Lib.hid hb1; have HA := Lib.hid hall
      clear hk1 hr1' hb1 hall
      by_cases hlt : k < 16
      · obtain ⟨x, hx⟩ : ∃ x, dg t (2 * k) = x := ⟨_, rfl⟩
        obtain ⟨y, hy⟩ : ∃ y, dg t (2 * k + 1) = y := ⟨_, rfl⟩
        have hx' := (dg_get r t HRT.out (2 * k) (by omega)).symm.trans hx
        have hy' := (dg_get r t HRT.out (2 * k + 1) (by omega)).symm.trans hy
        have hxr := dig_rng (r[2 * k]'(by omega)).toNat
        have hyr := dig_rng (r[2 * k + 1]'(by omega)).toNat
        rw [hx'] at hxr
        rw [hy'] at hyr
        have HX := Lib.hid hx; have HY := Lib.hid hy; have HX' := Lib.hid hx'; have HY' := Lib.hid hy'
        clear hx hy hx' hy'
        obtain ⟨hx1, hx2⟩ := hxr
        obtain ⟨hy1, hy2⟩ := hyr
        by_cases hx0 : 0 ≤ x
        · by_cases hy0 : 0 ≤ y
          · have hnib := nib x y ⟨hx0, hx2⟩ ⟨hy0, hy2⟩
            have cK : ∃ u, wr.cell? ⟨K, k, none⟩ = some u := by
              rw [HK.out.cell]
              exact ⟨_, List.getElem?_eq_getElem (by rw [List.length_map, List.length_append, pairs_len, List.length_replicate]; omega)⟩
            obtain ⟨u, cK⟩ := cK
            have fK := HK.out.frozen k
            have HN := Lib.hid hnib; clear hnib
            go_wp2_with fail
            refine (digit_yes _ x _ (byte_rng _).1 (byte_rng _).2 HX'.out hx0).mono ?_
            rintro e w' ⟨rfl, rfl⟩
            go_wp2_with fail
            refine (digit_yes _ y _ (byte_rng _).1 (byte_rng _).2 HY'.out hy0).mono ?_
            rintro e w' ⟨rfl, rfl⟩
            go_wp2_with fail
            rw [HN.out]
            refine ⟨⟨k + 1, hlt, by go_num, ?_, HR.out.far (by show w.heap.size ≠ K; exact hRK) _, HB.out.setCell hwK _, fun i hi => ?_⟩, by simp [intOf]; omega⟩
            · have h2 := HK.out.set k (by8 (x * 16 + y))
              rw [← List.map_set, pairs_set t k hlt (x * 16 + y) (by rw [HX.out, HY.out])] at h2
              exact h2
            · rcases Nat.lt_or_ge i (2 * k) with a | a
              · exact HA.out i a
              · rcases Nat.lt_or_ge i (2 * k + 1) with b | b
                · obtain rfl : i = 2 * k := by omega
                  rw [HX.out]; omega
                · obtain rfl : i = 2 * k + 1 := by omega
                  rw [HY.out]; omega
          · have hnk : ¬ isKey t := fun h => hy0 (by have := h.2 (2 * k + 1) (by omega); rw [HY.out] at this; exact this)
            go_wp2_with fail
            refine (digit_yes _ x _ (byte_rng _).1 (byte_rng _).2 HX'.out hx0).mono ?_
            rintro e w' ⟨rfl, rfl⟩
            go_wp2_with fail
            refine (digit_no _ y _ (byte_rng _).1 (byte_rng _).2 HY'.out (by omega)).mono ?_
            rintro e w' ⟨rfl, rfl⟩
            go_wp2_with (first | (refine plain_store_arr 23 23 (.tmp 2) (.tmp 41) w.heap.size (zeros.map by8) (zeros.map by8) rfl rfl rfl rfl (key_info rfl) (by8_one _) HR.out rfl ?_; intro w2 hR2 hg2) | fail)
            refine bodyPost_ret (results_cell2 rfl _ _ w.heap.size (zeros.map by8) _ rfl rfl hR2 Tryd.underlying23 (key_info rfl)) rfl ⟨?_, gb_new HB.out hg2 HB.out.size (Nat.le_refl _)⟩
            rw [keyOf_no HT.out hnk, keyIs_no HT.out hnk]; rfl
        · have hnk : ¬ isKey t := fun h => hx0 (by have := h.2 (2 * k) (by omega); rw [HX.out] at this; exact this)
          go_wp2_with fail
          refine (digit_no _ x _ (byte_rng _).1 (byte_rng _).2 HX'.out (by omega)).mono ?_
          rintro e w' ⟨rfl, rfl⟩
          go_wp2_with (first | (refine plain_store_arr 23 23 (.tmp 2) (.tmp 29) w.heap.size (zeros.map by8) (zeros.map by8) rfl rfl rfl rfl (key_info rfl) (by8_one _) HR.out rfl ?_; intro w2 hR2 hg2) | fail)
          refine bodyPost_ret (results_cell2 rfl _ _ w.heap.size (zeros.map by8) _ rfl rfl hR2 Tryd.underlying23 (key_info rfl)) rfl ⟨?_, gb_new HB.out hg2 HB.out.size (Nat.le_refl _)⟩
          rw [keyOf_no HT.out hnk, keyIs_no HT.out hnk]; rfl
      · have hk16 : k = 16 := by omega
        have hKK : Hold wr K 23 ((pairs t 16).map by8) := by have := HK.out; rw [hk16] at this; simpa using this
        have hik : isKey t := ⟨H32.out, fun i hi => HA.out i (by omega)⟩
        have HKK := Lib.hid hKK; have HIK := Lib.hid hik; clear hKK hik hk16
        go_wp2_with (first
          | (refine plain_load_arr 23 23 5 16 (.tmp 4) K ((pairs t 16).map by8) rfl rfl rfl Tryd.underlying23 (key_info (pairs_len _ _)) HKK.out ?_)
          | (refine plain_store_arr 23 23 (.tmp 2) (.tmp 49) w.heap.size (zeros.map by8) ((pairs t 16).map by8) rfl rfl rfl rfl (key_info (pairs_len _ _)) (by8_one _) HR.out (by rw [List.length_map, List.length_map, pairs_len]; rfl) ?_; intro w2 hR2 hg2)
          | fail)
        refine bodyPost_ret (results_cell2 rfl _ _ w.heap.size ((pairs t 16).map by8) _ rfl rfl hR2 Tryd.underlying23 (key_info (pairs_len _ _))) rfl ⟨?_, gb_new HB.out hg2 HB.out.size (Nat.le_refl _)⟩
        rw [keyOf_yes HT.out HIK.out, keyIs_yes HT.out HIK.out]; rfl
  · have hn1 : ((r.size : Int) == 32) = false := by rw [hsz]; simp; omega
    have hn2 : ((r.size : Int) != 32) = true := by rw [hsz]; simp; omega
    have hnk : ¬ isKey t := fun h => h32 h.1
    clear hsz
    go_wp2_with (first | (refine plain_store_arr 23 23 (.tmp 2) (.tmp 15) w.heap.size (zeros.map by8) (zeros.map by8) rfl rfl rfl rfl (key_info rfl) (by8_one _) HR.out rfl ?_; intro w2 hR2 hg2) | fail)
    refine bodyPost_ret (results_cell2 rfl _ _ w.heap.size (zeros.map by8) _ rfl rfl hR2 Tryd.underlying23 (key_info rfl)) rfl ⟨?_, gb_new HB.out hg2 HB.out.size (Nat.le_refl _)⟩
    rw [keyOf_no HT.out hnk, keyIs_no HT.out hnk]; rfl
end Go.Proofs.YtgdpgpmkokjdjaaDoor.Sp
