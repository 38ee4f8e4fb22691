/-
  The walk of the law TimespanUnits.
-/
import Derived.Test.YtcllimfaoajapaaDoorTsUnitsPlain
import Derived.Test.YtcllimfaoajapaaDoorTsRefText
import Derived.Lib.QuietBelow
namespace Go.Proofs.YtcllimfaoajapaaDoor.Ts
open Go.RowKit

theorem below_class {W w' : World} (h : ∃ p : Regrown, w' = Sort.grow (redrawn W p.d) p.os) : Below W.heap.size W w' := by
  obtain ⟨p, rfl⟩ := h; exact below_regrown W p.d p.os
theorem below_drewN {B : Nat} {a w : World} (h : Below B a w) : ∀ m, Below B a (w.drewN m)
  | 0 => h
  | m + 1 => (below_drewN h m).drew
/-- A walk from any world of which the same is known. -/
theorem wp_world {P : Program} {c : Code} {Q : Exit → Act → World → Prop} {a : Act} {W : World} (R : World → Prop) (h : R W) (k : ∀ W, R W → Code.wp P c Q a W) : Code.wp P c Q a W := k W h
theorem cell_strs (l : List (List UInt8)) (w : World) (T : TypeId) (k : Nat) (h : k < l.length) : (w.alloc (.cells (l.map fun x => Value.string ⟨x.toArray⟩).toArray T)).cell? ⟨w.heap.size, k, none⟩ = some (.string ⟨(l.getD k []).toArray⟩) := by
  simp [go_sem, h]
theorem cell_nums (l : List Int) (w : World) (T : TypeId) (k : Nat) (h : k < l.length) : (w.alloc (.cells (l.map (Value.int .i64)).toArray T)).cell? ⟨w.heap.size, k, none⟩ = some (.int .i64 (l.getD k 0)) := by
  simp [go_sem, h]
def byI : List Int := [1, 1, 1000, 1000, 1000000, 1000000, 1000000, 1000000, 60000000, 60000000, 60000000, 60000000, 3600000000, 3600000000, 3600000000, 3600000000, 86400000000, 86400000000, 86400000000, 604800000000, 604800000000, 604800000000, 2629800000000, 2629800000000, 2629800000000, 31557600000000, 31557600000000, 31557600000000, 1000000]
theorem byI_nat : ∀ k : Nat, k < 29 → byI.getD k 0 = ((byK.getD k 0 : Nat) : Int) := by decide

set_option maxRecDepth 100000 in
set_option maxHeartbeats 8000000 in
theorem units_main (n g which : Int) (w : World) (htab : Lib.TabIs Tryd.prog w "internal/strconv.uint64pow10" .u64 Lib.pow10Tab) (hn : 0 ≤ n ∧ n < 4294967296) (hg : 0 ≤ g ∧ g < 4294967296) (hw : 0 ≤ which ∧ which < 256) :
    Calls Tryd.prog 6 #[.int .u32 n, .int .u32 g, .int .u8 which] w fun e w' => e = .returned (.bool true) ∧ Below w.heap.size w w' := by
  have HT := Lib.hid htab
  clear htab
  obtain ⟨k, hk, hk2⟩ : ∃ k : Nat, k < 29 ∧ which % 29 = (k : Int) := ⟨(which % 29).toNat, by omega, by omega⟩
  obtain ⟨x, hx, hx2⟩ : ∃ x : Nat, x < 262144 ∧ n % 262144 = (x : Int) := ⟨(n % 262144).toNat, by omega, by omega⟩
  obtain ⟨f, hf, hf2⟩ : ∃ f : Nat, f < 1000000 ∧ g % 1000000 = (f : Int) := ⟨(g % 1000000).toNat, by omega, by omega⟩
  obtain ⟨hn0, hn1⟩ := hn
  obtain ⟨hg0, hg1⟩ := hg
  obtain ⟨hw0, hw1⟩ := hw
  have hNM := names_ok k hk
  obtain ⟨hu1, hu2, hnl⟩ := by_bd k hk
  go_enter Tryd.func6, Tryd.ntmps6
  go_wp2
  have hc1 : ((w.alloc (.cells (nmK.map fun x => Value.string ⟨x.toArray⟩).toArray 9)).alloc (.cells (byI.map (Value.int .i64)).toArray 2)).cell? ⟨w.heap.size, k, none⟩ = some (.string ⟨(nmK.getD k []).toArray⟩) := by
    have := cell_strs nmK w 9 k hk
    rw [World.cell?_alloc_lt _ _ _ (World.block_lt_of_cell? _ _ this)]; exact this
  have hc2 : ((w.alloc (.cells (nmK.map fun x => Value.string ⟨x.toArray⟩).toArray 9)).alloc (.cells (byI.map (Value.int .i64)).toArray 2)).cell? ⟨w.heap.size + 1, k, none⟩ = some (.int .i64 ((byK.getD k 0 : Nat) : Int)) := by
    have := cell_nums byI (w.alloc (.cells (nmK.map fun x => Value.string ⟨x.toArray⟩).toArray 9)) 2 k hk
    rw [show (w.alloc (.cells (nmK.map fun x => Value.string ⟨x.toArray⟩).toArray 9)).heap.size = w.heap.size + 1 by simp, byI_nat k hk] at this
    exact this
  have hwb : Below w.heap.size w ((w.alloc (.cells (nmK.map fun x => Value.string ⟨x.toArray⟩).toArray 9)).alloc (.cells (byI.map (Value.int .i64)).toArray 2)) := ((Below.refl w.heap.size w).alloc (Nat.le_refl _) _).alloc (by simp) _
  have hws : ((w.alloc (.cells (nmK.map fun x => Value.string ⟨x.toArray⟩).toArray 9)).alloc (.cells (byI.map (Value.int .i64)).toArray 2)).heap.size = w.heap.size + 2 := by simp
  generalize hW : (w.alloc (.cells (nmK.map fun x => Value.string ⟨x.toArray⟩).toArray 9)).alloc (.cells (byI.map (Value.int .i64)).toArray 2) = W at hc1 hc2 hwb hws
  have hW' := hW
  simp only [nmK, byI, List.map_cons, List.map_nil] at hW'
  rw [hW', hk2, hx2, hf2]
  have hnm := hNM
  generalize hnmm : nmK.getD k [] = nml at hc1 hNM hnl hnm
  generalize byK.getD k 0 = u at hc2 hNM hu1 hu2 hnm
  obtain ⟨nm, hnms⟩ : ∃ nm : ByteArray, (⟨nml.toArray⟩ : ByteArray) = nm := ⟨_, rfl⟩
  have HNS := Lib.hid (show nm.data.toList = nml by rw [← hnms])
  have hnz : nm.size ≤ 7 := by rw [size_of, HNS.out]; exact hnl
  rw [hnms] at hc1
  have HC1 := Lib.hid hc1
  have HC2 := Lib.hid hc2
  have HWB := Lib.hid hwb
  have HWS := Lib.hid hws
  have HN := Lib.hid hNM
  have HX2 := Lib.hid hx2
  have HF2 := Lib.hid hf2
  clear hW hW' hnm hnmm hnms hc1 hc2 hwb hws hNM hnl hk2 hx2 hf2
  go_loop [11, 12, 13] (fun a b c => ∃ (i y : Nat) (D : ByteArray), i ≤ 6 ∧ y ≤ 999999 ∧ a = .int .i64 (y : Int) ∧ b = .string D ∧ c = .int .i64 (i : Int) ∧ D.size = i ∧ Low f i y D.data.toList) (fun _ _ c => 6 - (intOf c).toNat)
  case atStart => exact ⟨0, f, ⟨#[]⟩, by omega, by omega, rfl, rfl, rfl, rfl, rfl, (fun c hc => by cases hc), by simp [dec]⟩
  case round =>
    obtain ⟨i, y, D, hi, hy, rfl, rfl, rfl, hDs, hlow⟩ := hrel
    have HL := Lib.hid hlow
    have HDS := Lib.hid hDs
    have hD7 : D.size ≤ 6 := by omega
    clear hlow hDs
    by_cases hi6 : i < 6
    · have HSTEP := Lib.hid HL.out.step
      have hd10 : y % 10 < 10 := Nat.mod_lt _ (by omega)
      have hyi : (y : Int) % 10 = ((y % 10 : Nat) : Int) := by simp
      generalize y % 10 = d at hd10 hyi HSTEP
      have HP := Lib.hid (piece d hd10)
      have HPS := Lib.hid (show ((⟨#[48, 49, 50, 51, 52, 53, 54, 55, 56, 57]⟩ : ByteArray).extract d (d + 1)).size = 1 by rw [HP.out]; rfl)
      have s1 : ((⟨#[48, 49, 50, 51, 52, 53, 54, 55, 56, 57]⟩ : ByteArray).extract d (d + 1)).size + D.size ≤ 9223372036854775807 := by rw [HPS.out]; omega
      go_wp2
      go_round
      case rel => exact ⟨i + 1, y / 10, _, by omega, by omega, by simp, rfl, by go_num, by rw [ByteArray.size_append, HPS.out, HDS.out]; omega, by rw [HP.out]; simpa using HSTEP.out⟩
      case measure => simp [intOf]; omega
    · have HI6 := Lib.hid (show i = 6 by omega)
      have HD := Lib.hid HL.out
      have hf2 := HF2.out
      go_upto_block 2 with (fail)
      clear hf2
      try rw [HF2.out]
      go_cut [14, 15] (fun a _ wx => (∃ ts : ByteArray, a = .string ts ∧ ts.data.toList = Lib.decDigits x ∧ ts.size ≤ 20) ∧ W = wx)
      case first =>
        by_cases hx0 : x = 0
        · subst hx0
          have hp0 : (⟨#[48, 49, 50, 51, 52, 53, 54, 55, 56, 57]⟩ : ByteArray).extract 0 1 = ⟨#[48]⟩ := rfl
          have hp1 : ((⟨#[48]⟩ : ByteArray) ++ ⟨#[]⟩).toList.isEmpty = false := by rw [Lib.toList_data]; rfl
          go_wp2
          refine wp_loop_rounds 2 ?_
          rw [rounds_succ]
          go_wp2
          rw [rounds_succ]
          go_wp2
          go_meet
          exact ⟨⟨_, rfl, by rw [dd_small (by omega)]; rfl, by rw [ByteArray.size_append]; decide⟩, rfl⟩
        · have HDL := Lib.hid (show (Lib.decDigits x).length ≤ 20 from Nat.le_trans (dec_len 18 x (by omega)) (by omega))
          go_wp2
          go_loop [14, 15] (fun a b => ∃ (y : Nat) (ts : ByteArray), y ≤ 262144 ∧ b = .int .i64 (y : Int) ∧ a = .string ts ∧ Dig x y ts.data.toList) (fun _ b => (intOf b).toNat)
          case atStart => exact ⟨x, ⟨#[]⟩, by omega, rfl, rfl, .inl ⟨by omega, by simp⟩⟩
          case round =>
            obtain ⟨y, ts, hy, rfl, rfl, hdig⟩ := hrel
            have htl := hdig.len
            have htl2 : ts.size ≤ 20 := by rw [size_of]; exact Nat.le_trans htl HDL.out
            have HDG := Lib.hid hdig
            clear hdig htl
            by_cases hy0 : 0 < y
            · have HSTEP := Lib.hid (HDG.out.step hy0)
              have hd10 : y % 10 < 10 := Nat.mod_lt _ (by omega)
              have hyi : (y : Int) % 10 = ((y % 10 : Nat) : Int) := by simp
              generalize y % 10 = d at hd10 hyi HSTEP
              have HP := Lib.hid (piece d hd10)
              have HPS := Lib.hid (show ((⟨#[48, 49, 50, 51, 52, 53, 54, 55, 56, 57]⟩ : ByteArray).extract d (d + 1)).size = 1 by rw [HP.out]; rfl)
              have s1 : ((⟨#[48, 49, 50, 51, 52, 53, 54, 55, 56, 57]⟩ : ByteArray).extract d (d + 1)).size + ts.size ≤ 9223372036854775807 := by rw [HPS.out]; omega
              go_wp2
              go_round
              case rel => exact ⟨y / 10, _, by omega, by simp, rfl, by rw [HP.out]; simpa using HSTEP.out⟩
              case measure => simp [intOf]; omega
            · obtain rfl : y = 0 := by omega
              have HTS := Lib.hid (show ts.data.toList = Lib.decDigits x by rcases HDG.out with ⟨q, _⟩ | ⟨_, q⟩; omega; exact q)
              have hie : ts.toList.isEmpty = false := not_empty rfl (by rw [HTS.out]; exact (digits_all x x (Nat.le_refl _)).2.2)
              go_wp2
              go_meet
              exact ⟨⟨ts, rfl, HTS.out, htl2⟩, rfl⟩
      case rest =>
        obtain ⟨⟨ts, rfl, hts, hts2⟩, rfl⟩ := hcut
        have HTS := Lib.hid hts
        clear hts
        have hxu : x * u ≤ 262144 * 31557600000000 := Nat.mul_le_mul (by omega) hu2
        obtain ⟨s1, s2, s3⟩ := share_bd f u (by omega) hu2
        have hs1 : 0 ≤ (u : Int) / 1000000 * (f : Int) ∧ (u : Int) / 1000000 * (f : Int) ≤ 31557600000000 := by
          rw [show (u : Int) / 1000000 * (f : Int) = ((f * (u / 1000000) : Nat) : Int) by simp [Int.mul_comm]]; omega
        have hs2 : 0 ≤ (u : Int) % 1000000 * (f : Int) ∧ (u : Int) % 1000000 * (f : Int) ≤ 1000000000000 := by
          rw [show (u : Int) % 1000000 * (f : Int) = ((f * (u % 1000000) : Nat) : Int) by simp [Int.mul_comm]]; omega
        have hsh : (u : Int) / 1000000 * (f : Int) + (u : Int) % 1000000 * (f : Int) / 1000000 = ((share f u : Nat) : Int) := by
          unfold share; simp [Int.mul_comm]
        have hpr : ((x * u : Nat) : Int) = (x : Int) * (u : Int) := by simp
        have hb : 0 ≤ (x : Int) * (u : Int) ∧ (x : Int) * (u : Int) ≤ 8272635494400000000 := by rw [← hpr]; omega
        have hi6e := HI6.out
        obtain ⟨hDl, hDa, hDf⟩ := HD.out
        have hxl : f = dec D.data.toList := by
          have hy0 : y * 10 ^ i + dec D.data.toList = f := hDf
          have hdb := six_dec D.data.toList.length D.data.toList rfl hDa
          rw [hDl, hi6e] at hdb
          rw [hi6e] at hy0
          have : y = 0 := by
            rcases Nat.eq_zero_or_pos y with e | e
            · exact e
            · omega
          subst this; omega
        have P1 := Lib.hid (show parsed (ts ++ nm).data.toList = ((x : Int) * (u : Int), 0) by
          have := (units_bare HN.out (by omega) x).parsed (by omega) (Z1 := []) (Z2 := []) (by simp) (by simp)
          rw [hpr] at this; rw [show (ts ++ nm).data.toList = ts.data.toList ++ nm.data.toList by simp, HTS.out, HNS.out]; simpa using this)
        have P2 := Lib.hid (show parsed (ts ++ ⟨#[32, 9]⟩ ++ nm).data.toList = ((x : Int) * (u : Int), 0) by
          have := units_blank HN.out (by omega) x (by omega)
          rw [hpr] at this; rw [show (ts ++ ⟨#[32, 9]⟩ ++ nm).data.toList = ts.data.toList ++ [32, 9] ++ nm.data.toList by simp, HTS.out, HNS.out]; exact this)
        have P3 := Lib.hid (show parsed (ts ++ ⟨#[46]⟩ ++ D ++ nm).data.toList = ((x : Int) * (u : Int) + ((share f u : Nat) : Int), 0) by
          have := units_frac HN.out (by omega) x f D.data.toList hDa (by rw [hDl, hi6e]) hxl.symm (by omega)
          rw [Int.natCast_add, hpr] at this; rw [show (ts ++ ⟨#[46]⟩ ++ D ++ nm).data.toList = ts.data.toList ++ [46] ++ D.data.toList ++ nm.data.toList by simp, HTS.out, HNS.out]; exact this)
        obtain ⟨a1, a2⟩ := hs1
        obtain ⟨a3, a4⟩ := hs2
        obtain ⟨b1, b2⟩ := hb
        have HSH := Lib.hid hsh
        have hsb : (share f u : Int) ≤ 31557601000000 := by omega
        have c1 := HC1.out
        have c2 := HC2.out
        have hk0 : (0 : Int) ≤ (k : Int) := by omega
        have hk29 : (k : Int) < 29 := by omega
        clear hsh hxu s1 s2 s3 hpr hxl hDl hDa hDf hi6e
        go_wp2_with fail
        go_quiet (fail)
        rw [HSH.out]
        generalize share f u = sh at *
        clear a1 a2 a3 a4 HSH
        go_wp2_with fail
        refine wp_world (R := fun V => V.cell? ⟨w.heap.size, k, none⟩ = some (.string nm) ∧ V.cell? ⟨w.heap.size + 1, k, none⟩ = some (.int .i64 (u : Int)) ∧ Below w.heap.size w V) ⟨by simpa using HC1.out, by simpa using HC2.out, below_drewN HWB.out _⟩ ?_
        rintro V ⟨d1, d2, hbv⟩
        clear c1 c2
        have q1 : ∀ dq osq, (Sort.grow (redrawn V dq) osq).cell? ⟨w.heap.size, k, none⟩ = some (.string nm) := fun dq osq => cell_regrown d1 dq osq
        have q2 : ∀ dq osq, (Sort.grow (redrawn V dq) osq).cell? ⟨w.heap.size + 1, k, none⟩ = some (.int .i64 (u : Int)) := fun dq osq => cell_regrown d2 dq osq
        have HTV := Lib.hid (tabAt w V HT.out hbv)
        have HBV := Lib.hid hbv
        clear d1 d2 hbv
        have t1 : ts.size + nm.size ≤ 9223372036854775807 := by omega
        have t2 : ts.size + (⟨#[32, 9]⟩ : ByteArray).size ≤ 9223372036854775807 := by show ts.size + 2 ≤ _; omega
        have t3 : (ts ++ (⟨#[32, 9]⟩ : ByteArray)).size + nm.size ≤ 9223372036854775807 := by rw [ByteArray.size_append]; show ts.size + 2 + nm.size ≤ _; omega
        have t4 : ts.size + (⟨#[46]⟩ : ByteArray).size ≤ 9223372036854775807 := by show ts.size + 1 ≤ _; omega
        have t5 : (ts ++ (⟨#[46]⟩ : ByteArray)).size + D.size ≤ 9223372036854775807 := by rw [ByteArray.size_append]; show ts.size + 1 + D.size ≤ _; omega
        have t6 : (ts ++ (⟨#[46]⟩ : ByteArray) ++ D).size + nm.size ≤ 9223372036854775807 := by rw [ByteArray.size_append, ByteArray.size_append]; show ts.size + 1 + D.size + nm.size ≤ _; omega
        have K1 := Lib.hid (fun w' : World => is_yes (ts ++ nm) _ 0 w' (by rw [ByteArray.size_append]; exact t1) P1.out)
        have K2 := Lib.hid (fun w' : World => is_yes (ts ++ ⟨#[32, 9]⟩ ++ nm) _ 0 w' (by rw [ByteArray.size_append]; exact t3) P2.out)
        have K3 := Lib.hid (fun w' : World => is_yes (ts ++ ⟨#[46]⟩ ++ D ++ nm) _ 0 w' (by rw [ByteArray.size_append]; exact t6) P3.out)
        refine wp_region_quiet_below (by kernel_rfl) (by kernel_rfl) ?_
        repeat (first | go_big_quiet_step (first | (go_at_call 14; with_reducible exact Calls.regrown_of (K1.out _)) | (go_at_call 14; with_reducible exact Calls.regrown_of (K2.out _)) | (go_at_call 14; with_reducible exact Calls.regrown_of (K3.out _)) | (go_at_call 9; with_reducible exact Calls.regrown_of (works_any _ (tabAt V _ HTV.out (below_regrown V _ _))))) | quiet_step (first | (go_at_call 14; with_reducible exact Calls.regrown_of (K1.out _)) | (go_at_call 14; with_reducible exact Calls.regrown_of (K2.out _)) | (go_at_call 14; with_reducible exact Calls.regrown_of (K3.out _)) | (go_at_call 9; with_reducible exact Calls.regrown_of (works_any _ (tabAt V _ HTV.out (below_regrown V _ _))))))
        refine wpQuiet_nil ?_
        intro V2 hV
        have hB := Lib.hid (below_class hV)
        clear hV q1 q2
        go_wp2
        go_ret
        exact ⟨rfl, HBV.out.trans (hB.out.mono HBV.out.size)⟩
theorem u32_wf {n : Int} (h : (Lit.int .u32 n).wf = true) : 0 ≤ n ∧ n < 4294967296 := by
  simp [Lit.wf, IntKind.min, IntKind.max, IntKind.bits, IntKind.signed] at h; omega
end Go.Proofs.YtcllimfaoajapaaDoor.Ts
