/-
  Layer 11 (lines): the document's own trim, walked.
-/
import Derived.Test.YtokeepmlibolfaaDoorLnRefT
import Derived.Laws.DeepStrings4
namespace Go.Proofs.YtokeepmlibolfaaDoor.Ln
open Go.RowKit
set_option maxRecDepth 100000

theorem cut_bs (l : List UInt8) (a b : Nat) : (bs l).extract a b = bs ((l.take b).drop a) := by
  rw [← bs_of ((bs l).extract a b)]
  congr 1
  have h := Lib.extract_toList (bs l) a b
  rw [Lib.toList_data, bs_list] at h
  rw [h, List.drop_take]
theorem sl_run (S : ByteArray) (a b : Nat) (hab : a ≤ b) (hb : b ≤ S.size) (V : World) : (Instr.slice 9 (.string S) (some (.int .i64 (a : Int))) (some (.int .i64 (b : Int))) none).run Tryd.prog V = .ok (.string (S.extract a b)) V := by
  rw [run_slice_string_if V 9 S .i64 .i64 (a : Int) (b : Int) Tryd.underlying9, if_pos (by omega), if_pos (by omega)]
  simp
set_option maxHeartbeats 1600000 in
theorem rtrim_ends (l : List UInt8) (hl : l.length ≤ 9223372036854775807) (a b : Nat) (hab : a ≤ b) (hb : b ≤ l.length) (h1 : ∀ j, j < a → blk (l.getD j 0) = true) (h2 : a < b → blk (l.getD a 0) = false) (h3 : ∀ j, b ≤ j → j < l.length → blk (l.getD j 0) = true) (h4 : a < b → blk (l.getD (b - 1) 0) = false) (h5 : a = b → a = l.length) (w : World) :
    Calls Tryd.prog 17 #[.string (bs l)] w fun e w' => e = .returned (.string (bs ((l.take b).drop a))) ∧ w = w' := by
  have HS : Hid (∀ k (hk : k < (bs l).size), (bs l)[k] = l.getD k 0) := Lib.hid fun k hk => at_list hk
  have HE : Hid ((bs l).extract a b = bs ((l.take b).drop a)) := Lib.hid (cut_bs l a b)
  have H6 : Hid (a = b → bs ((l.take b).drop a) = ByteArray.empty) := Lib.hid fun e => by
    subst e
    rw [List.drop_eq_nil_of_le (by rw [List.length_take]; omega)]
    rfl
  have hsz : (bs l).size = l.length := rfl
  have H1 := Lib.hid h1
  have H2 := Lib.hid h2
  have H3 := Lib.hid h3
  have H4 := Lib.hid h4
  have H5 := Lib.hid h5
  clear h1 h2 h3 h4 h5
  obtain ⟨n, hn⟩ : ∃ n, l.length = n := ⟨_, rfl⟩
  rw [hn] at hsz H3 hl hb H5
  generalize bs ((l.take b).drop a) = R at *
  generalize hS : bs l = S at *
  go_enter Tryd.func17, Tryd.ntmps17
  go_wp2
  go_loop [3] (fun i => ∃ k : Nat, k ≤ a ∧ i = .int .i64 k) (fun i => n - (intOf i).toNat)
  case atStart => exact ⟨0, Nat.zero_le _, rfl⟩
  case round =>
    obtain ⟨k, hk, rfl⟩ := hrel
    by_cases hka : k < a
    · have hkz : k < S.size := by omega
      have HB := Lib.hid (HS.out k hkz)
      have HC : Hid (∀ V, Calls Tryd.prog 32 #[.int .u8 (S[k].toNat : Int)] V fun e w' => e = .returned (.bool true) ∧ V = w') := Lib.hid fun V => by rw [HB.out]; exact rblank_at _ _ V (H1.out k hka)
      go_wp2_with (first | (go_at_call 32; refine (HC.out _).mono ?_; clear HC; rintro e V ⟨rfl, rfl⟩) | fail)
      go_round
      case rel => exact ⟨k + 1, by omega, by go_num⟩
      case measure => simp only [intOf]; omega
    · obtain rfl : k = a := by omega
      by_cases hkb : k < b
      · have hkz : k < S.size := by omega
        have HB := Lib.hid (HS.out k hkz)
        have HC : Hid (∀ V, Calls Tryd.prog 32 #[.int .u8 (S[k].toNat : Int)] V fun e w' => e = .returned (.bool false) ∧ V = w') := Lib.hid fun V => by rw [HB.out]; exact rblank_at _ _ V (H2.out hkb)
        go_wp2_with (first | (go_at_call 32; refine (HC.out _).mono ?_; clear HC; rintro e V ⟨rfl, rfl⟩) | fail)
        go_loop [4] (fun i => ∃ j : Nat, b ≤ j ∧ j ≤ n ∧ i = .int .i64 j) (fun i => (intOf i).toNat)
        case atStart => exact ⟨n, hb, Nat.le_refl _, rfl⟩
        case round =>
          obtain ⟨j, hj1, hj2, rfl⟩ := hrel
          have hjz : j - 1 < S.size := by omega
          have hjk : k < j := by omega
          obtain ⟨q, rfl⟩ : ∃ q, j = q + 1 := ⟨j - 1, by omega⟩
          have hqz : q < S.size := by omega
          have HB := Lib.hid (HS.out q hqz)
          have hq1 : wrap64 (((q + 1 : Nat) : Int) - 1) = (q : Int) := by unfold wrap64; omega
          by_cases hjb : b < q + 1
          · have HC : Hid (∀ V, Calls Tryd.prog 32 #[.int .u8 (S[q].toNat : Int)] V fun e w' => e = .returned (.bool true) ∧ V = w') := Lib.hid fun V => by rw [HB.out]; exact rblank_at _ _ V (H3.out q (by omega) (by omega))
            go_wp2_with (first | (go_at_call 32; refine (HC.out _).mono ?_; clear HC; rintro e V ⟨rfl, rfl⟩) | fail)
            go_round
            case rel => exact ⟨q, by omega, by omega, by go_num⟩
            case measure => simp only [intOf]; omega
          · have hbe : b = q + 1 := by omega
            have h4 := H4.out hkb
            rw [hbe, Nat.add_sub_cancel] at h4
            have HC : Hid (∀ V, Calls Tryd.prog 32 #[.int .u8 (S[q].toNat : Int)] V fun e w' => e = .returned (.bool false) ∧ V = w') := Lib.hid fun V => by rw [HB.out]; exact rblank_at _ _ V h4
            rw [hbe] at HE
            have hsl : ∀ V, (Instr.slice 9 (.string S) (some (.int .i64 (k : Int))) (some (.int .i64 ((q : Int) + 1))) none).run Tryd.prog V = .ok (.string R) V := fun V => (sl_run S k (q + 1) (by omega) (by omega) V).trans (by rw [HE.out])
            go_wp2_with (first | (go_at_call 32; refine (HC.out _).mono ?_; clear HC; rintro e V ⟨rfl, rfl⟩) | fail)
            go_ret
            exact ⟨rfl, rfl⟩
      · have hkb2 : k = b := by omega
        have hkn := H5.out hkb2
        have hk0 : ¬ (k : Int) < (S.size : Int) := by omega
        go_wp2_with fail
        go_loop [4] (fun i => i = .int .i64 k) (fun i => (intOf i).toNat)
        case atStart => rw [hkn]
        case round =>
          subst hrel
          go_wp2_with fail
          go_ret
          exact ⟨by rw [H6.out hkb2]; rfl, rfl⟩
theorem rtrim_any (l : List UInt8) (hl : l.length ≤ 9223372036854775807) (w : World) : Calls Tryd.prog 17 #[.string (bs l)] w fun e w' => e = .returned (.string (bs (trimL l))) ∧ w = w' := by
  obtain ⟨a, b, hab, hb, h1, h2, h3, h4, h5⟩ := ends_of l
  rw [trim_cut l a b hab hb h1 h2 h3 h4 h5]
  exact rtrim_ends l hl a b hab hb h1 h2 h3 h4 h5 w
end Go.Proofs.YtokeepmlibolfaaDoor.Ln
