/-
  Layer 12 (words): the law WordsQuoted, walked.
-/
import Derived.Test.YtffmchbcpihjhaaWdRjoin
import Derived.Test.YtffmchbcpihjhaaWordsSplitWalk
namespace Go.Proofs.Ytffmchbcpihjhaa.Wd
open Go.RowKit
set_option maxRecDepth 100000

/-- A text without its ', and one with a backslash ahead of each " and backslash. -/
def oneL (s : List UInt8) : List UInt8 := s.filter (· != 39)
def twoB (c : UInt8) : List UInt8 := if c = 34 ∨ c = 92 then [92, c] else [c]
def twoL (s : List UInt8) : List UInt8 := s.flatMap twoB
theorem one_in (ws : List (List UInt8)) : ∀ (s acc : List UInt8), run (some ⟨.Q 39, ws, acc⟩) (oneL s) = some ⟨.Q 39, ws, acc ++ oneL s⟩
  | [], acc => by rw [show oneL [] = [] from rfl, List.append_nil]; rfl
  | c :: s, acc => by
    unfold oneL
    rw [List.filter_cons]
    by_cases hc : (c != 39) = true
    · rw [if_pos hc]
      have hc2 : c ≠ 39 := by simpa using hc
      rw [inq_put 39 c (by decide) hc2 (fun h => absurd h.2 (by decide))]
      have := one_in ws s (acc ++ [c])
      unfold oneL at this
      rw [this]; simp
    · rw [if_neg hc]
      exact one_in ws s acc
theorem two_in (ws : List (List UInt8)) : ∀ (s acc : List UInt8), run (some ⟨.Q 34, ws, acc⟩) (twoL s) = some ⟨.Q 34, ws, acc ++ s⟩
  | [], acc => by rw [show twoL [] = [] from rfl, List.append_nil]; rfl
  | c :: s, acc => by
    unfold twoL
    rw [List.flatMap_cons, run_app]
    have e : run (some ⟨.Q 34, ws, acc⟩) (twoB c) = some ⟨.Q 34, ws, acc ++ [c]⟩ := by
      unfold twoB
      split
      · rename_i h; rcases h with rfl | rfl <;> rfl
      · rename_i h
        rw [inq_put 34 c (by decide) (fun h2 => h (.inl h2)) (fun h2 => h (.inr h2.1))]
        rfl
    rw [e]
    have := two_in ws s (acc ++ [c])
    unfold twoL at this
    rw [this]; simp
theorem split_one_q (s : List UInt8) : splitL (39 :: oneL s ++ [39]) = some [oneL s] := by
  unfold splitL
  rw [List.cons_append, run_cons, show step ⟨.B, [], []⟩ 39 = some ⟨.Q 39, [], []⟩ from rfl, run_app, one_in, run_cons]
  rfl
theorem split_two_q (s : List UInt8) : splitL (32 :: 34 :: twoL s ++ [34, 9]) = some [s] := by
  unfold splitL
  rw [List.cons_append, List.cons_append, run_cons, show step ⟨.B, [], []⟩ 32 = some ⟨.B, [], []⟩ from rfl, run_cons, show step ⟨.B, [], []⟩ 34 = some ⟨.Q 34, [], []⟩ from rfl, run_app, two_in]
  rfl
theorem split_both_q (s : List UInt8) : splitL (39 :: oneL s ++ [39, 34] ++ twoL s ++ [34]) = some [oneL s ++ s] := by
  unfold splitL
  have e : 39 :: oneL s ++ [39, 34] ++ twoL s ++ [34] = 39 :: (oneL s ++ (39 :: 34 :: (twoL s ++ [34]))) := by simp
  rw [e, run_cons, show step ⟨.B, [], []⟩ 39 = some ⟨.Q 39, [], []⟩ from rfl, run_app, one_in, run_cons, show step ⟨.Q 39, [], [] ++ oneL s⟩ 39 = some ⟨.Q 0, [], oneL s⟩ from rfl, run_cons, show step ⟨.Q 0, [], oneL s⟩ 34 = some ⟨.Q 34, [], oneL s⟩ from rfl, run_app, two_in]
  rfl
theorem one_step {s : List UInt8} {k : Nat} (h : k < s.length) : oneL (s.take (k + 1)) = oneL (s.take k) ++ (if s.getD k 0 = 39 then [] else [s.getD k 0]) := by
  unfold oneL
  rw [List.take_add_one, List.getElem?_eq_getElem h, List.getD_eq_getElem?_getD, List.getElem?_eq_getElem h, List.filter_append]
  congr 1
  show ([s[k]].filter (· != 39)) = if s[k] = 39 then [] else [s[k]]
  rw [List.filter_cons, List.filter_nil]
  by_cases hc : s[k] = 39
  · rw [if_pos hc, if_neg (by simp [hc])]
  · rw [if_neg hc, if_pos (by simpa using hc)]
theorem two_step {s : List UInt8} {k : Nat} (h : k < s.length) : twoL (s.take (k + 1)) = twoL (s.take k) ++ twoB (s.getD k 0) := by
  unfold twoL
  rw [List.take_add_one, List.getElem?_eq_getElem h, List.getD_eq_getElem?_getD, List.getElem?_eq_getElem h, List.flatMap_append]
  show _ ++ (twoB s[k] ++ []) = _
  rw [List.append_nil]
  rfl
theorem take_step {s : List UInt8} {k : Nat} (h : k < s.length) : s.take (k + 1) = s.take k ++ [s.getD k 0] := by
  rw [List.take_add_one, List.getElem?_eq_getElem h, List.getD_eq_getElem?_getD, List.getElem?_eq_getElem h]; rfl
theorem one_len (s : List UInt8) : (oneL s).length ≤ s.length := List.length_filter_le _ _
theorem two_len : ∀ s : List UInt8, (twoL s).length ≤ 2 * s.length
  | [] => Nat.le_refl _
  | c :: s => by
    unfold twoL
    rw [List.flatMap_cons, List.length_append, List.length_cons]
    have h1 : (twoB c).length ≤ 2 := by unfold twoB; split <;> simp
    have h2 := two_len s
    unfold twoL at h2
    omega
set_option maxHeartbeats 8000000 in
theorem quotedLaw_any (s : List UInt8) (w : World) : Calls Try.prog 8 #[.string (bs s)] w fun e w' => e = .returned (.bool true) ∧ Below w.heap.size w w' := by
  have HWK : Hid (∀ V, Below w.heap.size w V → Calls Try.prog 9 #[] V fun e w' => e = .returned (.bool true) ∧ Below w.heap.size w w') := Lib.hid fun V h => works_then h
  have HGET : Hid (∀ i (hi : i < (bs s).size), (bs s)[i] = s.getD i 0) := Lib.hid fun i hi => get_list hi
  obtain ⟨n, hn⟩ : ∃ n, (bs s).size = n := ⟨_, rfl⟩
  have HSL : Hid (s.length = n) := Lib.hid hn
  generalize bs s = S at *
  rcases Nat.lt_or_ge 300 n with h | h
  · have h1 : (300 : Int) < (n : Int) := by omega
    clear h
    go_enter Try.func8, Try.ntmps8
    go_wp2_with (first
      | (go_at_call 9; refine (HWK.out _ (Below.refl _ _)).mono ?_; clear HWK; rintro e V ⟨rfl, hb⟩; have HB := Lib.hid hb; clear hb)
      | fail)
    go_ret
    exact ⟨rfl, HB.out⟩
  · have h1 : ¬ (300 : Int) < (n : Int) := by omega
    have hnb : (n : Int) ≤ 300 := by omega
    have HN : Hid (n ≤ 300) := Lib.hid h
    clear h
    go_enter Try.func8, Try.ntmps8
    go_wp2_with fail
    go_loopw [3, 4, 5, 6] (fun a b t i wr => ∃ k : Nat, k ≤ n ∧ i = .int .i64 k ∧ a = .string (bs (oneL (s.take k))) ∧ b = .string (bs (twoL (s.take k))) ∧ t = .string (bs (s.take k)) ∧ Below w.heap.size w wr) (fun _ _ _ i _ => n - (intOf i).toNat)
    case atStart => exact ⟨0, Nat.zero_le _, rfl, rfl, rfl, rfl, Below.refl _ _⟩
    case round =>
      obtain ⟨k, hk, rfl, rfl, rfl, rfl, hbel⟩ := hrel
      have HBW := Lib.hid hbel
      have HTKL : Hid ((s.take k).length ≤ 300) := Lib.hid (by rw [List.length_take]; have := HN.out; omega)
      have hz1 : (bs (oneL (s.take k))).size ≤ 300 := Nat.le_trans (one_len _) HTKL.out
      have hz2 : (bs (twoL (s.take k))).size ≤ 600 := Nat.le_trans (two_len _) (by have := HTKL.out; omega)
      have hz3 : (bs (s.take k)).size ≤ 300 := HTKL.out
      obtain ⟨O1, hO1⟩ : ∃ X, bs (oneL (s.take k)) = X := ⟨_, rfl⟩
      obtain ⟨O2, hO2⟩ : ∃ X, bs (twoL (s.take k)) = X := ⟨_, rfl⟩
      obtain ⟨O3, hO3⟩ : ∃ X, bs (s.take k) = X := ⟨_, rfl⟩
      have HO1 := Lib.hid hO1
      have HO2 := Lib.hid hO2
      have HO3 := Lib.hid hO3
      rw [hO1] at hz1
      rw [hO2] at hz2
      rw [hO3] at hz3
      rw [hO1, hO2, hO3]
      clear hO1 hO2 hO3 hbel
      by_cases hlt : k < n
      · have hz : k < S.size := by rw [hn]; exact hlt
        have hzi : (k : Int) < (n : Int) := by omega
        have hx := HGET.out k hz
        obtain ⟨c, hc⟩ : ∃ c, s.getD k 0 = c := ⟨_, rfl⟩
        rw [hc] at hx
        have HKL : Hid (k < s.length) := Lib.hid (by rw [HSL.out]; exact hlt)
        have HSO := Lib.hid (one_step HKL.out)
        have HSTW := Lib.hid (two_step HKL.out)
        have HSTK := Lib.hid (take_step HKL.out)
        rw [hc] at HSO HSTW HSTK
        obtain ⟨X, hX⟩ : ∃ X : Int, (c.toNat : Int) = X := ⟨_, rfl⟩
        obtain ⟨O, hO⟩ : ∃ O, bs [c] = O := ⟨_, rfl⟩
        have hconv := one_run c X hX O hO
        have hos : O.size = 1 := by rw [← hO]; rfl
        have HOE := Lib.hid hO
        have e34 : (X == 34) = (c == 34) := by rw [← hX]; exact u8_is c 34 (by decide)
        have e39' : (X == 39) = (c == 39) := by rw [← hX]; exact u8_is c 39 (by decide)
        have e92 : (X == 92) = (c == 92) := by rw [← hX]; exact u8_is c 92 (by decide)
        have e39 : (X != 39) = !(c == 39) := by rw [← e39']; rfl
        have hs1 : O1.size + O.size ≤ 9223372036854775807 := by omega
        have hs2 : O2.size + O.size ≤ 9223372036854775807 := by omega
        have hs3 : O3.size + O.size ≤ 9223372036854775807 := by omega
        have hs4 : O2.size + 1 ≤ 9223372036854775807 := by omega
        have hs5 : O2.size + 1 + O.size ≤ 9223372036854775807 := by omega
        have HE3 : Hid (bs (s.take (k + 1)) = O3 ++ O) := Lib.hid (by rw [HSTK.out, ← bs_app, HO3.out, HOE.out])
        clear hO hc e39'
        by_cases h39 : c = 39
        · have HE1 : Hid (bs (oneL (s.take (k + 1))) = O1) := Lib.hid (by rw [HSO.out, if_pos h39, List.append_nil]; exact HO1.out)
          have HE2 : Hid (bs (twoL (s.take (k + 1))) = O2 ++ O) := Lib.hid (by
            rw [HSTW.out, show twoB c = [c] from by rw [h39]; rfl, ← bs_app, HO2.out, HOE.out])
          rw [show (c == 39) = true from beq_iff_eq.mpr h39, Bool.not_true] at e39
          rw [show (c == 34) = false from by rw [h39]; rfl] at e34
          rw [show (c == 92) = false from by rw [h39]; rfl] at e92
          clear h39
          go_wp2_with fail
          go_roundw
          case rel => exact ⟨k + 1, by omega, by go_num, by rw [HE1.out], by rw [HE2.out], by rw [HE3.out], HBW.out.alloc HBW.out.size _⟩
          case measure => exact meas _ _ _ (by go_num) hlt
        · have HE1 : Hid (bs (oneL (s.take (k + 1))) = O1 ++ O) := Lib.hid (by rw [HSO.out, if_neg h39, ← bs_app, HO1.out, HOE.out])
          rw [show (c == 39) = false from beq_eq_false_iff_ne.mpr h39, Bool.not_false] at e39
          clear h39
          by_cases h34 : c = 34 ∨ c = 92
          · have HE2 : Hid (bs (twoL (s.take (k + 1))) = O2 ++ ⟨#[92]⟩ ++ O) := Lib.hid (by
              rw [HSTW.out, show twoB c = [92] ++ [c] from by unfold twoB; rw [if_pos h34]; rfl, ← bs_app, ← bs_app, HO2.out, HOE.out, ByteArray.append_assoc])
            have hd : ((c == 34) = true) ∨ ((c == 34) = false ∧ (c == 92) = true) := by
              cases h1 : (c == 34) with
              | true => exact .inl rfl
              | false =>
                refine .inr ⟨rfl, beq_iff_eq.mpr (h34.resolve_left fun h => ?_)⟩
                rw [h] at h1; cases h1
            clear h34
            rcases hd with h1 | ⟨h1, h2⟩
            · rw [h1] at e34
              clear e92 h1
              go_wp2_with fail
              go_roundw
              case rel => exact ⟨k + 1, by omega, by go_num, by rw [HE1.out], by rw [HE2.out], by rw [HE3.out], HBW.out.alloc HBW.out.size _⟩
              case measure => exact meas _ _ _ (by go_num) hlt
            · rw [h1] at e34
              rw [h2] at e92
              clear h1 h2
              go_wp2_with fail
              go_roundw
              case rel => exact ⟨k + 1, by omega, by go_num, by rw [HE1.out], by rw [HE2.out], by rw [HE3.out], HBW.out.alloc HBW.out.size _⟩
              case measure => exact meas _ _ _ (by go_num) hlt
          · have HE2 : Hid (bs (twoL (s.take (k + 1))) = O2 ++ O) := Lib.hid (by
              rw [HSTW.out, show twoB c = [c] from by unfold twoB; rw [if_neg h34], ← bs_app, HO2.out, HOE.out])
            obtain ⟨h3, h4⟩ := not_or.mp h34
            rw [beq_eq_false_iff_ne.mpr h3] at e34
            rw [beq_eq_false_iff_ne.mpr h4] at e92
            clear h34 h3 h4
            go_wp2_with fail
            go_roundw
            case rel => exact ⟨k + 1, by omega, by go_num, by rw [HE1.out], by rw [HE2.out], by rw [HE3.out], HBW.out.alloc HBW.out.size _⟩
            case measure => exact meas _ _ _ (by go_num) hlt
      · obtain rfl : k = n := by omega
        have hkk : ¬ (k : Int) < (k : Int) := by omega
        have HTK : Hid (s.take k = s) := Lib.hid (List.take_of_length_le (by have := HSL.out; omega))
        have h1e : bs (oneL s) = O1 := by rw [← HO1.out, HTK.out]
        have h2e : bs (twoL s) = O2 := by rw [← HO2.out, HTK.out]
        have h3e : bs s = O3 := by rw [← HO3.out, HTK.out]
        have hsl : s.length ≤ 300 := by have := HSL.out; have := HN.out; omega
        have hol := one_len s
        have htl := two_len s
        have HP1 : Hid (∀ V, Calls Try.prog 10 #[.string (⟨#[39]⟩ ++ O1 ++ ⟨#[39]⟩)] V fun e V' => ∃ A c, e = .returned (.tuple #[.slice A 1 c, .int .i64 0]) ∧ StrRow V' A [oneL s] ∧ Below V.heap.size V V') := Lib.hid fun V => by
          have := split_yes (39 :: oneL s ++ [39]) [oneL s] (by simp; omega) (split_one_q s) (by simp) V
          rw [show bs (39 :: oneL s ++ [39]) = ⟨#[39]⟩ ++ O1 ++ ⟨#[39]⟩ from by rw [← h1e, show (⟨#[39]⟩ : ByteArray) = bs [39] from rfl, bs_app, bs_app]; rfl] at this
          exact this
        have HP2 : Hid (∀ V, Calls Try.prog 10 #[.string (⟨#[32, 34]⟩ ++ O2 ++ ⟨#[34, 9]⟩)] V fun e V' => ∃ A c, e = .returned (.tuple #[.slice A 1 c, .int .i64 0]) ∧ StrRow V' A [s] ∧ Below V.heap.size V V') := Lib.hid fun V => by
          have := split_yes (32 :: 34 :: twoL s ++ [34, 9]) [s] (by simp; omega) (split_two_q s) (by simp) V
          rw [show bs (32 :: 34 :: twoL s ++ [34, 9]) = ⟨#[32, 34]⟩ ++ O2 ++ ⟨#[34, 9]⟩ from by rw [← h2e, show (⟨#[32, 34]⟩ : ByteArray) = bs [32, 34] from rfl, show (⟨#[34, 9]⟩ : ByteArray) = bs [34, 9] from rfl, bs_app, bs_app]; rfl] at this
          exact this
        have HP3 : Hid (∀ V, Calls Try.prog 10 #[.string (⟨#[39]⟩ ++ O1 ++ ⟨#[39, 34]⟩ ++ O2 ++ ⟨#[34]⟩)] V fun e V' => ∃ A c, e = .returned (.tuple #[.slice A 1 c, .int .i64 0]) ∧ StrRow V' A [oneL s ++ s] ∧ Below V.heap.size V V') := Lib.hid fun V => by
          have := split_yes (39 :: oneL s ++ [39, 34] ++ twoL s ++ [34]) [oneL s ++ s] (by simp; omega) (split_both_q s) (by simp) V
          rw [show bs (39 :: oneL s ++ [39, 34] ++ twoL s ++ [34]) = ⟨#[39]⟩ ++ O1 ++ ⟨#[39, 34]⟩ ++ O2 ++ ⟨#[34]⟩ from by rw [← h1e, ← h2e, show (⟨#[39]⟩ : ByteArray) = bs [39] from rfl, show (⟨#[39, 34]⟩ : ByteArray) = bs [39, 34] from rfl, show (⟨#[34]⟩ : ByteArray) = bs [34] from rfl, bs_app, bs_app, bs_app, bs_app]; rfl] at this
          exact this
        have HSM : Hid (∀ (x : List UInt8) A B c d V, StrRow V A [x] → StrRow V B [x] → Calls Try.prog 12 #[.slice A 1 c, .slice B 1 d] V fun e V' => e = .returned (.bool true) ∧ Below V.heap.size V V') := Lib.hid fun x A B c d V hA hB => (same_any A B c d [x] [x] V hA hB (by simp)).mono fun e V' ⟨he, hb⟩ => ⟨by rw [he, decide_eq_true rfl], hb⟩
        have HN1 : Hid (∀ W : World, StrRow (W.alloc (.cells #[.string O1] 9)) (some ⟨W.heap.size, 0, none⟩) [oneL s]) := Lib.hid fun W => new_row W [oneL s] _ (by rw [← h1e]; rfl) _
        have HN2 : Hid (∀ W : World, StrRow (W.alloc (.cells #[.string O3] 9)) (some ⟨W.heap.size, 0, none⟩) [s]) := Lib.hid fun W => new_row W [s] _ (by rw [← h3e]; rfl) _
        have HN3 : Hid (∀ W : World, StrRow (W.alloc (.cells #[.string (O1 ++ O3)] 9)) (some ⟨W.heap.size, 0, none⟩) [oneL s ++ s]) := Lib.hid fun W => new_row W [oneL s ++ s] _ (by rw [← h1e, ← h3e, bs_app]; rfl) _
        have hs1 : 1 + O1.size ≤ 9223372036854775807 := by omega
        have hs2 : 1 + O1.size + 1 ≤ 9223372036854775807 := by omega
        have hs3 : 2 + O2.size ≤ 9223372036854775807 := by omega
        have hs4 : 2 + O2.size + 2 ≤ 9223372036854775807 := by omega
        have hs5 : 1 + O1.size + 2 ≤ 9223372036854775807 := by omega
        have hs6 : 1 + O1.size + 2 + O2.size ≤ 9223372036854775807 := by omega
        have hs7 : 1 + O1.size + 2 + O2.size + 1 ≤ 9223372036854775807 := by omega
        have hs8 : O1.size + O3.size ≤ 9223372036854775807 := by omega
        clear h1e h2e h3e hsl hol htl
        go_wp2_with (first
          | (go_at_call 10; refine (HP1.out _).mono ?_; clear HP1; rintro e V1 ⟨A1, c1, rfl, hr, hb⟩; have HR1 := Lib.hid hr; have HB1 := Lib.hid (HBW.out.trans (hb.mono HBW.out.size)); clear hr hb)
          | (go_at_call 10; refine (HP2.out _).mono ?_; clear HP2; rintro e V2 ⟨A2, c2, rfl, hr, hb⟩; have HR2 := Lib.hid hr; have HR1' := Lib.hid (HR1.out.keep hb); have HB2 := Lib.hid (HB1.out.trans (hb.mono HB1.out.size)); clear hr hb HR1)
          | (go_at_call 10; refine (HP3.out _).mono ?_; clear HP3; rintro e V3 ⟨A3, c3, rfl, hr, hb⟩; have HR3 := Lib.hid hr; have HR2' := Lib.hid (HR2.out.keep hb); have HR1 := Lib.hid (HR1'.out.keep hb); have HB3 := Lib.hid (HB2.out.trans (hb.mono HB2.out.size)); clear hr hb HR2)
          | (go_at_call 12; refine (HSM.out _ _ _ _ _ _ (HR1.out.alloc _) (HN1.out V3)).mono ?_; clear HN1; rintro e V4 ⟨rfl, hb⟩; have hb2 := ((Below.refl _ V3).alloc (Nat.le_refl _) (.cells #[.string O1] 9)).trans (hb.mono (by simp)); have HR2 := Lib.hid (HR2'.out.keep hb2); have HR3' := Lib.hid (HR3.out.keep hb2); have HB4 := Lib.hid (HB3.out.trans (hb2.mono HB3.out.size)); clear hb hb2 HR1)
          | (go_at_call 12; refine (HSM.out _ _ _ _ _ _ (HR2.out.alloc _) (HN2.out V4)).mono ?_; clear HN2; rintro e V5 ⟨rfl, hb⟩; have hb2 := ((Below.refl _ V4).alloc (Nat.le_refl _) (.cells #[.string O3] 9)).trans (hb.mono (by simp)); have HR3'' := Lib.hid (HR3'.out.keep hb2); have HB5 := Lib.hid (HB4.out.trans (hb2.mono HB4.out.size)); clear hb hb2 HR2)
          | (go_at_call 12; refine (HSM.out _ _ _ _ _ _ (HR3''.out.alloc _) (HN3.out V5)).mono ?_; clear HN3; rintro e V6 ⟨rfl, hb⟩; have hb2 := ((Below.refl _ V5).alloc (Nat.le_refl _) (.cells #[.string (O1 ++ O3)] 9)).trans (hb.mono (by simp)); have HB6 := Lib.hid (HB5.out.trans (hb2.mono HB5.out.size)); clear hb hb2)
          | (go_at_call 9; refine (HWK.out _ HB6.out).mono ?_; clear HWK; rintro e V ⟨rfl, hb⟩; have HB := Lib.hid hb; clear hb)
          | fail)
        go_ret
        exact ⟨rfl, HB.out⟩
theorem wordsQuoted_any (a : ByteArray) (w : World) : Calls Try.prog 8 #[.string a] w fun e w' => e = .returned (.bool true) ∧ Below w.heap.size w w' := by
  have := quotedLaw_any a.data.toList w
  rw [bs_of] at this
  exact this
end Go.Proofs.Ytffmchbcpihjhaa.Wd
