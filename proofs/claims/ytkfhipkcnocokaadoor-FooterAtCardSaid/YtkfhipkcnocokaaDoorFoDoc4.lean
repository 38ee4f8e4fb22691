/-
  Layer 7 (footer): the document's own switch, of a month's week.
-/
import Derived.Test.YtkfhipkcnocokaaDoorFoDoc3
namespace Go.Proofs.YtkfhipkcnocokaaDoor.Fo
open Go.RowKit
set_option maxRecDepth 100000

theorem fst7_bd (n dd : Int) : 0 ≤ fst7 n dd ∧ fst7 n dd ≤ 6 := by unfold fst7; omega
/-- The round's step: such a day that is asked for; one that is not. -/
theorem at7_hit {n f wk k : Int} (_ : 0 ≤ f) (_ : f ≤ 6) (_ : 0 ≤ k) (h : f ≤ k ∧ (k - f) % 7 = 0) (hs : min wk (cnt7 f k) < wk) : min wk (cnt7 f (k + 1)) = min wk (cnt7 f k) + 1 ∧ at7 n f wk (k + 1) = n + k := by
  unfold at7 cnt7 at *
  have e : (k + 1 + 6 - f) / 7 = (k + 6 - f) / 7 + 1 := by omega
  rw [e]
  generalize hc : (k + 6 - f) / 7 = c at *
  have hk : k = f + 7 * c := by omega
  constructor
  · omega
  · rw [if_neg (by omega)]; omega
theorem at7_miss {n f wk k : Int} (f0 : 0 ≤ f) (f1 : f ≤ 6) (k0 : 0 ≤ k) (h : ¬ (f ≤ k ∧ (k - f) % 7 = 0)) : min wk (cnt7 f (k + 1)) = min wk (cnt7 f k) ∧ at7 n f wk (k + 1) = at7 n f wk k := by
  have e : cnt7 f (k + 1) = cnt7 f k := by unfold cnt7; omega
  unfold at7
  rw [e]
  exact ⟨rfl, rfl⟩
theorem at7_full {n f wk k : Int} (_ : 0 ≤ f) (_ : f ≤ 6) (_ : 0 ≤ k) (hs : ¬ min wk (cnt7 f k) < wk) : min wk (cnt7 f (k + 1)) = min wk (cnt7 f k) ∧ at7 n f wk (k + 1) = at7 n f wk k := by
  have e : cnt7 f k ≤ cnt7 f (k + 1) := by unfold cnt7; omega
  have e2 : min wk (cnt7 f (k + 1)) = min wk (cnt7 f k) := by omega
  unfold at7
  rw [e2]
  exact ⟨rfl, rfl⟩
theorem at7_start {n f wk : Int} (f0 : 0 ≤ f) (f1 : f ≤ 6) (w0 : 1 ≤ wk) : min wk (cnt7 f 0) = 0 ∧ at7 n f wk 0 = -1 := by
  have e : cnt7 f 0 = 0 := by unfold cnt7; omega
  unfold at7
  rw [e]
  constructor
  · omega
  · rw [if_pos (by omega)]
theorem at7_bd {n f wk k : Int} (f0 : 0 ≤ f) (f1 : f ≤ 6) (k0 : 0 ≤ k) (k1 : k ≤ 31) (n0 : -1000000 ≤ n) (n1 : n ≤ 4000000) (_ : wk ≤ 5) : -2000000 ≤ at7 n f wk k ∧ at7 n f wk k ≤ 5000000 := by
  unfold at7 cnt7
  split <;> omega
theorem num_month {y m : Int} (a : 1 ≤ m) (b : m ≤ 12) : Cv.num y (m + 1) 1 = Cv.num y m 1 + Cv.ml y m := by
  have := Cv.cum_succ y m a b
  unfold Cv.num
  omega
set_option maxHeartbeats 4000000 in
theorem dswitch_m (mo wk dd tt y : Int) (h0 : 1 ≤ y) (h1 : y ≤ 9999) (m0 : 1 ≤ mo) (m1 : mo ≤ 12) (k0 : 1 ≤ wk) (k1 : wk ≤ 5) (d0 : 0 ≤ dd) (d1 : dd ≤ 6) (t0 : -604799 ≤ tt) (t1 : tt ≤ 604799) (w : World) :
    Calls Tryd.prog 20 #[dyV ⟨3, mo, wk, dd, tt⟩, .int .i64 y] w fun e w' => e = .returned (.int .i64 (at7 (Cv.num y mo 1) (fst7 (Cv.num y mo 1) dd) wk (Cv.ml y mo) * 86400 + tt)) ∧ Below w.heap.size w w' := by
  have K := Lib.hid (Dq.start w ⟨3, mo, wk, dd, tt⟩ 27)
  have HB : Hid (∀ V, Calls Tryd.prog 46 #[.int .i64 y] V fun e w' => e = .returned (.int .i64 (Cv.num y 1 1)) ∧ V = w') := Lib.hid fun V => by have := begins_any y (by omega) (by omega) V; rwa [bg_num] at this
  have HL := Lib.hid (fun m (a : 1 ≤ m) (b : m ≤ 12) => dlong_any y m (by omega) a b)
  have HN := Lib.hid (fun m (a : 1 ≤ m) (b : m ≤ 12) => Cv.num_bd (first_right (y := y) (m := m) ⟨h0, h1⟩ ⟨a, b⟩))
  go_enter Tryd.func20, Tryd.ntmps20
  go_wp2_with (first
    | (go_at_call 46; refine (HB.out _).mono ?_; clear HB; rintro e V ⟨rfl, rfl⟩)
    | fail)
  go_loop [5, 6] (fun n k => ∃ m : Int, 1 ≤ m ∧ m ≤ mo ∧ n = .int .i64 (Cv.num y m 1) ∧ k = .int .i64 m) (fun _ k => (mo - intOf k).toNat)
  case atStart => exact ⟨1, by omega, m0, rfl, rfl⟩
  case round =>
    obtain ⟨m, a, b, rfl, rfl⟩ := hrel
    by_cases hlt : m < mo
    · have hn := HN.out m a (by omega)
      have hl := Cv.ml_bd y m
      have HC := Lib.hid (HL.out m a (by omega))
      have HX := Lib.hid (num_month (y := y) a (show m ≤ 12 by omega))
      obtain ⟨l, hle⟩ : ∃ l, Cv.ml y m = l := ⟨_, rfl⟩
      obtain ⟨n, hne⟩ : ∃ n, Cv.num y m 1 = n := ⟨_, rfl⟩
      rw [hle] at HC hl HX
      rw [hne] at hn HX
      rw [hne]
      have w1 : wrap64 (n + l) = n + l := w_id (by omega) (by omega)
      have w2 : wrap64 (m + 1) = m + 1 := w_id (by omega) (by omega)
      clear hne hle HL HN
      go_wp2_with (first | (go_at_call 48; refine (HC.out _).mono ?_; clear HC; rintro e V ⟨rfl, rfl⟩) | fail)
      go_round
      case rel => exact ⟨m + 1, by omega, by omega, by rw [HX.out], rfl⟩
      case measure => simp only [intOf]; omega
    · obtain rfl : m = mo := by omega
      have hn := HN.out m a m1
      have hl := Cv.ml_bd y m
      have HC := Lib.hid (HL.out m a m1)
      have hf := fst7_bd (Cv.num y m 1) dd
      have HW := Lib.hid (fun k => week_is (Cv.num y m 1) dd k d0 d1)
      obtain ⟨l, hle⟩ : ∃ l, Cv.ml y m = l := ⟨_, rfl⟩
      obtain ⟨n, hne⟩ : ∃ n, Cv.num y m 1 = n := ⟨_, rfl⟩
      rw [hle] at HC hl
      rw [hne] at hn hf HW
      rw [hne]
      have HLE := Lib.hid hle
      have HNE := Lib.hid hne
      obtain ⟨f, hfe⟩ : ∃ f, fst7 n dd = f := ⟨_, rfl⟩
      have HFE := Lib.hid hfe
      rw [hfe] at hf
      clear hle hne hfe HN HL
      obtain ⟨f0, f1⟩ := hf
      obtain ⟨l0, l1⟩ := hl
      obtain ⟨n0, n1⟩ := hn
      go_wp2_with fail
      go_loop [7, 8, 9] (fun v s kk => ∃ k : Int, 0 ≤ k ∧ k ≤ l ∧ v = .int .i64 (at7 n f wk k) ∧ s = .int .i64 (min wk (cnt7 f k)) ∧ kk = .int .i64 k) (fun _ _ kk => (l - intOf kk).toNat)
      case atStart => exact ⟨0, by omega, by omega, by rw [(at7_start f0 f1 k0).2], by rw [(at7_start (n := n) f0 f1 k0).1], rfl⟩
      case round =>
        obtain ⟨k, x0, x1, rfl, rfl, rfl⟩ := hrel
        obtain ⟨A, hA⟩ : ∃ A, at7 n f wk k = A := ⟨_, rfl⟩
        obtain ⟨S, hS⟩ : ∃ S, min wk (cnt7 f k) = S := ⟨_, rfl⟩
        have hAb := at7_bd (n := n) (wk := wk) f0 f1 x0 (show k ≤ 31 by omega) (by omega) (by omega) k1
        have hSb : 0 ≤ S ∧ S ≤ 5 := by rw [← hS]; unfold cnt7; omega
        rw [hA] at hAb
        rw [hA, hS]
        by_cases hk : k < l
        · have w1 : wrap64 (n + k) = n + k := w_id (by omega) (by omega)
          have w2 : wrap64 (n + k + 4) = n + k + 4 := w_id (by omega) (by omega)
          have w3 : wrap64 (k + 1) = k + 1 := w_id (by omega) (by omega)
          have w4 : wrap64 (S + 1) = S + 1 := w_id (by omega) (by omega)
          have hw := HW.out k x0
          have hv1 := Int.lt_tmod_of_pos (n + k + 4) (show (0 : Int) < 7 by decide)
          have hv2 := Int.tmod_lt_of_pos (n + k + 4) (show (0 : Int) < 7 by decide)
          obtain ⟨v1, he1⟩ : ∃ v1, (n + k + 4).tmod 7 = v1 := ⟨_, rfl⟩
          rw [he1] at hw hv1 hv2
          obtain ⟨v, he⟩ : ∃ v, (v1 + 7).tmod 7 = v := ⟨_, rfl⟩
          rw [he, HFE.out] at hw
          have w5 : wrap64 (v1 + 7) = v1 + 7 := w_id (by omega) (by omega)
          clear hAb
          by_cases hd : v = dd
          · have j : (v == dd) = true := beq_iff_eq.mpr hd
            have hit := hw.1 hd
            by_cases hs : S < wk
            · have HR := Lib.hid (at7_hit (n := n) f0 f1 x0 hit (by rw [hS]; exact hs))
              rw [hS] at HR
              subst hd
              clear hw hit hA hS HW
              go_wp2_with (first | (go_at_call 48; refine (HC.out _).mono ?_; clear HC; rintro e V ⟨rfl, rfl⟩) | fail)
              go_round
              case rel => exact ⟨k + 1, by omega, by omega, by rw [HR.out.2], by rw [HR.out.1], rfl⟩
              case measure => simp only [intOf]; omega
            · have HR := Lib.hid (at7_full (n := n) f0 f1 x0 (show ¬ min wk (cnt7 f k) < wk by rw [hS]; exact hs))
              rw [hS, hA] at HR
              subst hd
              clear hw hit hA hS HW
              go_wp2_with (first | (go_at_call 48; refine (HC.out _).mono ?_; clear HC; rintro e V ⟨rfl, rfl⟩) | fail)
              go_round
              case rel => exact ⟨k + 1, by omega, by omega, by rw [HR.out.2], by rw [HR.out.1], rfl⟩
              case measure => simp only [intOf]; omega
          · have j : (v == dd) = false := beq_eq_false_iff_ne.mpr hd
            have HR := Lib.hid (at7_miss (n := n) (wk := wk) f0 f1 x0 (fun h => hd (hw.2 h)))
            rw [hS, hA] at HR
            clear hw hA hS HW hd
            go_wp2_with (first | (go_at_call 48; refine (HC.out _).mono ?_; clear HC; rintro e V ⟨rfl, rfl⟩) | fail)
            go_round
            case rel => exact ⟨k + 1, by omega, by omega, by rw [HR.out.2], by rw [HR.out.1], rfl⟩
            case measure => simp only [intOf]; omega
        · obtain rfl : k = l := by omega
          have w1 : wrap64 (A * 86400) = A * 86400 := w_id (by omega) (by omega)
          have w2 : wrap64 (A * 86400 + tt) = A * 86400 + tt := w_id (by omega) (by omega)
          have HA := Lib.hid hA
          clear hA hS HW
          go_wp2_with (first | (go_at_call 48; refine (HC.out _).mono ?_; clear HC; rintro e V ⟨rfl, rfl⟩) | fail)
          go_ret
          exact ⟨by rw [HNE.out, HLE.out, HFE.out, HA.out]; rfl, K.out.b⟩
/-- The last of them is where the program has it. -/
theorem at7_beh (d : Dy) (y : Int) (hk : d.kind = 3) (k0 : 1 ≤ d.week) (k1 : d.week ≤ 5) : at7 (Cv.num y d.month 1) (fst7 (Cv.num y d.month 1) d.day) d.week (Cv.ml y d.month) = Cv.num y d.month 1 + behV d y d.month := by
  have n1 : ¬ d.kind = 1 := by omega
  have n2 : ¬ d.kind = 2 := by omega
  have hml := Cv.ml_bd y d.month
  have hf := fst7_bd (Cv.num y d.month 1) d.day
  unfold behV
  simp only [n1, n2, if_false]
  rw [show (d.day + 7 - Cv.wday (Cv.num y d.month 1)) % 7 = fst7 (Cv.num y d.month 1) d.day from rfl]
  generalize fst7 (Cv.num y d.month 1) d.day = f at *
  generalize Cv.num y d.month 1 = n at *
  generalize Cv.ml y d.month = l at *
  unfold at7 cnt7
  split <;> split <;> omega
/-- The document's Switch of a right day is the program's. -/
theorem dswitch_any (d : Dy) (y : Int) (hd : dayB d = true) (h0 : 1 ≤ y) (h1 : y ≤ 9999) (w : World) :
    Calls Tryd.prog 20 #[dyV d, .int .i64 y] w fun e w' => e = .returned (.int .i64 (switchV d y)) ∧ Below w.heap.size w w' := by
  have hc := dayB_cases hd
  have hM := month_of hd
  obtain ⟨t1, t2⟩ := dayB_time hd
  obtain ⟨kind, mo, wk, dd, tt⟩ := d
  simp only at hc hM t1 t2
  unfold switchV
  simp only
  rcases hc with ⟨rfl, m0, wk0, c1, c2⟩ | ⟨rfl, m0, wk0, c1, c2⟩ | ⟨rfl, c1, c2, c3, c4, c5, c6⟩
  · rw [show monthOf ⟨1, mo, wk, dd, tt⟩ = 1 by omega, ← bg_num]
    refine dswitch_j mo wk dd tt y h0 h1 c1 c2 (by omega) (by omega) _ rfl _ ?_ w
    unfold behV
    simp only [if_true]
    cases Cv.leap y with
    | false => simp; omega
    | true =>
      by_cases h : 59 < dd
      · rw [if_pos ⟨by omega, rfl⟩]; simp [h]
      · rw [if_neg (by omega)]; simp [h]; omega
  · rw [show monthOf ⟨2, mo, wk, dd, tt⟩ = 1 by omega, ← bg_num]
    exact dswitch_z mo wk dd tt y h0 h1 c1 c2 (by omega) (by omega) w
  · rw [show monthOf ⟨3, mo, wk, dd, tt⟩ = mo by omega, ← at7_beh ⟨3, mo, wk, dd, tt⟩ y rfl c3 c4]
    exact dswitch_m mo wk dd tt y h0 h1 c1 c2 c3 c4 c5 c6 (by omega) (by omega) w
end Go.Proofs.YtkfhipkcnocokaaDoor.Fo
