/-
  The document's own answer for one part of a span.
-/
import Derived.Test.YtcllimfaoajapaaDoorTsRefKinds
import Derived.Deep.DeepCutAuto
namespace Go.Proofs.YtcllimfaoajapaaDoor.Ts
open Go.RowKit

/-- What digits tell, or -1 if that is too great. -/
def wh (l : List UInt8) : Int := if dec l ≤ 9223372036854775807 then (dec l : Int) else -1
theorem wh_nil : wh [] = 0 := rfl
theorem wh_bd (l : List UInt8) : -1 ≤ wh l ∧ wh l ≤ 9223372036854775807 := by unfold wh; split <;> omega
theorem wh_yes (l : List UInt8) (c : UInt8) (d : Nat) (hd : c.toNat - 48 = d) (h : 0 ≤ wh l) (h2 : wh l ≤ (9223372036854775807 - (d : Int)) / 10) : wh (l ++ [c]) = wh l * 10 + d := by
  unfold wh at *
  rw [dec_snoc, hd]
  split at h2
  · rename_i g; rw [if_pos g]; rw [if_pos (by omega)]; omega
  · rename_i g; rw [if_neg g] at h; omega
theorem wh_no (l : List UInt8) (c : UInt8) (d : Nat) (hd : c.toNat - 48 = d) (h : ¬ (0 ≤ wh l ∧ wh l ≤ (9223372036854775807 - (d : Int)) / 10)) : wh (l ++ [c]) = -1 := by
  unfold wh at *
  rw [dec_snoc, hd]
  split at h
  · rw [if_neg (by omega)]
  · rw [if_neg (by omega)]

set_option maxRecDepth 100000 in
set_option maxHeartbeats 2000000 in
theorem rpart_bare (s : ByteArray) (i : Nat) (w : World) (h : run dg s i = 0) :
    Calls Tryd.prog 18 #[.string s, .int .i64 (i : Int)] w fun e w' => e = .returned (.tuple #[.int .i64 0, .int .i64 (-1)]) ∧ w = w' := by
  have N := Lib.hid (fun h' => run_no dg s i h')
  rw [h] at N
  have H := Lib.hid h
  clear h
  by_cases hlt : i < s.size
  · have hd : dg s[i] = false := by have := N.out (by omega); simpa using this
    have D := Lib.hid hd
    clear hd
    go_enter Tryd.func18, Tryd.ntmps18
    go_wp2
    refine wp_loop_rounds 1 ?_
    rw [rounds_succ]
    go_wp2_with fail
    refine (rdigit _ _ _ D.out).mono ?_
    rintro e w' ⟨rfl, rfl⟩
    go_wp2
    go_ret2
    exact ⟨rfl, rfl⟩
  · have hlt' : decide ((i : Int) < (s.size : Int)) = false := decide_eq_false (by omega)
    go_enter Tryd.func18, Tryd.ntmps18
    go_wp2
    refine wp_loop_rounds 1 ?_
    rw [rounds_succ]
    go_wp2
    go_ret2
    exact ⟨rfl, rfl⟩

/-- A round of the first loop, and its end: what holds there. -/
theorem idx (s : ByteArray) (k : Nat) (h : k < s.size) : (0 : Int) ≤ (k : Int) ∧ (k : Int) < (s.size : Int) := by omega
theorem digit_val (c : UInt8) (h : dg c = true) : IntKind.u8.wrap ((c.toNat : Int) - 48) = ((c.toNat - 48 : Nat) : Int) ∧ c.toNat - 48 ≤ 9 := by
  have hb : 48 ≤ (c.toNat : Int) ∧ (c.toNat : Int) ≤ 57 := by simpa [dg] using h
  refine ⟨?_, by omega⟩
  simp only [IntKind.wrap, IntKind.bits, IntKind.signed]; simp; omega

set_option maxRecDepth 100000 in
set_option maxHeartbeats 4000000 in
theorem rpart_nofrac (s : ByteArray) (i n n2 : Nat) (w : World) (hs : s.size ≤ 9223372036854775807) (hi : i ≤ s.size) (hn : run dg s i = n) (hn0 : 0 < n) (hlt : i + n < s.size) (hdot : s[i + n] = 46)
    (hn2 : run dg s (i + n + 1) = n2) (hbad : n2 = 0 ∨ 6 < n2) :
    Calls Tryd.prog 18 #[.string s, .int .i64 (i : Int)] w fun e w' => e = .returned (.tuple #[.int .i64 0, .int .i64 (-1)]) ∧ w = w' := by
  have hle := run_le dg s i hi
  rw [hn] at hle
  have Y := Lib.hid (fun k h hk => run_yes dg s i k h (by rw [hn]; exact hk))
  have T := Lib.hid (fun k h hk => run_take dg s i k h (by rw [hn]; exact hk))
  have hle2 := run_le dg s (i + n + 1) (by omega)
  rw [hn2] at hle2
  have Y2 := Lib.hid (fun k h hk => run_yes dg s (i + n + 1) k h (by rw [hn2]; exact hk))
  have N2 := Lib.hid (fun h' => run_no dg s (i + n + 1) h')
  rw [hn2] at N2
  have N := Lib.hid (show dg s[i + n] = false by rw [hdot]; decide)
  have hdt : ((s[i + n].toNat : Int) == 46) = true := by rw [hdot]; rfl
  clear hn hn2 hdot
  have hne : ((i : Int) + (n : Int) == (i : Int)) = false := by rw [beq_eq_false_iff_ne]; omega
  generalize (s.data.toList.drop i).takeWhile dg = D at T
  go_enter Tryd.func18, Tryd.ntmps18
  go_wp2
  go_loop [1, 7, 8] (fun x y _ => ∃ k : Nat, k ≤ n ∧ x = .int .i64 ((i : Int) + (k : Int)) ∧ y = .int .i64 (wh (D.take k))) (fun x _ _ => (i + n) - (intOf x).toNat)
  case atStart => exact ⟨0, by omega, by simp, rfl⟩
  case round =>
    obtain ⟨k, hk, rfl, rfl⟩ := hrel
    have hwb := wh_bd (D.take k)
    by_cases hkn : k < n
    · have hks : i + k < s.size := by omega
      have hd : dg s[i + k] = true := Y.out k hks hkn
      obtain ⟨e1, e2⟩ := digit_val s[i + k] hd
      have D1 := Lib.hid hd
      have DT := Lib.hid (T.out k hks hkn)
      have hdd0 := Lib.hid (rfl : s[i + k].toNat - 48 = s[i + k].toNat - 48)
      generalize hdd : s[i + k].toNat - 48 = d at e1 e2
      have WY := Lib.hid (fun h1 h2 => wh_yes (D.take k) s[i + k] d hdd h1 h2)
      have WN := Lib.hid (fun h => wh_no (D.take k) s[i + k] d hdd h)
      rw [← DT.out] at WY WN
      clear hd hdd hdd0
      generalize wh (D.take k) = x at *
      by_cases h0 : 0 ≤ x
      · by_cases h2 : x ≤ (9223372036854775807 - (d : Int)) / 10
        · have W1 := Lib.hid (WY.out h0 h2)
          go_wp2_with fail
          refine (rdigit _ _ _ D1.out).mono ?_
          rintro e w' ⟨rfl, rfl⟩
          go_wp2
          go_round
          case rel => exact ⟨k + 1, by omega, by simp; omega, by rw [W1.out]⟩
          case measure => simp [intOf]; omega
        · have W1 := Lib.hid (WN.out (fun g => h2 g.2))
          go_wp2_with fail
          refine (rdigit _ _ _ D1.out).mono ?_
          rintro e w' ⟨rfl, rfl⟩
          go_wp2
          go_round
          case rel => exact ⟨k + 1, by omega, by simp; omega, by rw [W1.out]⟩
          case measure => simp [intOf]; omega
      · have W1 := Lib.hid (WN.out (fun g => h0 g.1))
        go_wp2_with fail
        refine (rdigit _ _ _ D1.out).mono ?_
        rintro e w' ⟨rfl, rfl⟩
        go_wp2
        go_round
        case rel => exact ⟨k + 1, by omega, by simp; omega, by rw [W1.out]⟩
        case measure => simp [intOf]; omega
    · obtain rfl : k = n := by omega
      generalize wh (D.take k) = x at *
      clear T Y
      go_wp2_with fail
      refine (rdigit _ _ _ N.out).mono ?_
      rintro e w' ⟨rfl, rfl⟩
      go_wp2
      have hle3 : (i : Int) + (k : Int) + 1 + (n2 : Int) ≤ (s.size : Int) := by omega
      go_loop [1, 9, 10] (fun x y z => ∃ j : Nat, j ≤ n2 ∧ x = .int .i64 ((i : Int) + (k : Int) + 1 + (j : Int)) ∧ (∃ q : Int, y = .int .i64 q) ∧ z = .int .i64 (j : Int)) (fun x _ _ => (i + k + 1 + n2) - (intOf x).toNat)
      case atStart => exact ⟨0, by omega, by simp, ⟨0, rfl⟩, rfl⟩
      case round =>
        obtain ⟨j, hj, rfl, ⟨q, rfl⟩, rfl⟩ := hrel
        by_cases hjn : j < n2
        · have hks2 : i + k + 1 + j < s.size := by omega
          have hd : dg s[i + k + 1 + j] = true := Y2.out j hks2 hjn
          obtain ⟨e1, e2⟩ := digit_val s[i + k + 1 + j] hd
          have D1 := Lib.hid hd
          generalize s[i + k + 1 + j].toNat - 48 = d at e1 e2
          clear hd
          by_cases hj6 : j < 6
          all_goals
            go_wp2_with fail
            refine (rdigit _ _ _ D1.out).mono ?_
            rintro e w' ⟨rfl, rfl⟩
            go_wp2
            go_round
            case rel => exact ⟨j + 1, by omega, by simp; omega, ⟨_, rfl⟩, by go_num⟩
            case measure => simp [intOf]; omega
        · obtain rfl : j = n2 := by omega
          by_cases hks2 : i + k + 1 + j < s.size
          · have N3 := Lib.hid (N2.out hks2)
            rcases hbad with rfl | h6
            · go_wp2_with fail
              refine (rdigit _ _ _ N3.out).mono ?_
              rintro e w' ⟨rfl, rfl⟩
              go_wp2
              go_ret2
              exact ⟨rfl, rfl⟩
            · have hz : ((j : Int) == 0) = false := by rw [beq_eq_false_iff_ne]; omega
              go_wp2_with fail
              refine (rdigit _ _ _ N3.out).mono ?_
              rintro e w' ⟨rfl, rfl⟩
              go_wp2
              go_ret2
              exact ⟨rfl, rfl⟩
          · rcases hbad with rfl | h6
            · go_wp2
              go_ret2
              exact ⟨rfl, rfl⟩
            · have hz : ((j : Int) == 0) = false := by rw [beq_eq_false_iff_ne]; omega
              go_wp2
              go_ret2
              exact ⟨rfl, rfl⟩

/-- What a fraction's digits come to with noughts behind them. -/
theorem pad_bd (F m j : Nat) (h : F < 10 ^ m) (h1 : m ≤ j) (h2 : j ≤ 6) : F * 10 ^ (j - m) ≤ 999999 := by
  have h3 : F * 10 ^ (j - m) < 10 ^ m * 10 ^ (j - m) := Nat.mul_lt_mul_of_pos_right h (Nat.pow_pos (by omega))
  rw [← Nat.pow_add, show m + (j - m) = j by omega] at h3
  have h4 : 10 ^ j ≤ 10 ^ 6 := Nat.pow_le_pow_right (by omega) h2
  omega
theorem pad_succ (F m j : Nat) (h : m ≤ j) : F * 10 ^ (j + 1 - m) = F * 10 ^ (j - m) * 10 := by
  rw [show j + 1 - m = (j - m) + 1 by omega, Nat.pow_succ, Nat.mul_assoc]
/-- What a part is told as. -/
def rres (D : List UInt8) (f u k : Nat) : Int × Int := if u = 0 then (0, -1) else if dec D * u + share f u ≤ 9223372036854775806 then (((dec D * u + share f u : Nat) : Int), (k : Int)) else (-1, (k : Int))
theorem rres_none {D : List UInt8} {f u k : Nat} (h : u = 0) : rres D f u k = (0, -1) := if_pos h
theorem rres_great {D : List UInt8} {f u k : Nat} (h : u ≠ 0) (g : 9223372036854775806 < dec D * u + share f u) : rres D f u k = (-1, (k : Int)) := by
  unfold rres; rw [if_neg h, if_neg (by omega)]
theorem rres_fine {D : List UInt8} {f u k : Nat} (h : u ≠ 0) (g : dec D * u + share f u ≤ 9223372036854775806) : rres D f u k = (((dec D * u + share f u : Nat) : Int), (k : Int)) := by
  unfold rres; rw [if_neg h, if_pos g]
theorem wh_neg {D : List UInt8} {f u : Nat} (h : wh D < 0) (h0 : u ≠ 0) : 9223372036854775806 < dec D * u + share f u := by
  unfold wh at h
  split at h
  · omega
  · have h1 : dec D * 1 ≤ dec D * u := Nat.mul_le_mul_left _ (by omega)
    omega
theorem wh_pos {D : List UInt8} (h : ¬ wh D < 0) : wh D = (dec D : Int) := by
  unfold wh at h ⊢
  split at h
  · rw [if_pos (by assumption)]
  · omega
theorem quo_cast (u : Nat) : (9223372036854775806 : Int) / (u : Int) = ((9223372036854775806 / u : Nat) : Int) := by rw [Int.natCast_ediv]; rfl
theorem r_at (s : ByteArray) (u : Nat) (w : World) (h : unitOf s.data.toList = u) : Calls Tryd.prog 21 #[.string s] w fun e w' => e = .returned (.int .i64 (u : Int)) ∧ w = w' := by
  subst h; exact r_any s w
/-- What stands behind the digits: a fraction, or none. -/
def FracAt (s : ByteArray) (p p2 m F : Nat) : Prop :=
  ((∀ h : p < s.size, s[p] ≠ 46) ∧ p2 = p ∧ m = 0 ∧ F = 0) ∨ ((∃ h : p < s.size, s[p] = 46) ∧ m = run dg s (p + 1) ∧ 1 ≤ m ∧ m ≤ 6 ∧ p2 = p + 1 + m ∧ F = dec ((s.data.toList.drop (p + 1)).takeWhile dg))

set_option maxRecDepth 100000 in
set_option maxHeartbeats 8000000 in
theorem rpart_mid (s : ByteArray) (i n p2 m F n3 n4 u : Nat) (w : World) (hs : s.size ≤ 9223372036854775807) (hi : i ≤ s.size) (hn : run dg s i = n) (hn0 : 0 < n) (hf : FracAt s (i + n) p2 m F) (hp2 : p2 ≤ s.size) (hm6 : m ≤ 6) (hFb : F < 10 ^ m)
    (hn3 : run bl s p2 = n3) (hn4 : run lt s (p2 + n3) = n4) (hu : unitOf ((s.data.toList.drop (p2 + n3)).takeWhile lt) = u) (r : Int × Int) (hr : rres ((s.data.toList.drop i).takeWhile dg) (F * 10 ^ (6 - m)) u (if n4 = 0 then p2 else p2 + n3 + n4) = r) :
    Calls Tryd.prog 18 #[.string s, .int .i64 (i : Int)] w fun e w' => e = .returned (.tuple #[.int .i64 r.1, .int .i64 r.2]) ∧ w = w' := by
  have hle := run_le dg s i hi
  rw [hn] at hle
  have Y := Lib.hid (fun k h hk => run_yes dg s i k h (by rw [hn]; exact hk))
  have T := Lib.hid (fun k h hk => run_take dg s i k h (by rw [hn]; exact hk))
  have N := Lib.hid (fun h => run_no dg s i h)
  rw [hn] at N
  have hle3 := run_le bl s p2 hp2
  rw [hn3] at hle3
  have hle4 := run_le lt s (p2 + n3) hle3
  rw [hn4] at hle4
  have Y3 := Lib.hid (fun k h hk => run_yes bl s p2 k h (by rw [hn3]; exact hk))
  have N3 := Lib.hid (fun h => run_no bl s p2 h)
  rw [hn3] at N3
  have Y4 := Lib.hid (fun k h hk => run_yes lt s (p2 + n3) k h (by rw [hn4]; exact hk))
  have N4 := Lib.hid (fun h => run_no lt s (p2 + n3) h)
  rw [hn4] at N4
  have E4 := Lib.hid (show unitOf (s.extract (p2 + n3) (p2 + n3 + n4)).data.toList = u by rw [← hn4, run_ext]; exact hu)
  have hub := unitOf_le ((s.data.toList.drop (p2 + n3)).takeWhile lt)
  rw [hu] at hub
  have HF := Lib.hid hf
  have HR := Lib.hid hr
  have HU := Lib.hid hu
  have H3 := Lib.hid hn3
  have H4 := Lib.hid hn4
  have hn' : ((s.data.toList.drop i).takeWhile dg).length = n := hn
  clear hn hf hr hu hn3 hn4
  have hne : ((i : Int) + (n : Int) == (i : Int)) = false := by rw [beq_eq_false_iff_ne]; omega
  have HD := Lib.hid (rfl : (s.data.toList.drop i).takeWhile dg = (s.data.toList.drop i).takeWhile dg)
  generalize hDD : (s.data.toList.drop i).takeWhile dg = D at T HR
  have HDL := Lib.hid (show D.length = n by rw [← hDD]; exact hn')
  clear hDD HD hn'
  go_enter Tryd.func18, Tryd.ntmps18
  go_wp2
  go_loop [1, 7, 8] (fun x y _ => ∃ k : Nat, k ≤ n ∧ x = .int .i64 ((i : Int) + (k : Int)) ∧ y = .int .i64 (wh (D.take k))) (fun x _ _ => (i + n) - (intOf x).toNat)
  case atStart => exact ⟨0, by omega, by simp, rfl⟩
  case round =>
    obtain ⟨k, hk, rfl, rfl⟩ := hrel
    have hwb := wh_bd (D.take k)
    by_cases hkn : k < n
    · have hks : i + k < s.size := by omega
      have hd : dg s[i + k] = true := Y.out k hks hkn
      obtain ⟨e1, e2⟩ := digit_val s[i + k] hd
      have D1 := Lib.hid hd
      have DT := Lib.hid (T.out k hks hkn)
      have hdd0 := Lib.hid (rfl : s[i + k].toNat - 48 = s[i + k].toNat - 48)
      generalize hdd : s[i + k].toNat - 48 = d at e1 e2
      have WY := Lib.hid (fun h1 h2 => wh_yes (D.take k) s[i + k] d hdd h1 h2)
      have WN := Lib.hid (fun h => wh_no (D.take k) s[i + k] d hdd h)
      rw [← DT.out] at WY WN
      clear hd hdd hdd0
      generalize wh (D.take k) = x at *
      by_cases h0 : 0 ≤ x
      · by_cases h2 : x ≤ (9223372036854775807 - (d : Int)) / 10
        · have W1 := Lib.hid (WY.out h0 h2)
          go_wp2_with fail
          refine (rdigit _ _ _ D1.out).mono ?_
          rintro e w' ⟨rfl, rfl⟩
          go_wp2
          go_round
          case rel => exact ⟨k + 1, by omega, by simp; omega, by rw [W1.out]⟩
          case measure => simp [intOf]; omega
        · have W1 := Lib.hid (WN.out (fun g => h2 g.2))
          go_wp2_with fail
          refine (rdigit _ _ _ D1.out).mono ?_
          rintro e w' ⟨rfl, rfl⟩
          go_wp2
          go_round
          case rel => exact ⟨k + 1, by omega, by simp; omega, by rw [W1.out]⟩
          case measure => simp [intOf]; omega
      · have W1 := Lib.hid (WN.out (fun g => h0 g.1))
        go_wp2_with fail
        refine (rdigit _ _ _ D1.out).mono ?_
        rintro e w' ⟨rfl, rfl⟩
        go_wp2
        go_round
        case rel => exact ⟨k + 1, by omega, by simp; omega, by rw [W1.out]⟩
        case measure => simp [intOf]; omega
    · obtain rfl : k = n := by omega
      have HX := Lib.hid (show wh (D.take k) = wh D by rw [List.take_of_length_le (by rw [HDL.out]; omega)])
      rw [HX.out] at hwb ⊢
      generalize hx : wh D = x at hwb ⊢
      have HXX := Lib.hid hx
      clear T Y hx HX
      clear hne
      have hne : ((i : Int) + (k : Int) == (i : Int)) = false := by rw [beq_eq_false_iff_ne]; omega
      rcases HF.out with ⟨hdot, hp, hm, hFF⟩ | ⟨⟨hks, hdot⟩, hm, hm1, _, hp, hFF⟩
      · have HP := Lib.hid (show (i : Int) + (k : Int) = (p2 : Int) by omega)
        have HM := Lib.hid hm
        have HFF := Lib.hid hFF
        clear hp hm hFF
        by_cases hks : i + k < s.size
        · have hdt : ((s[i + k].toNat : Int) == 46) = false := by rw [beq_eq_false_iff_ne]; intro g; exact hdot hks (UInt8.toNat_inj.mp (by simpa using (show s[i + k].toNat = 46 by omega)))
          have N1 := Lib.hid (N.out hks)
          clear hdot
          go_wp2_with fail
          refine (rdigit _ _ _ N1.out).mono ?_
          rintro e w' ⟨rfl, rfl⟩
          go_upto_if 59 with (fail)
          go_cut [1, 9, 10] (fun a b c wx => a = .int .i64 (p2 : Int) ∧ b = .int .i64 (F : Int) ∧ c = .int .i64 (m : Int) ∧ w = wx)
          case first =>
            go_wp2
            go_meet
            exact ⟨by rw [HP.out], by rw [HFF.out]; rfl, by rw [HM.out]; rfl, rfl⟩
          case rest =>
            obtain ⟨rfl, rfl, rfl, rfl⟩ := hcut
            go_wp2
            go_loop [9, 11] (fun x y => ∃ j : Nat, m ≤ j ∧ j ≤ 6 ∧ y = .int .i64 (j : Int) ∧ x = .int .i64 (F * 10 ^ (j - m) : Nat)) (fun _ y => 6 - (intOf y).toNat)
            case atStart => exact ⟨m, Nat.le_refl _, hm6, rfl, by simp⟩
            case round =>
              obtain ⟨j, hj1, hj2, rfl, rfl⟩ := hrel
              have hqb := pad_bd F m j hFb hj1 hj2
              by_cases hj6 : j < 6
              · have HS := Lib.hid (pad_succ F m j hj1)
                generalize F * 10 ^ (j - m) = q at *
                go_wp2
                go_round
                case rel => exact ⟨j + 1, by omega, by omega, by go_num, by rw [HS.out]; simp⟩
                case measure => simp [intOf]; omega
              · obtain rfl : j = 6 := by omega
                generalize F * 10 ^ (6 - m) = f at *
                go_upto_block 6 with (fail)
                go_cut [12] (fun x wx => x = .int .i64 ((p2 : Int) + (n3 : Int)) ∧ w = wx)
                case first =>
                  go_wp2
                  go_loop [12] (fun x => ∃ j : Nat, j ≤ n3 ∧ x = .int .i64 ((p2 : Int) + (j : Int))) (fun x => (p2 + n3) - (intOf x).toNat)
                  case atStart => exact ⟨0, by omega, by simp⟩
                  case round =>
                    obtain ⟨j, hj, rfl⟩ := hrel
                    by_cases hjn : j < n3
                    · have hks2 : p2 + j < s.size := by omega
                      have D1 := Lib.hid (Y3.out j hks2 hjn)
                      go_wp2_with fail
                      refine (rblank _ _ _ D1.out).mono ?_
                      rintro e w' ⟨rfl, rfl⟩
                      go_wp2
                      go_round
                      case rel => exact ⟨j + 1, by omega, by simp; omega⟩
                      case measure => simp [intOf]; omega
                    · obtain rfl : j = n3 := by omega
                      by_cases hks2 : p2 + j < s.size
                      · have D1 := Lib.hid (N3.out hks2)
                        go_wp2_with fail
                        refine (rblank _ _ _ D1.out).mono ?_
                        rintro e w' ⟨rfl, rfl⟩
                        go_wp2
                        go_meet
                        exact ⟨rfl, rfl⟩
                      · go_wp2
                        go_meet
                        exact ⟨rfl, rfl⟩
                case rest =>
                  obtain ⟨rfl, rfl⟩ := hcut
                  go_upto_block 8 with (fail)
                  go_cut [12] (fun x wx => x = .int .i64 ((p2 : Int) + (n3 : Int) + (n4 : Int)) ∧ w = wx)
                  case first =>
                    go_wp2
                    go_loop [12] (fun x => ∃ j : Nat, j ≤ n4 ∧ x = .int .i64 ((p2 : Int) + (n3 : Int) + (j : Int))) (fun x => (p2 + n3 + n4) - (intOf x).toNat)
                    case atStart => exact ⟨0, by omega, by simp⟩
                    case round =>
                      obtain ⟨j, hj, rfl⟩ := hrel
                      by_cases hjn : j < n4
                      · have hks2 : p2 + n3 + j < s.size := by omega
                        have D1 := Lib.hid (Y4.out j hks2 hjn)
                        go_wp2_with fail
                        refine (rletter _ _ _ D1.out).mono ?_
                        rintro e w' ⟨rfl, rfl⟩
                        go_wp2
                        go_round
                        case rel => exact ⟨j + 1, by omega, by simp; omega⟩
                        case measure => simp [intOf]; omega
                      · obtain rfl : j = n4 := by omega
                        by_cases hks2 : p2 + n3 + j < s.size
                        · have D1 := Lib.hid (N4.out hks2)
                          go_wp2_with fail
                          refine (rletter _ _ _ D1.out).mono ?_
                          rintro e w' ⟨rfl, rfl⟩
                          go_wp2
                          go_meet
                          exact ⟨rfl, rfl⟩
                        · go_wp2
                          go_meet
                          exact ⟨rfl, rfl⟩
                  case rest =>
                    obtain ⟨rfl, rfl⟩ := hcut
                    by_cases hu0 : u = 0
                    · have HV := Lib.hid (show r = (0, -1) by rw [← HR.out]; exact rres_none hu0)
                      have huz : ((u : Int) == 0) = true := by rw [beq_iff_eq]; omega
                      go_wp2_with fail
                      refine (r_at _ u _ E4.out).mono ?_
                      rintro e w' ⟨rfl, rfl⟩
                      go_wp2
                      go_ret2
                      rw [HV.out]
                      exact ⟨rfl, rfl⟩
                    · have huz : ((u : Int) == 0) = false := by rw [beq_eq_false_iff_ne]; omega
                      have hu1 : 0 < (u : Int) := by omega
                      have hu2 : (u : Int) ≤ 31557600000000 := by omega
                      generalize hK : (if n4 = 0 then p2 else p2 + n3 + n4) = K at HR
                      have hKs : K ≤ s.size := by split at hK <;> omega
                      have HK := Lib.hid hK
                      clear hK
                      go_wp2_with fail
                      refine (r_at _ u _ E4.out).mono ?_
                      rintro e w' ⟨rfl, rfl⟩
                      go_upto_if 134 with (fail)
                      go_cut [12] (fun x wx => x = .int .i64 (K : Int) ∧ w = wx)
                      case first =>
                        by_cases h4 : n4 = 0
                        · have hk4 : ((p2 : Int) + (n3 : Int) == (p2 : Int) + (n3 : Int) + (n4 : Int)) = true := by rw [beq_iff_eq]; omega
                          have HK2 := Lib.hid (show p2 = K by have := HK.out; rw [if_pos h4] at this; exact this)
                          rw [hk4]
                          clear hk4
                          go_wp2
                          go_meet
                          exact ⟨by rw [← HK2.out], rfl⟩
                        · have hk4 : ((p2 : Int) + (n3 : Int) == (p2 : Int) + (n3 : Int) + (n4 : Int)) = false := by rw [beq_eq_false_iff_ne]; omega
                          have HK2 := Lib.hid (show ((p2 : Int) + (n3 : Int) + (n4 : Int)) = (K : Int) by have := HK.out; rw [if_neg h4] at this; omega)
                          rw [hk4]
                          clear hk4
                          go_wp2
                          go_meet
                          exact ⟨by rw [HK2.out], rfl⟩
                      case rest =>
                        obtain ⟨rfl, rfl⟩ := hcut
                        clear hle3 hle4 hne hkn
                        by_cases hx0 : x < 0
                        · have HV := Lib.hid (show r = (-1, (K : Int)) by rw [← HR.out]; exact rres_great hu0 (wh_neg (by rw [HXX.out]; exact hx0) hu0))
                          go_wp2
                          go_ret2
                          rw [HV.out]
                          exact ⟨rfl, rfl⟩
                        · obtain ⟨dd, hdd⟩ : ∃ dd : Nat, dec D = dd := ⟨_, rfl⟩
                          have hxd : x = (dd : Int) := by rw [← HXX.out, ← hdd]; exact wh_pos (by rw [HXX.out]; omega)
                          have hdb : (dd : Int) ≤ 9223372036854775807 := by omega
                          clear HXX hwb hx0
                          subst hxd
                          have hx0 : ¬ (dd : Int) < 0 := by omega
                          by_cases hq : 9223372036854775806 / u < dd
                          · have hqi : (9223372036854775806 : Int) / (u : Int) < (dd : Int) := by rw [quo_cast]; exact Int.ofNat_lt.2 hq
                            have HV := Lib.hid (show r = (-1, (K : Int)) by rw [← HR.out]; exact rres_great hu0 (by rw [hdd]; have := (Nat.div_lt_iff_lt_mul (x := 9223372036854775806) (y := dd) (show 0 < u by omega)).1 hq; omega))
                            clear hq
                            go_wp2
                            go_ret2
                            rw [HV.out]
                            exact ⟨rfl, rfl⟩
                          · have hqi : ¬ (9223372036854775806 : Int) / (u : Int) < (dd : Int) := by rw [quo_cast]; exact fun g => hq (Int.ofNat_lt.1 g)
                            have hpr : dd * u ≤ 9223372036854775806 := (Nat.le_div_iff_mul_le (show 0 < u by omega)).1 (Nat.le_of_not_lt hq)
                            have hp1 : 0 ≤ (dd : Int) * (u : Int) ∧ (dd : Int) * (u : Int) ≤ 9223372036854775806 := by
                              rw [show (dd : Int) * (u : Int) = ((dd * u : Nat) : Int) by simp]; omega
                            obtain ⟨hp2', hp3⟩ := hp1
                            obtain ⟨s1, s2, s3⟩ := share_bd f u hqb (by omega)
                            have hs1 : 0 ≤ (u : Int) / 1000000 * (f : Int) ∧ (u : Int) / 1000000 * (f : Int) ≤ 31557600000000 := by
                              rw [show (u : Int) / 1000000 * (f : Int) = ((f * (u / 1000000) : Nat) : Int) by simp [Int.mul_comm]]; omega
                            have hs2 : 0 ≤ (u : Int) % 1000000 * (f : Int) ∧ (u : Int) % 1000000 * (f : Int) ≤ 1000000000000 := by
                              rw [show (u : Int) % 1000000 * (f : Int) = ((f * (u % 1000000) : Nat) : Int) by simp [Int.mul_comm]]; omega
                            have hsh : (u : Int) / 1000000 * (f : Int) + (u : Int) % 1000000 * (f : Int) / 1000000 = ((share f u : Nat) : Int) := by
                              unfold share; simp [Int.mul_comm]
                            obtain ⟨a1, a2⟩ := hs1
                            obtain ⟨a3, a4⟩ := hs2
                            generalize hSS : share f u = sh at *
                            have hSS' := Lib.hid hSS
                            have HSH := Lib.hid hsh
                            have hsb : (sh : Int) ≤ 31557601000000 := by omega
                            have hab : 0 ≤ (u : Int) / 1000000 * (f : Int) + (u : Int) % 1000000 * (f : Int) / 1000000 ∧ (u : Int) / 1000000 * (f : Int) + (u : Int) % 1000000 * (f : Int) / 1000000 ≤ 31557601000000 := by rw [hsh]; omega
                            obtain ⟨a5, a6⟩ := hab
                            clear hSS hsh hq s1 s2 s3
                            by_cases hg : 9223372036854775806 - (sh : Int) < (dd : Int) * (u : Int)
                            · have HV := Lib.hid (show r = (-1, (K : Int)) by rw [← HR.out]; exact rres_great hu0 (by rw [hdd, hSS'.out]; have e : (dd : Int) * (u : Int) = ((dd * u : Nat) : Int) := (by simp); omega))
                              have hg' : 9223372036854775806 - ((u : Int) / 1000000 * (f : Int) + (u : Int) % 1000000 * (f : Int) / 1000000) < (dd : Int) * (u : Int) := by rw [HSH.out]; exact hg
                              clear hg hpr
                              go_wp2
                              go_ret2
                              rw [HV.out]
                              exact ⟨rfl, rfl⟩
                            · have HV := Lib.hid (show r = (((dd * u + sh : Nat) : Int), (K : Int)) by rw [← HR.out, ← hdd, ← hSS'.out]; exact rres_fine hu0 (by rw [hdd, hSS'.out]; have e : (dd : Int) * (u : Int) = ((dd * u : Nat) : Int) := (by simp); omega))
                              have hg' : ¬ 9223372036854775806 - ((u : Int) / 1000000 * (f : Int) + (u : Int) % 1000000 * (f : Int) / 1000000) < (dd : Int) * (u : Int) := by rw [HSH.out]; exact hg
                              clear hg hpr
                              go_wp2
                              go_ret2
                              rw [HV.out]
                              exact ⟨Us.ret_two (by rw [HSH.out]; simp) rfl, rfl⟩
        · clear hdot
          go_upto_if 59 with (fail)
          go_cut [1, 9, 10] (fun a b c wx => a = .int .i64 (p2 : Int) ∧ b = .int .i64 (F : Int) ∧ c = .int .i64 (m : Int) ∧ w = wx)
          case first =>
            go_wp2
            go_meet
            exact ⟨by rw [HP.out], by rw [HFF.out]; rfl, by rw [HM.out]; rfl, rfl⟩
          case rest =>
            obtain ⟨rfl, rfl, rfl, rfl⟩ := hcut
            go_wp2
            go_loop [9, 11] (fun x y => ∃ j : Nat, m ≤ j ∧ j ≤ 6 ∧ y = .int .i64 (j : Int) ∧ x = .int .i64 (F * 10 ^ (j - m) : Nat)) (fun _ y => 6 - (intOf y).toNat)
            case atStart => exact ⟨m, Nat.le_refl _, hm6, rfl, by simp⟩
            case round =>
              obtain ⟨j, hj1, hj2, rfl, rfl⟩ := hrel
              have hqb := pad_bd F m j hFb hj1 hj2
              by_cases hj6 : j < 6
              · have HS := Lib.hid (pad_succ F m j hj1)
                generalize F * 10 ^ (j - m) = q at *
                go_wp2
                go_round
                case rel => exact ⟨j + 1, by omega, by omega, by go_num, by rw [HS.out]; simp⟩
                case measure => simp [intOf]; omega
              · obtain rfl : j = 6 := by omega
                generalize F * 10 ^ (6 - m) = f at *
                go_upto_block 6 with (fail)
                go_cut [12] (fun x wx => x = .int .i64 ((p2 : Int) + (n3 : Int)) ∧ w = wx)
                case first =>
                  go_wp2
                  go_loop [12] (fun x => ∃ j : Nat, j ≤ n3 ∧ x = .int .i64 ((p2 : Int) + (j : Int))) (fun x => (p2 + n3) - (intOf x).toNat)
                  case atStart => exact ⟨0, by omega, by simp⟩
                  case round =>
                    obtain ⟨j, hj, rfl⟩ := hrel
                    by_cases hjn : j < n3
                    · have hks2 : p2 + j < s.size := by omega
                      have D1 := Lib.hid (Y3.out j hks2 hjn)
                      go_wp2_with fail
                      refine (rblank _ _ _ D1.out).mono ?_
                      rintro e w' ⟨rfl, rfl⟩
                      go_wp2
                      go_round
                      case rel => exact ⟨j + 1, by omega, by simp; omega⟩
                      case measure => simp [intOf]; omega
                    · obtain rfl : j = n3 := by omega
                      by_cases hks2 : p2 + j < s.size
                      · have D1 := Lib.hid (N3.out hks2)
                        go_wp2_with fail
                        refine (rblank _ _ _ D1.out).mono ?_
                        rintro e w' ⟨rfl, rfl⟩
                        go_wp2
                        go_meet
                        exact ⟨rfl, rfl⟩
                      · go_wp2
                        go_meet
                        exact ⟨rfl, rfl⟩
                case rest =>
                  obtain ⟨rfl, rfl⟩ := hcut
                  go_upto_block 8 with (fail)
                  go_cut [12] (fun x wx => x = .int .i64 ((p2 : Int) + (n3 : Int) + (n4 : Int)) ∧ w = wx)
                  case first =>
                    go_wp2
                    go_loop [12] (fun x => ∃ j : Nat, j ≤ n4 ∧ x = .int .i64 ((p2 : Int) + (n3 : Int) + (j : Int))) (fun x => (p2 + n3 + n4) - (intOf x).toNat)
                    case atStart => exact ⟨0, by omega, by simp⟩
                    case round =>
                      obtain ⟨j, hj, rfl⟩ := hrel
                      by_cases hjn : j < n4
                      · have hks2 : p2 + n3 + j < s.size := by omega
                        have D1 := Lib.hid (Y4.out j hks2 hjn)
                        go_wp2_with fail
                        refine (rletter _ _ _ D1.out).mono ?_
                        rintro e w' ⟨rfl, rfl⟩
                        go_wp2
                        go_round
                        case rel => exact ⟨j + 1, by omega, by simp; omega⟩
                        case measure => simp [intOf]; omega
                      · obtain rfl : j = n4 := by omega
                        by_cases hks2 : p2 + n3 + j < s.size
                        · have D1 := Lib.hid (N4.out hks2)
                          go_wp2_with fail
                          refine (rletter _ _ _ D1.out).mono ?_
                          rintro e w' ⟨rfl, rfl⟩
                          go_wp2
                          go_meet
                          exact ⟨rfl, rfl⟩
                        · go_wp2
                          go_meet
                          exact ⟨rfl, rfl⟩
                  case rest =>
                    obtain ⟨rfl, rfl⟩ := hcut
                    by_cases hu0 : u = 0
                    · have HV := Lib.hid (show r = (0, -1) by rw [← HR.out]; exact rres_none hu0)
                      have huz : ((u : Int) == 0) = true := by rw [beq_iff_eq]; omega
                      go_wp2_with fail
                      refine (r_at _ u _ E4.out).mono ?_
                      rintro e w' ⟨rfl, rfl⟩
                      go_wp2
                      go_ret2
                      rw [HV.out]
                      exact ⟨rfl, rfl⟩
                    · have huz : ((u : Int) == 0) = false := by rw [beq_eq_false_iff_ne]; omega
                      have hu1 : 0 < (u : Int) := by omega
                      have hu2 : (u : Int) ≤ 31557600000000 := by omega
                      generalize hK : (if n4 = 0 then p2 else p2 + n3 + n4) = K at HR
                      have hKs : K ≤ s.size := by split at hK <;> omega
                      have HK := Lib.hid hK
                      clear hK
                      go_wp2_with fail
                      refine (r_at _ u _ E4.out).mono ?_
                      rintro e w' ⟨rfl, rfl⟩
                      go_upto_if 134 with (fail)
                      go_cut [12] (fun x wx => x = .int .i64 (K : Int) ∧ w = wx)
                      case first =>
                        by_cases h4 : n4 = 0
                        · have hk4 : ((p2 : Int) + (n3 : Int) == (p2 : Int) + (n3 : Int) + (n4 : Int)) = true := by rw [beq_iff_eq]; omega
                          have HK2 := Lib.hid (show p2 = K by have := HK.out; rw [if_pos h4] at this; exact this)
                          rw [hk4]
                          clear hk4
                          go_wp2
                          go_meet
                          exact ⟨by rw [← HK2.out], rfl⟩
                        · have hk4 : ((p2 : Int) + (n3 : Int) == (p2 : Int) + (n3 : Int) + (n4 : Int)) = false := by rw [beq_eq_false_iff_ne]; omega
                          have HK2 := Lib.hid (show ((p2 : Int) + (n3 : Int) + (n4 : Int)) = (K : Int) by have := HK.out; rw [if_neg h4] at this; omega)
                          rw [hk4]
                          clear hk4
                          go_wp2
                          go_meet
                          exact ⟨by rw [HK2.out], rfl⟩
                      case rest =>
                        obtain ⟨rfl, rfl⟩ := hcut
                        clear hle3 hle4 hne hkn
                        by_cases hx0 : x < 0
                        · have HV := Lib.hid (show r = (-1, (K : Int)) by rw [← HR.out]; exact rres_great hu0 (wh_neg (by rw [HXX.out]; exact hx0) hu0))
                          go_wp2
                          go_ret2
                          rw [HV.out]
                          exact ⟨rfl, rfl⟩
                        · obtain ⟨dd, hdd⟩ : ∃ dd : Nat, dec D = dd := ⟨_, rfl⟩
                          have hxd : x = (dd : Int) := by rw [← HXX.out, ← hdd]; exact wh_pos (by rw [HXX.out]; omega)
                          have hdb : (dd : Int) ≤ 9223372036854775807 := by omega
                          clear HXX hwb hx0
                          subst hxd
                          have hx0 : ¬ (dd : Int) < 0 := by omega
                          by_cases hq : 9223372036854775806 / u < dd
                          · have hqi : (9223372036854775806 : Int) / (u : Int) < (dd : Int) := by rw [quo_cast]; exact Int.ofNat_lt.2 hq
                            have HV := Lib.hid (show r = (-1, (K : Int)) by rw [← HR.out]; exact rres_great hu0 (by rw [hdd]; have := (Nat.div_lt_iff_lt_mul (x := 9223372036854775806) (y := dd) (show 0 < u by omega)).1 hq; omega))
                            clear hq
                            go_wp2
                            go_ret2
                            rw [HV.out]
                            exact ⟨rfl, rfl⟩
                          · have hqi : ¬ (9223372036854775806 : Int) / (u : Int) < (dd : Int) := by rw [quo_cast]; exact fun g => hq (Int.ofNat_lt.1 g)
                            have hpr : dd * u ≤ 9223372036854775806 := (Nat.le_div_iff_mul_le (show 0 < u by omega)).1 (Nat.le_of_not_lt hq)
                            have hp1 : 0 ≤ (dd : Int) * (u : Int) ∧ (dd : Int) * (u : Int) ≤ 9223372036854775806 := by
                              rw [show (dd : Int) * (u : Int) = ((dd * u : Nat) : Int) by simp]; omega
                            obtain ⟨hp2', hp3⟩ := hp1
                            obtain ⟨s1, s2, s3⟩ := share_bd f u hqb (by omega)
                            have hs1 : 0 ≤ (u : Int) / 1000000 * (f : Int) ∧ (u : Int) / 1000000 * (f : Int) ≤ 31557600000000 := by
                              rw [show (u : Int) / 1000000 * (f : Int) = ((f * (u / 1000000) : Nat) : Int) by simp [Int.mul_comm]]; omega
                            have hs2 : 0 ≤ (u : Int) % 1000000 * (f : Int) ∧ (u : Int) % 1000000 * (f : Int) ≤ 1000000000000 := by
                              rw [show (u : Int) % 1000000 * (f : Int) = ((f * (u % 1000000) : Nat) : Int) by simp [Int.mul_comm]]; omega
                            have hsh : (u : Int) / 1000000 * (f : Int) + (u : Int) % 1000000 * (f : Int) / 1000000 = ((share f u : Nat) : Int) := by
                              unfold share; simp [Int.mul_comm]
                            obtain ⟨a1, a2⟩ := hs1
                            obtain ⟨a3, a4⟩ := hs2
                            generalize hSS : share f u = sh at *
                            have hSS' := Lib.hid hSS
                            have HSH := Lib.hid hsh
                            have hsb : (sh : Int) ≤ 31557601000000 := by omega
                            have hab : 0 ≤ (u : Int) / 1000000 * (f : Int) + (u : Int) % 1000000 * (f : Int) / 1000000 ∧ (u : Int) / 1000000 * (f : Int) + (u : Int) % 1000000 * (f : Int) / 1000000 ≤ 31557601000000 := by rw [hsh]; omega
                            obtain ⟨a5, a6⟩ := hab
                            clear hSS hsh hq s1 s2 s3
                            by_cases hg : 9223372036854775806 - (sh : Int) < (dd : Int) * (u : Int)
                            · have HV := Lib.hid (show r = (-1, (K : Int)) by rw [← HR.out]; exact rres_great hu0 (by rw [hdd, hSS'.out]; have e : (dd : Int) * (u : Int) = ((dd * u : Nat) : Int) := (by simp); omega))
                              have hg' : 9223372036854775806 - ((u : Int) / 1000000 * (f : Int) + (u : Int) % 1000000 * (f : Int) / 1000000) < (dd : Int) * (u : Int) := by rw [HSH.out]; exact hg
                              clear hg hpr
                              go_wp2
                              go_ret2
                              rw [HV.out]
                              exact ⟨rfl, rfl⟩
                            · have HV := Lib.hid (show r = (((dd * u + sh : Nat) : Int), (K : Int)) by rw [← HR.out, ← hdd, ← hSS'.out]; exact rres_fine hu0 (by rw [hdd, hSS'.out]; have e : (dd : Int) * (u : Int) = ((dd * u : Nat) : Int) := (by simp); omega))
                              have hg' : ¬ 9223372036854775806 - ((u : Int) / 1000000 * (f : Int) + (u : Int) % 1000000 * (f : Int) / 1000000) < (dd : Int) * (u : Int) := by rw [HSH.out]; exact hg
                              clear hg hpr
                              go_wp2
                              go_ret2
                              rw [HV.out]
                              exact ⟨Us.ret_two (by rw [HSH.out]; simp) rfl, rfl⟩
      · have hdt : ((s[i + k].toNat : Int) == 46) = true := by rw [hdot]; rfl
        have N1 := Lib.hid (N.out hks)
        have Y2 := Lib.hid (fun j h hk => run_yes dg s (i + k + 1) j h (by rw [← hm]; exact hk))
        have N2 := Lib.hid (fun h' => run_no dg s (i + k + 1) h')
        rw [← hm] at N2
        have T2 := Lib.hid (fun j h hk => run_take dg s (i + k + 1) j h (by rw [← hm]; exact hk))
        have hml : ((s.data.toList.drop (i + k + 1)).takeWhile dg).length = m := hm.symm
        have hall := tw_all dg (s.data.toList.drop (i + k + 1))
        generalize (s.data.toList.drop (i + k + 1)).takeWhile dg = D2 at hFF T2 hml hall
        have HML := Lib.hid hml
        have HFF := Lib.hid hFF
        have HALL := Lib.hid hall
        have HP := Lib.hid hp
        have hpi : (p2 : Int) = (i : Int) + (k : Int) + 1 + (m : Int) := by omega
        have HPI := Lib.hid hpi
        have hmz : ((m : Int) == 0) = false := by rw [beq_eq_false_iff_ne]; omega
        clear hdot hm hFF hml hall hp hpi
        go_wp2_with fail
        refine (rdigit _ _ _ N1.out).mono ?_
        rintro e w' ⟨rfl, rfl⟩
        go_upto_if 59 with (fail)
        go_cut [1, 9, 10] (fun a b c wx => a = .int .i64 (p2 : Int) ∧ b = .int .i64 (F : Int) ∧ c = .int .i64 (m : Int) ∧ w = wx)
        case first =>
          go_wp2
          go_loop [1, 9, 10] (fun x y z => ∃ j : Nat, j ≤ m ∧ x = .int .i64 ((i : Int) + (k : Int) + 1 + (j : Int)) ∧ y = .int .i64 (dec (D2.take j) : Nat) ∧ z = .int .i64 (j : Int)) (fun x _ _ => (i + k + 1 + m) - (intOf x).toNat)
          case atStart => exact ⟨0, by omega, by simp, rfl, rfl⟩
          case round =>
            obtain ⟨j, hj, rfl, rfl, rfl⟩ := hrel
            have hqb := six_dec (D2.take j).length (D2.take j) rfl (fun c hc => HALL.out c (List.mem_of_mem_take hc))
            have hq : dec (D2.take j) ≤ 999999 := by
              have h1 : (D2.take j).length ≤ 6 := Nat.le_trans (List.length_take_le _ _) (by omega)
              have h2 : 10 ^ (D2.take j).length ≤ 10 ^ 6 := Nat.pow_le_pow_right (by omega) h1
              omega
            clear hqb
            by_cases hjn : j < m
            · have hks2 : i + k + 1 + j < s.size := by have := HP.out; omega
              have hd : dg s[i + k + 1 + j] = true := Y2.out j hks2 hjn
              obtain ⟨e1, e2⟩ := digit_val s[i + k + 1 + j] hd
              have D1 := Lib.hid hd
              have DT := Lib.hid (show dec (D2.take (j + 1)) = dec (D2.take j) * 10 + (s[i + k + 1 + j].toNat - 48) by rw [T2.out j hks2 hjn, dec_snoc])
              generalize s[i + k + 1 + j].toNat - 48 = d at e1 e2 DT
              generalize dec (D2.take j) = q at *
              clear hd
              go_wp2_with fail
              refine (rdigit _ _ _ D1.out).mono ?_
              rintro e w' ⟨rfl, rfl⟩
              go_wp2
              go_round
              case rel => exact ⟨j + 1, by omega, by simp; omega, by rw [DT.out]; simp, by go_num⟩
              case measure => simp [intOf]; omega
            · obtain rfl : j = m := by omega
              have HE := Lib.hid (show dec (D2.take j) = F by rw [HFF.out, List.take_of_length_le (by rw [HML.out]; omega)])
              rw [HE.out]
              by_cases hks2 : i + k + 1 + j < s.size
              · have N3 := Lib.hid (N2.out hks2)
                go_wp2_with fail
                refine (rdigit _ _ _ N3.out).mono ?_
                rintro e w' ⟨rfl, rfl⟩
                go_wp2
                go_meet
                exact ⟨by rw [HPI.out], rfl, rfl, rfl⟩
              · go_wp2
                go_meet
                exact ⟨by rw [HPI.out], rfl, rfl, rfl⟩
        case rest =>
          obtain ⟨rfl, rfl, rfl, rfl⟩ := hcut
          go_wp2
          go_loop [9, 11] (fun x y => ∃ j : Nat, m ≤ j ∧ j ≤ 6 ∧ y = .int .i64 (j : Int) ∧ x = .int .i64 (F * 10 ^ (j - m) : Nat)) (fun _ y => 6 - (intOf y).toNat)
          case atStart => exact ⟨m, Nat.le_refl _, hm6, rfl, by simp⟩
          case round =>
            obtain ⟨j, hj1, hj2, rfl, rfl⟩ := hrel
            have hqb := pad_bd F m j hFb hj1 hj2
            by_cases hj6 : j < 6
            · have HS := Lib.hid (pad_succ F m j hj1)
              generalize F * 10 ^ (j - m) = q at *
              go_wp2
              go_round
              case rel => exact ⟨j + 1, by omega, by omega, by go_num, by rw [HS.out]; simp⟩
              case measure => simp [intOf]; omega
            · obtain rfl : j = 6 := by omega
              generalize F * 10 ^ (6 - m) = f at *
              go_upto_block 6 with (fail)
              go_cut [12] (fun x wx => x = .int .i64 ((p2 : Int) + (n3 : Int)) ∧ w = wx)
              case first =>
                go_wp2
                go_loop [12] (fun x => ∃ j : Nat, j ≤ n3 ∧ x = .int .i64 ((p2 : Int) + (j : Int))) (fun x => (p2 + n3) - (intOf x).toNat)
                case atStart => exact ⟨0, by omega, by simp⟩
                case round =>
                  obtain ⟨j, hj, rfl⟩ := hrel
                  by_cases hjn : j < n3
                  · have hks2 : p2 + j < s.size := by omega
                    have D1 := Lib.hid (Y3.out j hks2 hjn)
                    go_wp2_with fail
                    refine (rblank _ _ _ D1.out).mono ?_
                    rintro e w' ⟨rfl, rfl⟩
                    go_wp2
                    go_round
                    case rel => exact ⟨j + 1, by omega, by simp; omega⟩
                    case measure => simp [intOf]; omega
                  · obtain rfl : j = n3 := by omega
                    by_cases hks2 : p2 + j < s.size
                    · have D1 := Lib.hid (N3.out hks2)
                      go_wp2_with fail
                      refine (rblank _ _ _ D1.out).mono ?_
                      rintro e w' ⟨rfl, rfl⟩
                      go_wp2
                      go_meet
                      exact ⟨rfl, rfl⟩
                    · go_wp2
                      go_meet
                      exact ⟨rfl, rfl⟩
              case rest =>
                obtain ⟨rfl, rfl⟩ := hcut
                go_upto_block 8 with (fail)
                go_cut [12] (fun x wx => x = .int .i64 ((p2 : Int) + (n3 : Int) + (n4 : Int)) ∧ w = wx)
                case first =>
                  go_wp2
                  go_loop [12] (fun x => ∃ j : Nat, j ≤ n4 ∧ x = .int .i64 ((p2 : Int) + (n3 : Int) + (j : Int))) (fun x => (p2 + n3 + n4) - (intOf x).toNat)
                  case atStart => exact ⟨0, by omega, by simp⟩
                  case round =>
                    obtain ⟨j, hj, rfl⟩ := hrel
                    by_cases hjn : j < n4
                    · have hks2 : p2 + n3 + j < s.size := by omega
                      have D1 := Lib.hid (Y4.out j hks2 hjn)
                      go_wp2_with fail
                      refine (rletter _ _ _ D1.out).mono ?_
                      rintro e w' ⟨rfl, rfl⟩
                      go_wp2
                      go_round
                      case rel => exact ⟨j + 1, by omega, by simp; omega⟩
                      case measure => simp [intOf]; omega
                    · obtain rfl : j = n4 := by omega
                      by_cases hks2 : p2 + n3 + j < s.size
                      · have D1 := Lib.hid (N4.out hks2)
                        go_wp2_with fail
                        refine (rletter _ _ _ D1.out).mono ?_
                        rintro e w' ⟨rfl, rfl⟩
                        go_wp2
                        go_meet
                        exact ⟨rfl, rfl⟩
                      · go_wp2
                        go_meet
                        exact ⟨rfl, rfl⟩
                case rest =>
                  obtain ⟨rfl, rfl⟩ := hcut
                  by_cases hu0 : u = 0
                  · have HV := Lib.hid (show r = (0, -1) by rw [← HR.out]; exact rres_none hu0)
                    have huz : ((u : Int) == 0) = true := by rw [beq_iff_eq]; omega
                    go_wp2_with fail
                    refine (r_at _ u _ E4.out).mono ?_
                    rintro e w' ⟨rfl, rfl⟩
                    go_wp2
                    go_ret2
                    rw [HV.out]
                    exact ⟨rfl, rfl⟩
                  · have huz : ((u : Int) == 0) = false := by rw [beq_eq_false_iff_ne]; omega
                    have hu1 : 0 < (u : Int) := by omega
                    have hu2 : (u : Int) ≤ 31557600000000 := by omega
                    generalize hK : (if n4 = 0 then p2 else p2 + n3 + n4) = K at HR
                    have hKs : K ≤ s.size := by split at hK <;> omega
                    have HK := Lib.hid hK
                    clear hK
                    go_wp2_with fail
                    refine (r_at _ u _ E4.out).mono ?_
                    rintro e w' ⟨rfl, rfl⟩
                    go_upto_if 134 with (fail)
                    go_cut [12] (fun x wx => x = .int .i64 (K : Int) ∧ w = wx)
                    case first =>
                      by_cases h4 : n4 = 0
                      · have hk4 : ((p2 : Int) + (n3 : Int) == (p2 : Int) + (n3 : Int) + (n4 : Int)) = true := by rw [beq_iff_eq]; omega
                        have HK2 := Lib.hid (show p2 = K by have := HK.out; rw [if_pos h4] at this; exact this)
                        rw [hk4]
                        clear hk4
                        go_wp2
                        go_meet
                        exact ⟨by rw [← HK2.out], rfl⟩
                      · have hk4 : ((p2 : Int) + (n3 : Int) == (p2 : Int) + (n3 : Int) + (n4 : Int)) = false := by rw [beq_eq_false_iff_ne]; omega
                        have HK2 := Lib.hid (show ((p2 : Int) + (n3 : Int) + (n4 : Int)) = (K : Int) by have := HK.out; rw [if_neg h4] at this; omega)
                        rw [hk4]
                        clear hk4
                        go_wp2
                        go_meet
                        exact ⟨by rw [HK2.out], rfl⟩
                    case rest =>
                      obtain ⟨rfl, rfl⟩ := hcut
                      clear hle3 hle4 hne hkn
                      by_cases hx0 : x < 0
                      · have HV := Lib.hid (show r = (-1, (K : Int)) by rw [← HR.out]; exact rres_great hu0 (wh_neg (by rw [HXX.out]; exact hx0) hu0))
                        go_wp2
                        go_ret2
                        rw [HV.out]
                        exact ⟨rfl, rfl⟩
                      · obtain ⟨dd, hdd⟩ : ∃ dd : Nat, dec D = dd := ⟨_, rfl⟩
                        have hxd : x = (dd : Int) := by rw [← HXX.out, ← hdd]; exact wh_pos (by rw [HXX.out]; omega)
                        have hdb : (dd : Int) ≤ 9223372036854775807 := by omega
                        clear HXX hwb hx0
                        subst hxd
                        have hx0 : ¬ (dd : Int) < 0 := by omega
                        by_cases hq : 9223372036854775806 / u < dd
                        · have hqi : (9223372036854775806 : Int) / (u : Int) < (dd : Int) := by rw [quo_cast]; exact Int.ofNat_lt.2 hq
                          have HV := Lib.hid (show r = (-1, (K : Int)) by rw [← HR.out]; exact rres_great hu0 (by rw [hdd]; have := (Nat.div_lt_iff_lt_mul (x := 9223372036854775806) (y := dd) (show 0 < u by omega)).1 hq; omega))
                          clear hq
                          go_wp2
                          go_ret2
                          rw [HV.out]
                          exact ⟨rfl, rfl⟩
                        · have hqi : ¬ (9223372036854775806 : Int) / (u : Int) < (dd : Int) := by rw [quo_cast]; exact fun g => hq (Int.ofNat_lt.1 g)
                          have hpr : dd * u ≤ 9223372036854775806 := (Nat.le_div_iff_mul_le (show 0 < u by omega)).1 (Nat.le_of_not_lt hq)
                          have hp1 : 0 ≤ (dd : Int) * (u : Int) ∧ (dd : Int) * (u : Int) ≤ 9223372036854775806 := by
                            rw [show (dd : Int) * (u : Int) = ((dd * u : Nat) : Int) by simp]; omega
                          obtain ⟨hp2', hp3⟩ := hp1
                          obtain ⟨s1, s2, s3⟩ := share_bd f u hqb (by omega)
                          have hs1 : 0 ≤ (u : Int) / 1000000 * (f : Int) ∧ (u : Int) / 1000000 * (f : Int) ≤ 31557600000000 := by
                            rw [show (u : Int) / 1000000 * (f : Int) = ((f * (u / 1000000) : Nat) : Int) by simp [Int.mul_comm]]; omega
                          have hs2 : 0 ≤ (u : Int) % 1000000 * (f : Int) ∧ (u : Int) % 1000000 * (f : Int) ≤ 1000000000000 := by
                            rw [show (u : Int) % 1000000 * (f : Int) = ((f * (u % 1000000) : Nat) : Int) by simp [Int.mul_comm]]; omega
                          have hsh : (u : Int) / 1000000 * (f : Int) + (u : Int) % 1000000 * (f : Int) / 1000000 = ((share f u : Nat) : Int) := by
                            unfold share; simp [Int.mul_comm]
                          obtain ⟨a1, a2⟩ := hs1
                          obtain ⟨a3, a4⟩ := hs2
                          generalize hSS : share f u = sh at *
                          have hSS' := Lib.hid hSS
                          have HSH := Lib.hid hsh
                          have hsb : (sh : Int) ≤ 31557601000000 := by omega
                          have hab : 0 ≤ (u : Int) / 1000000 * (f : Int) + (u : Int) % 1000000 * (f : Int) / 1000000 ∧ (u : Int) / 1000000 * (f : Int) + (u : Int) % 1000000 * (f : Int) / 1000000 ≤ 31557601000000 := by rw [hsh]; omega
                          obtain ⟨a5, a6⟩ := hab
                          clear hSS hsh hq s1 s2 s3
                          by_cases hg : 9223372036854775806 - (sh : Int) < (dd : Int) * (u : Int)
                          · have HV := Lib.hid (show r = (-1, (K : Int)) by rw [← HR.out]; exact rres_great hu0 (by rw [hdd, hSS'.out]; have e : (dd : Int) * (u : Int) = ((dd * u : Nat) : Int) := (by simp); omega))
                            have hg' : 9223372036854775806 - ((u : Int) / 1000000 * (f : Int) + (u : Int) % 1000000 * (f : Int) / 1000000) < (dd : Int) * (u : Int) := by rw [HSH.out]; exact hg
                            clear hg hpr
                            go_wp2
                            go_ret2
                            rw [HV.out]
                            exact ⟨rfl, rfl⟩
                          · have HV := Lib.hid (show r = (((dd * u + sh : Nat) : Int), (K : Int)) by rw [← HR.out, ← hdd, ← hSS'.out]; exact rres_fine hu0 (by rw [hdd, hSS'.out]; have e : (dd : Int) * (u : Int) = ((dd * u : Nat) : Int) := (by simp); omega))
                            have hg' : ¬ 9223372036854775806 - ((u : Int) / 1000000 * (f : Int) + (u : Int) % 1000000 * (f : Int) / 1000000) < (dd : Int) * (u : Int) := by rw [HSH.out]; exact hg
                            clear hg hpr
                            go_wp2
                            go_ret2
                            rw [HV.out]
                            exact ⟨Us.ret_two (by rw [HSH.out]; simp) rfl, rfl⟩
end Go.Proofs.YtcllimfaoajapaaDoor.Ts
