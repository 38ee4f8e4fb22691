/-
  The document's own answer for a whole text.
-/
import Derived.Test.YtcllimfaoajapaaDoorTsRefAny
namespace Go.Proofs.YtcllimfaoajapaaDoor.Ts
open Go.RowKit

theorem ext_byte (s : ByteArray) (b k : Nat) (hb : b ≤ s.size) (h : k < b) : (s.extract 0 b)[k]'(by rw [ByteArray.size_extract]; omega) = s[k]'(by omega) := by
  rw [ByteArray.getElem_extract]; simp
theorem ext_list (s : ByteArray) (b : Nat) : (s.extract 0 b).data.toList = s.data.toList.take b := by rw [Lib.extract_data]; simp

/-- What has been added so far, and whether it is too great. -/
def Acc (acc : Nat) (x y : Value) : Prop := (acc ≤ 9223372036854775806 ∧ x = .int .i64 (acc : Int) ∧ y = .bool false) ∨ (9223372036854775806 < acc ∧ ∃ q : Int, 0 ≤ q ∧ q ≤ 9223372036854775806 ∧ x = .int .i64 q ∧ y = .bool true)
/-- What the document says of a text. -/
def refP (l : List UInt8) : Int × Int := if trim l = never then (9223372036854775807, 0) else match spanOf (trim l) with
  | none => (0, 1)
  | some n => if 9223372036854775807 ≤ n then (0, 2) else ((n : Int), 0)

set_option maxRecDepth 100000 in
set_option maxHeartbeats 4000000 in
theorem rparse_blank (s : ByteArray) (w : World) (hs : s.size ≤ 9223372036854775807) (h : run bl s 0 = s.size) :
    Calls Tryd.prog 11 #[.string s] w fun e w' => e = .returned (.tuple #[.int .i64 0, .int .i64 1]) ∧ w = w' := by
  have Y := Lib.hid (fun k hk1 hk2 => run_yes bl s 0 k hk1 (by rw [h]; exact hk2))
  clear h
  go_enter Tryd.func11, Tryd.ntmps11
  go_wp2
  go_loop [4] (fun x => ∃ k : Nat, k ≤ s.size ∧ x = .int .i64 (k : Int)) (fun x => s.size - (intOf x).toNat)
  case atStart => exact ⟨0, by omega, rfl⟩
  case round =>
    obtain ⟨k, hk, rfl⟩ := hrel
    by_cases hlt : k < s.size
    · have D := Lib.hid (show bl s[k] = true by have := Y.out k (by omega) hlt; simpa using this)
      go_wp2_with fail
      refine (rblank _ _ _ D.out).mono ?_
      rintro e w' ⟨rfl, rfl⟩
      go_wp2
      go_round
      case rel => exact ⟨k + 1, by omega, by go_num⟩
      case measure => simp [intOf]; omega
    · obtain rfl : k = s.size := by omega
      have hnv : ((s.extract s.size s.size).toList == [105, 110, 102, 105, 110, 105, 116, 121]) = false := by rw [Lib.toList_data, Lib.extract_data]; simp
      go_wp2
      refine wp_loop_rounds 1 ?_
      rw [rounds_succ]
      go_wp2
      go_ret2
      exact ⟨rfl, rfl⟩

/-- The answer, of what all parts come to. -/
def fin (o : Option Nat) : Int × Int := match o with
  | none => (0, 1)
  | some n => if 9223372036854775807 ≤ n then (0, 2) else ((n : Int), 0)

theorem acc_great {acc v : Nat} {x y : Value} (_h : Acc acc x y) (hv : 9223372036854775806 < v) {q : Int} (hq : 0 ≤ q ∧ q ≤ 9223372036854775806) (hx : x = .int .i64 q) : Acc (acc + v) x (.bool true) := .inr ⟨by omega, q, hq.1, hq.2, hx, rfl⟩
theorem acc_val {acc : Nat} {x y : Value} (h : Acc acc x y) : ∃ q : Int, 0 ≤ q ∧ q ≤ 9223372036854775806 ∧ x = .int .i64 q ∧ ((y = .bool false ∧ q = (acc : Int) ∧ acc ≤ 9223372036854775806) ∨ (y = .bool true ∧ 9223372036854775806 < acc)) := by
  rcases h with ⟨h1, h2, h3⟩ | ⟨h1, q, h2, h3, h4, h5⟩
  · exact ⟨acc, by omega, by omega, h2, .inl ⟨h3, rfl, h1⟩⟩
  · exact ⟨q, h2, h3, h4, .inr ⟨h5, h1⟩⟩

set_option maxRecDepth 100000 in
set_option maxHeartbeats 8000000 in
theorem rparse_main (s S : ByteArray) (a0 b0 : Nat) (w : World) (tot : Option Nat) (r : Int × Int) (hs : s.size ≤ 9223372036854775807) (ha : run bl s 0 = a0) (hab : a0 < b0) (hb : b0 ≤ s.size)
    (hB1 : ∀ c, b0 ≤ c → (h : c < s.size) → bl s[c] = true) (hB2 : ∀ c, (h : c < s.size) → c + 1 = b0 → bl s[c] = false) (hSS : s.extract 0 b0 = S) (htot : sumOf (S.data.toList.drop a0) = tot)
    (hr : (if (s.extract a0 b0).data.toList = never then (9223372036854775807, 0) else fin tot) = r) :
    Calls Tryd.prog 11 #[.string s] w fun e w' => e = .returned (.tuple #[.int .i64 r.1, .int .i64 r.2]) ∧ w = w' := by
  have hSz : S.size = b0 := by rw [← hSS, ByteArray.size_extract]; omega
  have hby : ∀ k, k < b0 → (h1 : k < S.size) → (h2 : k < s.size) → S[k] = s[k] := fun k h _ _ => by subst hSS; exact ext_byte s b0 k hb h
  have BY := Lib.hid hby
  have SZ := Lib.hid hSz
  have Y := Lib.hid (fun k hk1 hk2 => run_yes bl s 0 k hk1 (by rw [ha]; exact hk2))
  have N := Lib.hid (fun h => run_no bl s 0 h)
  rw [ha] at N
  have B1 := Lib.hid hB1
  have B2 := Lib.hid hB2
  have ES := Lib.hid hSS
  have TOT := Lib.hid htot
  have HR := Lib.hid hr
  clear hB1 hB2 hSS htot hr ha hby hSz
  have hne : ((a0 : Int) == (b0 : Int)) = false := by rw [beq_eq_false_iff_ne]; omega
  go_enter Tryd.func11, Tryd.ntmps11
  go_wp2
  go_loop [4] (fun x => ∃ k : Nat, k ≤ a0 ∧ x = .int .i64 (k : Int)) (fun x => a0 - (intOf x).toNat)
  case atStart => exact ⟨0, by omega, rfl⟩
  case round =>
    obtain ⟨k, hk, rfl⟩ := hrel
    by_cases hlt : k < a0
    · have D := Lib.hid (show bl (s[k]'(by omega)) = true by have := Y.out k (by omega) hlt; simpa using this)
      have hks : k < s.size := by omega
      go_wp2_with fail
      refine (rblank _ _ _ D.out).mono ?_
      rintro e w' ⟨rfl, rfl⟩
      go_wp2
      go_round
      case rel => exact ⟨k + 1, by omega, by go_num⟩
      case measure => simp [intOf]; omega
    · obtain rfl : k = a0 := by omega
      have hks : k < s.size := by omega
      have D := Lib.hid (show bl s[k] = false by have := N.out (by omega); simpa using this)
      go_wp2_with fail
      refine (rblank _ _ _ D.out).mono ?_
      rintro e w' ⟨rfl, rfl⟩
      go_wp2
      go_loop [5] (fun x => ∃ b : Nat, b0 ≤ b ∧ b ≤ s.size ∧ x = .int .i64 (b : Int)) (fun x => (intOf x).toNat)
      case atStart => exact ⟨s.size, hb, Nat.le_refl _, rfl⟩
      case round =>
        obtain ⟨b, hb1, hb2, rfl⟩ := hrel
        obtain ⟨c, rfl⟩ : ∃ c, b = c + 1 := ⟨b - 1, by omega⟩
        have hcs : c < s.size := by omega
        by_cases hbc : b0 < c + 1
        · have D2 := Lib.hid (B1.out c (by omega) hcs)
          go_wp2_with fail
          refine (rblank _ _ _ D2.out).mono ?_
          rintro e w' ⟨rfl, rfl⟩
          go_wp2
          go_round
          case rel => exact ⟨c, by omega, by omega, rfl⟩
          case measure => simp [intOf]
        · have hcb : c + 1 = b0 := by omega
          have D2 := Lib.hid (B2.out c hcs hcb)
          have HCB := Lib.hid (show ((c : Int) + 1) = (b0 : Int) by omega)
          clear hcb
          go_wp2_with fail
          refine (rblank _ _ _ D2.out).mono ?_
          rintro e w' ⟨rfl, rfl⟩
          rw [HCB.out]
          by_cases hv : (s.extract k b0).data.toList = never
          · have HV := Lib.hid (show r = (9223372036854775807, 0) by rw [← HR.out, if_pos hv])
            have hnv : ((s.extract k b0).toList == [105, 110, 102, 105, 110, 105, 116, 121]) = true := by rw [Lib.toList_data, hv]; decide
            clear hv
            go_wp2
            go_ret2
            rw [HV.out]
            exact ⟨rfl, rfl⟩
          · have HV := Lib.hid (show fin tot = r by rw [← HR.out, if_neg hv])
            have hnv : ((s.extract k b0).toList == [105, 110, 102, 105, 110, 105, 116, 121]) = false := name_ne hv
            clear hv
            go_wp2
            go_loopw [4, 6, 7] (fun a x y wr => ∃ p acc : Nat, p ≤ b0 ∧ a = .int .i64 (p : Int) ∧ Acc acc x y ∧ (sumOf (S.data.toList.drop p)).map (acc + ·) = tot ∧ w = wr) (fun a _ _ _ => b0 - (intOf a).toNat)
            case atStart => exact ⟨k, 0, by omega, rfl, .inl ⟨by omega, rfl, rfl⟩, by rw [TOT.out]; simp, rfl⟩
            case round =>
              obtain ⟨p, acc, hp, rfl, hacc, ht, rfl⟩ := hrel
              have HT := Lib.hid ht
              have HA := Lib.hid hacc
              clear ht hacc
              by_cases hpb : p < b0
              · have hpS : p ≤ S.size := by rw [SZ.out]; omega
                have hSs : S.size ≤ 9223372036854775807 := by rw [SZ.out]; omega
                have hnz : S.data.toList.drop p ≠ [] := by
                  intro e; have := congrArg List.length e; rw [List.length_drop, ← size_of, SZ.out] at this; simp at this; omega
                obtain ⟨x, hx, hcall⟩ := rpart_any S p hSs hpS
                clear hpS hSs
                cases hpo : partOf (S.data.toList.drop p) with
                | none =>
                  rw [hpo] at hx
                  have hx' : x = (0, -1) := hx
                  have HRR := Lib.hid (show r = (0, 1) by rw [← HV.out, ← HT.out, sumOf_none hnz hpo]; rfl)
                  subst hx'
                  have HC := Lib.hid (hcall w)
                  clear hx hpo hnz hcall
                  go_wp2_with fail
                  rw [ES.out]
                  refine HC.out.mono ?_
                  rintro e w' ⟨rfl, rfl⟩
                  go_wp2
                  go_ret2
                  rw [HRR.out]
                  exact ⟨rfl, rfl⟩
                | some y =>
                  obtain ⟨v, rr⟩ := y
                  rw [hpo] at hx
                  obtain ⟨K, hK1, hK2, hK3, rfl⟩ := hx
                  rw [SZ.out] at hK2
                  have hle5 := run_le bl S K (by rw [SZ.out]; exact hK2)
                  rw [SZ.out] at hle5
                  have hdr := run_drop bl S K
                  have Y5 := Lib.hid (fun j h hj => run_yes bl S K j h hj)
                  have N5 := Lib.hid (fun h => run_no bl S K h)
                  generalize run bl S K = n5 at hle5 hdr Y5 N5
                  have HNEW := Lib.hid (show (sumOf (S.data.toList.drop (K + n5))).map ((acc + v) + ·) = tot by
                    rw [hdr, hK3, ← HT.out, sumOf_some hnz hpo, Option.map_map]; congr 1; funext z; simp [Nat.add_assoc])
                  clear hdr hK3 hpo hnz
                  have hKz : ¬ (K : Int) < 0 := by omega
                  obtain ⟨q, q0, q1, rfl, hy⟩ := acc_val HA.out
                  by_cases hv : v ≤ 9223372036854775806
                  · have HC := Lib.hid (show Calls Tryd.prog 18 #[.string S, .int .i64 (p : Int)] w fun e w' => e = .returned (.tuple #[.int .i64 (v : Int), .int .i64 (K : Int)]) ∧ w = w' by have := hcall w; rw [if_pos hv] at this; exact this)
                    clear hcall
                    have hvz : ¬ (v : Int) < 0 := by omega
                    rcases hy with ⟨rfl, hq, ha⟩ | ⟨rfl, ha⟩
                    · have HQ := Lib.hid hq
                      by_cases hg : 9223372036854775806 - (v : Int) < q
                      · have HG := Lib.hid (show 9223372036854775806 < acc + v by omega)
                        clear hq
                        go_wp2_with fail
                        rw [ES.out]
                        refine HC.out.mono ?_
                        rintro e w' ⟨rfl, rfl⟩
                        go_upto_if 66 with (fail)
                        go_cut [6, 7] (fun x y wx => Acc (acc + v) x y ∧ w = wx)
                        case first =>
                          go_wp2
                          go_meet
                          exact ⟨.inr ⟨HG.out, q, q0, q1, rfl, rfl⟩, rfl⟩
                        case rest =>
                          obtain ⟨hnacc, rfl⟩ := hcut
                          have HNA := Lib.hid hnacc
                          clear hnacc
                          go_wp2
                          go_loop [4] (fun x => ∃ j : Nat, j ≤ n5 ∧ x = .int .i64 ((K : Int) + (j : Int))) (fun x => (K + n5) - (intOf x).toNat)
                          case atStart => exact ⟨0, by omega, by simp⟩
                          case round =>
                            obtain ⟨j, hj, rfl⟩ := hrel
                            by_cases hjn : j < n5
                            · have hks2 : K + j < s.size := by omega
                              have hkb : (K : Int) + (j : Int) < (b0 : Int) := by omega
                              have D1 := Lib.hid (show bl s[K + j] = true by rw [← BY.out (K + j) (by omega) (by rw [SZ.out]; omega) hks2]; exact Y5.out j _ hjn)
                              go_wp2_with fail
                              refine (rblank _ _ _ D1.out).mono ?_
                              rintro e w' ⟨rfl, rfl⟩
                              go_wp2
                              go_round
                              case rel => exact ⟨j + 1, by omega, by simp; omega⟩
                              case measure => simp [intOf]; omega
                            · obtain rfl : j = n5 := by omega
                              by_cases hkb : K + j < b0
                              · have hks2 : K + j < s.size := by omega
                                have hkb2 : (K : Int) + (j : Int) < (b0 : Int) := by omega
                                have D1 := Lib.hid (show bl s[K + j] = false by rw [← BY.out (K + j) hkb (by rw [SZ.out]; omega) hks2]; exact N5.out (by rw [SZ.out]; omega))
                                go_wp2_with fail
                                refine (rblank _ _ _ D1.out).mono ?_
                                rintro e w' ⟨rfl, rfl⟩
                                go_wp2
                                go_roundw
                                case rel => exact ⟨K + j, acc + v, by omega, by simp, HNA.out, HNEW.out, trivial⟩
                                case measure => simp [intOf]; omega
                              · have hkb2 : ¬ (K : Int) + (j : Int) < (b0 : Int) := by omega
                                go_wp2
                                go_roundw
                                case rel => exact ⟨K + j, acc + v, by omega, by simp, HNA.out, HNEW.out, trivial⟩
                                case measure => simp [intOf]; omega
                      · have HG := Lib.hid (show acc + v ≤ 9223372036854775806 by omega)
                        clear hq
                        go_wp2_with fail
                        rw [ES.out]
                        refine HC.out.mono ?_
                        rintro e w' ⟨rfl, rfl⟩
                        go_upto_if 66 with (fail)
                        go_cut [6, 7] (fun x y wx => Acc (acc + v) x y ∧ w = wx)
                        case first =>
                          go_wp2
                          go_meet
                          exact ⟨.inl ⟨HG.out, by rw [HQ.out]; simp, rfl⟩, rfl⟩
                        case rest =>
                          obtain ⟨hnacc, rfl⟩ := hcut
                          have HNA := Lib.hid hnacc
                          clear hnacc
                          go_wp2
                          go_loop [4] (fun x => ∃ j : Nat, j ≤ n5 ∧ x = .int .i64 ((K : Int) + (j : Int))) (fun x => (K + n5) - (intOf x).toNat)
                          case atStart => exact ⟨0, by omega, by simp⟩
                          case round =>
                            obtain ⟨j, hj, rfl⟩ := hrel
                            by_cases hjn : j < n5
                            · have hks2 : K + j < s.size := by omega
                              have hkb : (K : Int) + (j : Int) < (b0 : Int) := by omega
                              have D1 := Lib.hid (show bl s[K + j] = true by rw [← BY.out (K + j) (by omega) (by rw [SZ.out]; omega) hks2]; exact Y5.out j _ hjn)
                              go_wp2_with fail
                              refine (rblank _ _ _ D1.out).mono ?_
                              rintro e w' ⟨rfl, rfl⟩
                              go_wp2
                              go_round
                              case rel => exact ⟨j + 1, by omega, by simp; omega⟩
                              case measure => simp [intOf]; omega
                            · obtain rfl : j = n5 := by omega
                              by_cases hkb : K + j < b0
                              · have hks2 : K + j < s.size := by omega
                                have hkb2 : (K : Int) + (j : Int) < (b0 : Int) := by omega
                                have D1 := Lib.hid (show bl s[K + j] = false by rw [← BY.out (K + j) hkb (by rw [SZ.out]; omega) hks2]; exact N5.out (by rw [SZ.out]; omega))
                                go_wp2_with fail
                                refine (rblank _ _ _ D1.out).mono ?_
                                rintro e w' ⟨rfl, rfl⟩
                                go_wp2
                                go_roundw
                                case rel => exact ⟨K + j, acc + v, by omega, by simp, HNA.out, HNEW.out, trivial⟩
                                case measure => simp [intOf]; omega
                              · have hkb2 : ¬ (K : Int) + (j : Int) < (b0 : Int) := by omega
                                go_wp2
                                go_roundw
                                case rel => exact ⟨K + j, acc + v, by omega, by simp, HNA.out, HNEW.out, trivial⟩
                                case measure => simp [intOf]; omega
                    · have HG := Lib.hid (show 9223372036854775806 < acc + v by omega)
                      go_wp2_with fail
                      rw [ES.out]
                      refine HC.out.mono ?_
                      rintro e w' ⟨rfl, rfl⟩
                      go_upto_if 66 with (fail)
                      go_cut [6, 7] (fun x y wx => Acc (acc + v) x y ∧ w = wx)
                      case first =>
                        go_wp2
                        go_meet
                        exact ⟨.inr ⟨HG.out, q, q0, q1, rfl, rfl⟩, rfl⟩
                      case rest =>
                        obtain ⟨hnacc, rfl⟩ := hcut
                        have HNA := Lib.hid hnacc
                        clear hnacc
                        go_wp2
                        go_loop [4] (fun x => ∃ j : Nat, j ≤ n5 ∧ x = .int .i64 ((K : Int) + (j : Int))) (fun x => (K + n5) - (intOf x).toNat)
                        case atStart => exact ⟨0, by omega, by simp⟩
                        case round =>
                          obtain ⟨j, hj, rfl⟩ := hrel
                          by_cases hjn : j < n5
                          · have hks2 : K + j < s.size := by omega
                            have hkb : (K : Int) + (j : Int) < (b0 : Int) := by omega
                            have D1 := Lib.hid (show bl s[K + j] = true by rw [← BY.out (K + j) (by omega) (by rw [SZ.out]; omega) hks2]; exact Y5.out j _ hjn)
                            go_wp2_with fail
                            refine (rblank _ _ _ D1.out).mono ?_
                            rintro e w' ⟨rfl, rfl⟩
                            go_wp2
                            go_round
                            case rel => exact ⟨j + 1, by omega, by simp; omega⟩
                            case measure => simp [intOf]; omega
                          · obtain rfl : j = n5 := by omega
                            by_cases hkb : K + j < b0
                            · have hks2 : K + j < s.size := by omega
                              have hkb2 : (K : Int) + (j : Int) < (b0 : Int) := by omega
                              have D1 := Lib.hid (show bl s[K + j] = false by rw [← BY.out (K + j) hkb (by rw [SZ.out]; omega) hks2]; exact N5.out (by rw [SZ.out]; omega))
                              go_wp2_with fail
                              refine (rblank _ _ _ D1.out).mono ?_
                              rintro e w' ⟨rfl, rfl⟩
                              go_wp2
                              go_roundw
                              case rel => exact ⟨K + j, acc + v, by omega, by simp, HNA.out, HNEW.out, trivial⟩
                              case measure => simp [intOf]; omega
                            · have hkb2 : ¬ (K : Int) + (j : Int) < (b0 : Int) := by omega
                              go_wp2
                              go_roundw
                              case rel => exact ⟨K + j, acc + v, by omega, by simp, HNA.out, HNEW.out, trivial⟩
                              case measure => simp [intOf]; omega
                  · have HC := Lib.hid (show Calls Tryd.prog 18 #[.string S, .int .i64 (p : Int)] w fun e w' => e = .returned (.tuple #[.int .i64 (-1), .int .i64 (K : Int)]) ∧ w = w' by have := hcall w; rw [if_neg hv] at this; exact this)
                    clear hcall
                    have HG := Lib.hid (show 9223372036854775806 < acc + v by omega)
                    have hyy := hy.imp (fun h => h.1) (fun h => h.1)
                    clear hy
                    rcases hyy with rfl | rfl
                    all_goals
                      go_wp2_with fail
                      rw [ES.out]
                      refine HC.out.mono ?_
                      rintro e w' ⟨rfl, rfl⟩
                      go_upto_if 66 with (fail)
                      go_cut [6, 7] (fun x y wx => Acc (acc + v) x y ∧ w = wx)
                      case first =>
                        go_wp2
                        go_meet
                        exact ⟨.inr ⟨HG.out, q, q0, q1, rfl, rfl⟩, rfl⟩
                      case rest =>
                        obtain ⟨hnacc, rfl⟩ := hcut
                        have HNA := Lib.hid hnacc
                        clear hnacc
                        go_wp2
                        go_loop [4] (fun x => ∃ j : Nat, j ≤ n5 ∧ x = .int .i64 ((K : Int) + (j : Int))) (fun x => (K + n5) - (intOf x).toNat)
                        case atStart => exact ⟨0, by omega, by simp⟩
                        case round =>
                          obtain ⟨j, hj, rfl⟩ := hrel
                          by_cases hjn : j < n5
                          · have hks2 : K + j < s.size := by omega
                            have hkb : (K : Int) + (j : Int) < (b0 : Int) := by omega
                            have D1 := Lib.hid (show bl s[K + j] = true by rw [← BY.out (K + j) (by omega) (by rw [SZ.out]; omega) hks2]; exact Y5.out j _ hjn)
                            go_wp2_with fail
                            refine (rblank _ _ _ D1.out).mono ?_
                            rintro e w' ⟨rfl, rfl⟩
                            go_wp2
                            go_round
                            case rel => exact ⟨j + 1, by omega, by simp; omega⟩
                            case measure => simp [intOf]; omega
                          · obtain rfl : j = n5 := by omega
                            by_cases hkb : K + j < b0
                            · have hks2 : K + j < s.size := by omega
                              have hkb2 : (K : Int) + (j : Int) < (b0 : Int) := by omega
                              have D1 := Lib.hid (show bl s[K + j] = false by rw [← BY.out (K + j) hkb (by rw [SZ.out]; omega) hks2]; exact N5.out (by rw [SZ.out]; omega))
                              go_wp2_with fail
                              refine (rblank _ _ _ D1.out).mono ?_
                              rintro e w' ⟨rfl, rfl⟩
                              go_wp2
                              go_roundw
                              case rel => exact ⟨K + j, acc + v, by omega, by simp, HNA.out, HNEW.out, trivial⟩
                              case measure => simp [intOf]; omega
                            · have hkb2 : ¬ (K : Int) + (j : Int) < (b0 : Int) := by omega
                              go_wp2
                              go_roundw
                              case rel => exact ⟨K + j, acc + v, by omega, by simp, HNA.out, HNEW.out, trivial⟩
                              case measure => simp [intOf]; omega
              · obtain rfl : p = b0 := by omega
                have hnil : S.data.toList.drop p = [] := List.drop_eq_nil_of_le (by rw [← size_of, SZ.out]; omega)
                have HTT := Lib.hid (show tot = some acc by rw [← HT.out, hnil, sumOf_nil]; simp)
                clear hnil
                obtain ⟨q, q0, q1, rfl, ⟨rfl, hq, hacc⟩ | ⟨rfl, hacc⟩⟩ := acc_val HA.out
                · have HRR := Lib.hid (show r = ((acc : Int), 0) by rw [← HV.out, HTT.out]; exact if_neg (by omega))
                  have HQ := Lib.hid hq
                  clear hq
                  go_wp2
                  go_ret2
                  rw [HRR.out]
                  exact ⟨Us.ret_two HQ.out rfl, rfl⟩
                · have HRR := Lib.hid (show r = (0, 2) by rw [← HV.out, HTT.out]; exact if_pos (by omega))
                  go_wp2
                  go_ret2
                  rw [HRR.out]
                  exact ⟨rfl, rfl⟩
end Go.Proofs.YtcllimfaoajapaaDoor.Ts
