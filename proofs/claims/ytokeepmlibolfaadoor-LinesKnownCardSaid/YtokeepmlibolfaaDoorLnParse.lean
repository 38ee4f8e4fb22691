/-
  Layer 11 (lines): Parse of any bytes that there may be (written by gen_ln_parse.py).
-/
import Derived.Test.YtokeepmlibolfaaDoorLnApp
namespace Go.Proofs.YtokeepmlibolfaaDoor.Ln
open Go.RowKit
attribute [local go_sem] Oper.semAt_some
set_option maxRecDepth 100000

theorem wholes_any (s : ByteArray) (w : World) : Calls Tryd.prog 12 #[.string s] w fun e w' => e = .returned (.func (.func 21) #[] #[.pointer (some ⟨w.heap.size, 0, none⟩)]) ∧ w' = w.alloc (.cells #[.string s] 9) := by
  go_enter Tryd.func12, Tryd.ntmps12
  go_wp2
  go_ret
  exact ⟨rfl, rfl⟩
theorem prefix_len {l : List UInt8} (h : Lib.hasPrefix l [91] = true) : 1 ≤ l.length := by
  unfold Lib.hasPrefix at h
  have := List.IsPrefix.length_le (List.isPrefixOf_iff_prefix.mp h)
  simpa using this
theorem step_long {s : Fs} {x : Nat × List UInt8} (h : 4096 < x.2.length) : pstep s x = ⟨s.found, s.wrong ++ [(x.1, 3)], s.sec⟩ := by unfold pstep; rw [if_pos h]
theorem step_asg {s : Fs} {x : Nat × List UInt8} (h : ¬ 4096 < x.2.length) (h2 : asgB x.2 = true) (h3 : s.sec.isEmpty = false) : pstep s x = ⟨s.found ++ [(x.1, s.sec, asgK x.2, asgV x.2)], s.wrong, s.sec⟩ := by unfold pstep; rw [if_neg h, if_pos (by rw [h2, h3]; rfl)]
theorem step_name {s : Fs} {x : Nat × List UInt8} (h : ¬ 4096 < x.2.length) (h2 : (asgB x.2 && !s.sec.isEmpty) = false) (h3 : Lib.hasPrefix x.2 [91] = true) (h4 : (nameL x.2).isEmpty = false) : pstep s x = ⟨s.found, s.wrong, nameL x.2⟩ := by unfold pstep; rw [if_neg h, if_neg (by rw [h2]; decide), if_pos h3, if_neg (by rw [h4]; decide)]
theorem step_bad {s : Fs} {x : Nat × List UInt8} (h : ¬ 4096 < x.2.length) (h2 : (asgB x.2 && !s.sec.isEmpty) = false) (h3 : Lib.hasPrefix x.2 [91] = true) (h4 : (nameL x.2).isEmpty = true) : pstep s x = ⟨s.found, s.wrong ++ [(x.1, 110)], nameL x.2⟩ := by unfold pstep; rw [if_neg h, if_neg (by rw [h2]; decide), if_pos h3, if_pos h4]
theorem step_none {s : Fs} {x : Nat × List UInt8} (h : ¬ 4096 < x.2.length) (h2 : (asgB x.2 && !s.sec.isEmpty) = false) (h3 : Lib.hasPrefix x.2 [91] = false) : pstep s x = ⟨s.found, s.wrong ++ [(x.1, 110)], s.sec⟩ := by unfold pstep; rw [if_neg h, if_neg (by rw [h2]; decide), if_neg (by rw [h3]; decide)]
/-- What Parse tells. -/
def parseL (text : List UInt8) : Fs := pfold (wholesL (linesL text) 0 0 [])
set_option maxHeartbeats 16000000 in
theorem parse_any (p : Option Addr) (c : Nat) (text : List UInt8) (m : Int) (w : World) (hm : w.cell? ⟨0, 0, none⟩ = some (.int .i64 m)) (hB0 : 0 < w.heap.size) (hcv : ∀ W', Below w.heap.size w W' → (convert 22 9 (.slice p text.length c)).run Tryd.prog W' = .ok (.string (bs text)) W') (hl : text.length ≤ 65536) :
    Calls Tryd.prog 9 #[.slice p text.length c] w fun e W' => ∃ v1 v2, e = .returned (.tuple #[v1, v2]) ∧ W'.ownsRow (w.heap.size + 6) 33 4 v1 (parseL text).found.length (rowL (parseL text)) ∧ W'.ownsRow (w.heap.size + 6) 39 2 v2 (parseL text).wrong.length (rowD (parseL text)) ∧ Below w.heap.size w W' := by
  refine (callsIn_wide (n := 6)).1 ?_
  refine callsIn_of_wp_marks Tryd.func9 rfl trivial ?_ rfl
  simp only [Tryd.ntmps9, List.size_toArray, List.length_cons, List.length_nil, Nat.reduceAdd, Nat.reduceSub, Array.replicate_succ, Array.replicate_zero, List.push_toArray, List.append_toArray, List.nil_append, List.cons_append]
  have hcv3 := hcv _ ((((Below.refl w.heap.size w).alloc (Nat.le_refl _) (.cells #[.slice none 0 0] 24)).alloc (by simp) (.cells #[.slice none 0 0] 25)).alloc (by simp; omega) (.cells #[.string ⟨#[]⟩] 9))
  have HWH := Lib.hid (wholes_any (bs text))
  have hlen : ¬ (65536 : Int) < (text.length : Int) := by omega
  have HL := Lib.hid hl
  clear hcv hl
  gi_wp2_with (first
    | (refine ⟨trivial, ?_⟩; gi_at_call 12; refine (callsIn_wide.2 (HWH.out _)).mono ?_; clear HWH; rintro e V ⟨rfl, rfl⟩)
    | (refine ⟨trivial, fun _ => by omega, ?_⟩; gi_at_call 12; refine (callsIn_wide.2 (HWH.out _)).mono ?_; clear HWH; rintro e V ⟨rfl, rfl⟩)
    | fail)
  obtain ⟨B, hB⟩ : ∃ B, w.heap.size = B := ⟨_, rfl⟩
  have hl := HL.out
  rw [hB] at hB0 ⊢
  refine wpIn_lines w B hB hB0 text m hm (by omega) (tot_lines text (by omega)) rfl ?round ?done
  case round =>
    intro fn rec hst0 hrec pre bl x W hst hxl hpl
    obtain ⟨n, X⟩ := x
    simp only at hxl
    have hbr := run_beginRound (P := Tryd.prog) hst.L hst0
    obtain ⟨c1, c2, hv1, hv2, M0⟩ := ms_begin hst
    obtain ⟨W2, hW2⟩ : ∃ W2, W.putObj (B + 5) (.loop { rec .ready none with state := .busy }) = W2 := ⟨_, rfl⟩
    rw [hW2] at hbr M0
    have ML : Hid (W2.cell? ⟨0, 0, none⟩ = some (.int .i64 m)) := Lib.hid ((M0.below.cell (p := ⟨0, 0, none⟩) hB0).trans hm)
    have hlen2 := pfold_len pre
    obtain ⟨⟨fd, wr, S⟩, hPF⟩ : ∃ s, pfold pre = s := ⟨_, rfl⟩
    rw [hPF] at M0 hlen2
    have HCN : Hid (fd.length ≤ 1000001 ∧ wr.length ≤ 1000001) := Lib.hid (by simp only at hlen2; omega)
    have HV1 := Lib.hid hv1
    have HV2 := Lib.hid hv2
    have M0 := Lib.hid M0
    clear hv1 hv2 hst hst0 hW2 hlen2 hpl hcv3 hlen hl HL
    refine roundIn_of_wpIn trivial ?_
    cases hA : asgB X with
    | false =>
      have HAS : Hid (∀ V, V.cell? ⟨0, 0, none⟩ = some (.int .i64 m) → Calls Tryd.prog 13 #[.string (bs X)] V fun e w' => e = .returned (.tuple #[.string ⟨#[]⟩, .string ⟨#[]⟩, .bool false]) ∧ Below V.heap.size V w') := Lib.hid fun V hV => by
        have := assign_any X (by omega) m V hV
        rw [hA] at this
        exact this
      by_cases hL : 4096 < X.length
      ·
        have HST : Hid (pstep (pfold pre) (n, X) = ⟨fd, wr ++ [(n, 3)], S⟩) := Lib.hid (by rw [hPF]; exact step_long hL)
        have hl4 : (4096 : Int) < ((bs X).size : Int) := by rw [bs_size]; omega
        have hl5 : (4096 : Int) < (X.length : Int) := by omega
        clear hA hxl hPF hL
        gi_wp2_with (first
          | (gi_at_call 13; refine (CallsIn.inRound (B + 5) (callsIn_wide.2 (HAS.out _ ML.out))).mono ?_; rintro e V1 ⟨rfl, hx⟩; have M1 := Lib.hid (M0.out.keep hx); clear hx ML; have a1 := (box_cell M1.out.f1).1; have a2 := (box_cell M1.out.f2).1; have a3 := (box_cell M1.out.sec).1; have b3 := (box_cell M1.out.sec).2)
          | (refine ⟨trivial, ?_⟩; gi_at_call 13; refine (CallsIn.inRound (B + 5) (callsIn_wide.2 (HAS.out _ ML.out))).mono ?_; rintro e V1 ⟨rfl, hx⟩; have M1 := Lib.hid (M0.out.keep hx); clear hx ML; have a1 := (box_cell M1.out.f1).1; have a2 := (box_cell M1.out.f2).1; have a3 := (box_cell M1.out.sec).1; have b3 := (box_cell M1.out.sec).2)
          | (refine ⟨trivial, fun _ => by omega, ?_⟩; gi_at_call 13; refine (CallsIn.inRound (B + 5) (callsIn_wide.2 (HAS.out _ ML.out))).mono ?_; rintro e V1 ⟨rfl, hx⟩; have M1 := Lib.hid (M0.out.keep hx); clear hx ML; have a1 := (box_cell M1.out.f1).1; have a2 := (box_cell M1.out.f2).1; have a3 := (box_cell M1.out.sec).1; have b3 := (box_cell M1.out.sec).2)
          | (gi_at_builtin; refine wpIn_appD rfl _ _ rfl M1.out HV2.out (n, 3) (show wr.length ≤ 1000001 from HCN.out.2) rfl rfl ?_; intro g8 cap8 w8 hx8; have M8 := Lib.hid hx8; clear hx8; have f8 := (box_cell M8.out.f2).1; have gg8 := (box_cell M8.out.f2).2)
          | fail)
        obtain ⟨v, w', h1, e1, bl1, p1, p2⟩ := ms_end hrec (M8.out.put2 _) (by rw [pfold_snoc]; exact HST.out)
        exact ⟨_, _, h1, e1, ⟨bl1, p1⟩, p2⟩
      · have hG : (asgB X && !S.isEmpty) = false := by rw [hA]; rfl
        cases hX : Lib.hasPrefix X [91] with
        | false =>
          have HST : Hid (pstep (pfold pre) (n, X) = ⟨fd, wr ++ [(n, 110)], S⟩) := Lib.hid (by rw [hPF]; exact step_none hL hG hX)
          have hl4 : ¬ (4096 : Int) < ((bs X).size : Int) := by rw [bs_size]; omega
          have hl5 : ¬ (4096 : Int) < (X.length : Int) := by omega
          have HPX : Hid (∀ V, Calls Tryd.prog 14 #[.string (bs X), .string ⟨#[91]⟩] V fun e w' => e = .returned (.bool false) ∧ w' = V) := Lib.hid fun V => by
            have := Tryd.strings_HasPrefix (bs X) ⟨#[91]⟩ V
            rw [bs_list] at this
            rw [← hX]
            exact this
          clear hA hxl hPF hG hX hL
          gi_wp2_with (first
            | (gi_at_call 13; refine (CallsIn.inRound (B + 5) (callsIn_wide.2 (HAS.out _ ML.out))).mono ?_; rintro e V1 ⟨rfl, hx⟩; have M1 := Lib.hid (M0.out.keep hx); clear hx ML; have a1 := (box_cell M1.out.f1).1; have a2 := (box_cell M1.out.f2).1; have a3 := (box_cell M1.out.sec).1; have b3 := (box_cell M1.out.sec).2)
            | (refine ⟨trivial, ?_⟩; gi_at_call 13; refine (CallsIn.inRound (B + 5) (callsIn_wide.2 (HAS.out _ ML.out))).mono ?_; rintro e V1 ⟨rfl, hx⟩; have M1 := Lib.hid (M0.out.keep hx); clear hx ML; have a1 := (box_cell M1.out.f1).1; have a2 := (box_cell M1.out.f2).1; have a3 := (box_cell M1.out.sec).1; have b3 := (box_cell M1.out.sec).2)
            | (refine ⟨trivial, fun _ => by omega, ?_⟩; gi_at_call 13; refine (CallsIn.inRound (B + 5) (callsIn_wide.2 (HAS.out _ ML.out))).mono ?_; rintro e V1 ⟨rfl, hx⟩; have M1 := Lib.hid (M0.out.keep hx); clear hx ML; have a1 := (box_cell M1.out.f1).1; have a2 := (box_cell M1.out.f2).1; have a3 := (box_cell M1.out.sec).1; have b3 := (box_cell M1.out.sec).2)
            | (gi_at_call 14; refine (CallsIn.inRound (B + 5) (callsIn_wide.2 (HPX.out _))).mono ?_; rintro e V2 ⟨rfl, rfl⟩)
            | (refine ⟨trivial, ?_⟩; gi_at_call 14; refine (CallsIn.inRound (B + 5) (callsIn_wide.2 (HPX.out _))).mono ?_; rintro e V2 ⟨rfl, rfl⟩)
            | (refine ⟨trivial, fun _ => by omega, ?_⟩; gi_at_call 14; refine (CallsIn.inRound (B + 5) (callsIn_wide.2 (HPX.out _))).mono ?_; rintro e V2 ⟨rfl, rfl⟩)
            | (gi_at_builtin; refine wpIn_appD rfl _ _ rfl M1.out HV2.out (n, 110) (show wr.length ≤ 1000001 from HCN.out.2) rfl rfl ?_; intro g8 cap8 w8 hx8; have M8 := Lib.hid hx8; clear hx8; have f8 := (box_cell M8.out.f2).1; have gg8 := (box_cell M8.out.f2).2)
            | fail)
          obtain ⟨v, w', h1, e1, bl1, p1, p2⟩ := ms_end hrec (M8.out.put2 _) (by rw [pfold_snoc]; exact HST.out)
          exact ⟨_, _, h1, e1, ⟨bl1, p1⟩, p2⟩
        | true =>
          cases hN : (nameL X).isEmpty with
          | false =>
            have HST : Hid (pstep (pfold pre) (n, X) = ⟨fd, wr, nameL X⟩) := Lib.hid (by rw [hPF]; exact step_name hL hG hX hN)
            have hl4 : ¬ (4096 : Int) < ((bs X).size : Int) := by rw [bs_size]; omega
            have hl5 : ¬ (4096 : Int) < (X.length : Int) := by omega
            have HPX : Hid (∀ V, Calls Tryd.prog 14 #[.string (bs X), .string ⟨#[91]⟩] V fun e w' => e = .returned (.bool true) ∧ w' = V) := Lib.hid fun V => by
              have := Tryd.strings_HasPrefix (bs X) ⟨#[91]⟩ V
              rw [bs_list] at this
              rw [← hX]
              exact this
            have HNM : Hid (∀ V, Calls Tryd.prog 15 #[.string (bs X)] V fun e w' => e = .returned (.string (bs (nameL X))) ∧ Below V.heap.size V w') := Lib.hid fun V => name_any X (prefix_len hX) (by omega) V
            have hne : (bs (nameL X)).toList.isEmpty = false := by rw [bs_empty]; exact hN
            clear hA hxl hPF hG hX hL
            gi_wp2_with (first
              | (gi_at_call 13; refine (CallsIn.inRound (B + 5) (callsIn_wide.2 (HAS.out _ ML.out))).mono ?_; rintro e V1 ⟨rfl, hx⟩; have M1 := Lib.hid (M0.out.keep hx); clear hx ML; have a1 := (box_cell M1.out.f1).1; have a2 := (box_cell M1.out.f2).1; have a3 := (box_cell M1.out.sec).1; have b3 := (box_cell M1.out.sec).2)
              | (refine ⟨trivial, ?_⟩; gi_at_call 13; refine (CallsIn.inRound (B + 5) (callsIn_wide.2 (HAS.out _ ML.out))).mono ?_; rintro e V1 ⟨rfl, hx⟩; have M1 := Lib.hid (M0.out.keep hx); clear hx ML; have a1 := (box_cell M1.out.f1).1; have a2 := (box_cell M1.out.f2).1; have a3 := (box_cell M1.out.sec).1; have b3 := (box_cell M1.out.sec).2)
              | (refine ⟨trivial, fun _ => by omega, ?_⟩; gi_at_call 13; refine (CallsIn.inRound (B + 5) (callsIn_wide.2 (HAS.out _ ML.out))).mono ?_; rintro e V1 ⟨rfl, hx⟩; have M1 := Lib.hid (M0.out.keep hx); clear hx ML; have a1 := (box_cell M1.out.f1).1; have a2 := (box_cell M1.out.f2).1; have a3 := (box_cell M1.out.sec).1; have b3 := (box_cell M1.out.sec).2)
              | (gi_at_call 14; refine (CallsIn.inRound (B + 5) (callsIn_wide.2 (HPX.out _))).mono ?_; rintro e V2 ⟨rfl, rfl⟩)
              | (refine ⟨trivial, ?_⟩; gi_at_call 14; refine (CallsIn.inRound (B + 5) (callsIn_wide.2 (HPX.out _))).mono ?_; rintro e V2 ⟨rfl, rfl⟩)
              | (refine ⟨trivial, fun _ => by omega, ?_⟩; gi_at_call 14; refine (CallsIn.inRound (B + 5) (callsIn_wide.2 (HPX.out _))).mono ?_; rintro e V2 ⟨rfl, rfl⟩)
              | (gi_at_call 15; refine (CallsIn.inRound (B + 5) (callsIn_wide.2 (HNM.out _))).mono ?_; rintro e V3 ⟨rfl, hx⟩; have M3 := Lib.hid (M1.out.keep hx); clear hx a1 a2 a3 b3; have a3 := (box_cell M3.out.sec).1; have b3 := (box_cell M3.out.sec).2; have M4 : Hid (Ms _ _ _ _ _ _ _ _ _ _ _ (V3.setCell ⟨B + 1 + 1, 0, none⟩ (.string (bs (nameL X))))) := Lib.hid (M3.out.put3 (nameL X)); have d2 := (box_cell M3.out.f2).1; have a2 := (box_cell M4.out.f2).1; have c3 := (box_cell M4.out.sec).1)
              | (refine ⟨trivial, ?_⟩; gi_at_call 15; refine (CallsIn.inRound (B + 5) (callsIn_wide.2 (HNM.out _))).mono ?_; rintro e V3 ⟨rfl, hx⟩; have M3 := Lib.hid (M1.out.keep hx); clear hx a1 a2 a3 b3; have a3 := (box_cell M3.out.sec).1; have b3 := (box_cell M3.out.sec).2; have M4 : Hid (Ms _ _ _ _ _ _ _ _ _ _ _ (V3.setCell ⟨B + 1 + 1, 0, none⟩ (.string (bs (nameL X))))) := Lib.hid (M3.out.put3 (nameL X)); have d2 := (box_cell M3.out.f2).1; have a2 := (box_cell M4.out.f2).1; have c3 := (box_cell M4.out.sec).1)
              | (refine ⟨trivial, fun _ => by omega, ?_⟩; gi_at_call 15; refine (CallsIn.inRound (B + 5) (callsIn_wide.2 (HNM.out _))).mono ?_; rintro e V3 ⟨rfl, hx⟩; have M3 := Lib.hid (M1.out.keep hx); clear hx a1 a2 a3 b3; have a3 := (box_cell M3.out.sec).1; have b3 := (box_cell M3.out.sec).2; have M4 : Hid (Ms _ _ _ _ _ _ _ _ _ _ _ (V3.setCell ⟨B + 1 + 1, 0, none⟩ (.string (bs (nameL X))))) := Lib.hid (M3.out.put3 (nameL X)); have d2 := (box_cell M3.out.f2).1; have a2 := (box_cell M4.out.f2).1; have c3 := (box_cell M4.out.sec).1)
              | fail)
            obtain ⟨v, w', h1, e1, bl1, p1, p2⟩ := ms_end hrec (M4.out) (by rw [pfold_snoc]; exact HST.out)
            exact ⟨_, _, h1, e1, ⟨bl1, p1⟩, p2⟩
          | true =>
            have HST : Hid (pstep (pfold pre) (n, X) = ⟨fd, wr ++ [(n, 110)], nameL X⟩) := Lib.hid (by rw [hPF]; exact step_bad hL hG hX hN)
            have hl4 : ¬ (4096 : Int) < ((bs X).size : Int) := by rw [bs_size]; omega
            have hl5 : ¬ (4096 : Int) < (X.length : Int) := by omega
            have HPX : Hid (∀ V, Calls Tryd.prog 14 #[.string (bs X), .string ⟨#[91]⟩] V fun e w' => e = .returned (.bool true) ∧ w' = V) := Lib.hid fun V => by
              have := Tryd.strings_HasPrefix (bs X) ⟨#[91]⟩ V
              rw [bs_list] at this
              rw [← hX]
              exact this
            have HNM : Hid (∀ V, Calls Tryd.prog 15 #[.string (bs X)] V fun e w' => e = .returned (.string (bs (nameL X))) ∧ Below V.heap.size V w') := Lib.hid fun V => name_any X (prefix_len hX) (by omega) V
            have hne : (bs (nameL X)).toList.isEmpty = true := by rw [bs_empty]; exact hN
            clear hA hxl hPF hG hX hL
            gi_wp2_with (first
              | (gi_at_call 13; refine (CallsIn.inRound (B + 5) (callsIn_wide.2 (HAS.out _ ML.out))).mono ?_; rintro e V1 ⟨rfl, hx⟩; have M1 := Lib.hid (M0.out.keep hx); clear hx ML; have a1 := (box_cell M1.out.f1).1; have a2 := (box_cell M1.out.f2).1; have a3 := (box_cell M1.out.sec).1; have b3 := (box_cell M1.out.sec).2)
              | (refine ⟨trivial, ?_⟩; gi_at_call 13; refine (CallsIn.inRound (B + 5) (callsIn_wide.2 (HAS.out _ ML.out))).mono ?_; rintro e V1 ⟨rfl, hx⟩; have M1 := Lib.hid (M0.out.keep hx); clear hx ML; have a1 := (box_cell M1.out.f1).1; have a2 := (box_cell M1.out.f2).1; have a3 := (box_cell M1.out.sec).1; have b3 := (box_cell M1.out.sec).2)
              | (refine ⟨trivial, fun _ => by omega, ?_⟩; gi_at_call 13; refine (CallsIn.inRound (B + 5) (callsIn_wide.2 (HAS.out _ ML.out))).mono ?_; rintro e V1 ⟨rfl, hx⟩; have M1 := Lib.hid (M0.out.keep hx); clear hx ML; have a1 := (box_cell M1.out.f1).1; have a2 := (box_cell M1.out.f2).1; have a3 := (box_cell M1.out.sec).1; have b3 := (box_cell M1.out.sec).2)
              | (gi_at_call 14; refine (CallsIn.inRound (B + 5) (callsIn_wide.2 (HPX.out _))).mono ?_; rintro e V2 ⟨rfl, rfl⟩)
              | (refine ⟨trivial, ?_⟩; gi_at_call 14; refine (CallsIn.inRound (B + 5) (callsIn_wide.2 (HPX.out _))).mono ?_; rintro e V2 ⟨rfl, rfl⟩)
              | (refine ⟨trivial, fun _ => by omega, ?_⟩; gi_at_call 14; refine (CallsIn.inRound (B + 5) (callsIn_wide.2 (HPX.out _))).mono ?_; rintro e V2 ⟨rfl, rfl⟩)
              | (gi_at_call 15; refine (CallsIn.inRound (B + 5) (callsIn_wide.2 (HNM.out _))).mono ?_; rintro e V3 ⟨rfl, hx⟩; have M3 := Lib.hid (M1.out.keep hx); clear hx a1 a2 a3 b3; have a3 := (box_cell M3.out.sec).1; have b3 := (box_cell M3.out.sec).2; have M4 : Hid (Ms _ _ _ _ _ _ _ _ _ _ _ (V3.setCell ⟨B + 1 + 1, 0, none⟩ (.string (bs (nameL X))))) := Lib.hid (M3.out.put3 (nameL X)); have d2 := (box_cell M3.out.f2).1; have a2 := (box_cell M4.out.f2).1; have c3 := (box_cell M4.out.sec).1)
              | (refine ⟨trivial, ?_⟩; gi_at_call 15; refine (CallsIn.inRound (B + 5) (callsIn_wide.2 (HNM.out _))).mono ?_; rintro e V3 ⟨rfl, hx⟩; have M3 := Lib.hid (M1.out.keep hx); clear hx a1 a2 a3 b3; have a3 := (box_cell M3.out.sec).1; have b3 := (box_cell M3.out.sec).2; have M4 : Hid (Ms _ _ _ _ _ _ _ _ _ _ _ (V3.setCell ⟨B + 1 + 1, 0, none⟩ (.string (bs (nameL X))))) := Lib.hid (M3.out.put3 (nameL X)); have d2 := (box_cell M3.out.f2).1; have a2 := (box_cell M4.out.f2).1; have c3 := (box_cell M4.out.sec).1)
              | (refine ⟨trivial, fun _ => by omega, ?_⟩; gi_at_call 15; refine (CallsIn.inRound (B + 5) (callsIn_wide.2 (HNM.out _))).mono ?_; rintro e V3 ⟨rfl, hx⟩; have M3 := Lib.hid (M1.out.keep hx); clear hx a1 a2 a3 b3; have a3 := (box_cell M3.out.sec).1; have b3 := (box_cell M3.out.sec).2; have M4 : Hid (Ms _ _ _ _ _ _ _ _ _ _ _ (V3.setCell ⟨B + 1 + 1, 0, none⟩ (.string (bs (nameL X))))) := Lib.hid (M3.out.put3 (nameL X)); have d2 := (box_cell M3.out.f2).1; have a2 := (box_cell M4.out.f2).1; have c3 := (box_cell M4.out.sec).1)
              | (gi_at_builtin; refine wpIn_appD rfl _ _ rfl M4.out HV2.out (n, 110) (show wr.length ≤ 1000001 from HCN.out.2) rfl (by show Value.slice (some ⟨V3.heap.size, 0, none⟩) 1 1 = _; simp) ?_; intro g8 cap8 w8 hx8; have M8 := Lib.hid hx8; clear hx8; have f8 := (box_cell M8.out.f2).1; have gg8 := (box_cell M8.out.f2).2)
              | fail)
            obtain ⟨v, w', h1, e1, bl1, p1, p2⟩ := ms_end hrec (M8.out.put2 _) (by rw [pfold_snoc]; exact HST.out)
            exact ⟨_, _, h1, e1, ⟨bl1, p1⟩, p2⟩
    | true =>
      have HAS : Hid (∀ V, V.cell? ⟨0, 0, none⟩ = some (.int .i64 m) → Calls Tryd.prog 13 #[.string (bs X)] V fun e w' => e = .returned (.tuple #[.string (bs (asgK X)), .string (bs (asgV X)), .bool true]) ∧ Below V.heap.size V w') := Lib.hid fun V hV => by
        have := assign_any X (by omega) m V hV
        rw [hA] at this
        exact this
      by_cases hL : 4096 < X.length
      ·
        have HST : Hid (pstep (pfold pre) (n, X) = ⟨fd, wr ++ [(n, 3)], S⟩) := Lib.hid (by rw [hPF]; exact step_long hL)
        have hl4 : (4096 : Int) < ((bs X).size : Int) := by rw [bs_size]; omega
        have hl5 : (4096 : Int) < (X.length : Int) := by omega
        clear hA hxl hPF hL
        gi_wp2_with (first
          | (gi_at_call 13; refine (CallsIn.inRound (B + 5) (callsIn_wide.2 (HAS.out _ ML.out))).mono ?_; rintro e V1 ⟨rfl, hx⟩; have M1 := Lib.hid (M0.out.keep hx); clear hx ML; have a1 := (box_cell M1.out.f1).1; have a2 := (box_cell M1.out.f2).1; have a3 := (box_cell M1.out.sec).1; have b3 := (box_cell M1.out.sec).2)
          | (refine ⟨trivial, ?_⟩; gi_at_call 13; refine (CallsIn.inRound (B + 5) (callsIn_wide.2 (HAS.out _ ML.out))).mono ?_; rintro e V1 ⟨rfl, hx⟩; have M1 := Lib.hid (M0.out.keep hx); clear hx ML; have a1 := (box_cell M1.out.f1).1; have a2 := (box_cell M1.out.f2).1; have a3 := (box_cell M1.out.sec).1; have b3 := (box_cell M1.out.sec).2)
          | (refine ⟨trivial, fun _ => by omega, ?_⟩; gi_at_call 13; refine (CallsIn.inRound (B + 5) (callsIn_wide.2 (HAS.out _ ML.out))).mono ?_; rintro e V1 ⟨rfl, hx⟩; have M1 := Lib.hid (M0.out.keep hx); clear hx ML; have a1 := (box_cell M1.out.f1).1; have a2 := (box_cell M1.out.f2).1; have a3 := (box_cell M1.out.sec).1; have b3 := (box_cell M1.out.sec).2)
          | (gi_at_builtin; refine wpIn_appD rfl _ _ rfl M1.out HV2.out (n, 3) (show wr.length ≤ 1000001 from HCN.out.2) rfl rfl ?_; intro g8 cap8 w8 hx8; have M8 := Lib.hid hx8; clear hx8; have f8 := (box_cell M8.out.f2).1; have gg8 := (box_cell M8.out.f2).2)
          | fail)
        obtain ⟨v, w', h1, e1, bl1, p1, p2⟩ := ms_end hrec (M8.out.put2 _) (by rw [pfold_snoc]; exact HST.out)
        exact ⟨_, _, h1, e1, ⟨bl1, p1⟩, p2⟩
      · cases hS0 : S.isEmpty with
        | false =>
          have HST : Hid (pstep (pfold pre) (n, X) = ⟨fd ++ [(n, S, asgK X, asgV X)], wr, S⟩) := Lib.hid (by rw [hPF]; exact step_asg hL hA hS0)
          have hl4 : ¬ (4096 : Int) < ((bs X).size : Int) := by rw [bs_size]; omega
          have hl5 : ¬ (4096 : Int) < (X.length : Int) := by omega
          have hse : (bs S).toList.isEmpty = false := by rw [bs_empty]; exact hS0
          clear hA hxl hPF hL
          gi_wp2_with (first
            | (gi_at_call 13; refine (CallsIn.inRound (B + 5) (callsIn_wide.2 (HAS.out _ ML.out))).mono ?_; rintro e V1 ⟨rfl, hx⟩; have M1 := Lib.hid (M0.out.keep hx); clear hx ML; have a1 := (box_cell M1.out.f1).1; have a2 := (box_cell M1.out.f2).1; have a3 := (box_cell M1.out.sec).1; have b3 := (box_cell M1.out.sec).2)
            | (refine ⟨trivial, ?_⟩; gi_at_call 13; refine (CallsIn.inRound (B + 5) (callsIn_wide.2 (HAS.out _ ML.out))).mono ?_; rintro e V1 ⟨rfl, hx⟩; have M1 := Lib.hid (M0.out.keep hx); clear hx ML; have a1 := (box_cell M1.out.f1).1; have a2 := (box_cell M1.out.f2).1; have a3 := (box_cell M1.out.sec).1; have b3 := (box_cell M1.out.sec).2)
            | (refine ⟨trivial, fun _ => by omega, ?_⟩; gi_at_call 13; refine (CallsIn.inRound (B + 5) (callsIn_wide.2 (HAS.out _ ML.out))).mono ?_; rintro e V1 ⟨rfl, hx⟩; have M1 := Lib.hid (M0.out.keep hx); clear hx ML; have a1 := (box_cell M1.out.f1).1; have a2 := (box_cell M1.out.f2).1; have a3 := (box_cell M1.out.sec).1; have b3 := (box_cell M1.out.sec).2)
            | (gi_at_builtin; refine wpIn_appL rfl _ _ rfl M1.out HV1.out (n, S, asgK X, asgV X) (show fd.length ≤ 1000001 from HCN.out.1) rfl rfl ?_; intro g8 cap8 w8 hx8; have M8 := Lib.hid hx8; clear hx8; have f8 := (box_cell M8.out.f1).1; have gg8 := (box_cell M8.out.f1).2)
            | fail)
          obtain ⟨v, w', h1, e1, bl1, p1, p2⟩ := ms_end hrec (M8.out.put1 _) (by rw [pfold_snoc]; exact HST.out)
          exact ⟨_, _, h1, e1, ⟨bl1, p1⟩, p2⟩
        | true =>
          have hG : (asgB X && !S.isEmpty) = false := by rw [hS0]; simp
          cases hX : Lib.hasPrefix X [91] with
          | false =>
            have HST : Hid (pstep (pfold pre) (n, X) = ⟨fd, wr ++ [(n, 110)], S⟩) := Lib.hid (by rw [hPF]; exact step_none hL hG hX)
            have hl4 : ¬ (4096 : Int) < ((bs X).size : Int) := by rw [bs_size]; omega
            have hl5 : ¬ (4096 : Int) < (X.length : Int) := by omega
            have hse : (bs S).toList.isEmpty = true := by rw [bs_empty]; exact hS0
            have HPX : Hid (∀ V, Calls Tryd.prog 14 #[.string (bs X), .string ⟨#[91]⟩] V fun e w' => e = .returned (.bool false) ∧ w' = V) := Lib.hid fun V => by
              have := Tryd.strings_HasPrefix (bs X) ⟨#[91]⟩ V
              rw [bs_list] at this
              rw [← hX]
              exact this
            clear hA hxl hPF hG hX hL
            gi_wp2_with (first
              | (gi_at_call 13; refine (CallsIn.inRound (B + 5) (callsIn_wide.2 (HAS.out _ ML.out))).mono ?_; rintro e V1 ⟨rfl, hx⟩; have M1 := Lib.hid (M0.out.keep hx); clear hx ML; have a1 := (box_cell M1.out.f1).1; have a2 := (box_cell M1.out.f2).1; have a3 := (box_cell M1.out.sec).1; have b3 := (box_cell M1.out.sec).2)
              | (refine ⟨trivial, ?_⟩; gi_at_call 13; refine (CallsIn.inRound (B + 5) (callsIn_wide.2 (HAS.out _ ML.out))).mono ?_; rintro e V1 ⟨rfl, hx⟩; have M1 := Lib.hid (M0.out.keep hx); clear hx ML; have a1 := (box_cell M1.out.f1).1; have a2 := (box_cell M1.out.f2).1; have a3 := (box_cell M1.out.sec).1; have b3 := (box_cell M1.out.sec).2)
              | (refine ⟨trivial, fun _ => by omega, ?_⟩; gi_at_call 13; refine (CallsIn.inRound (B + 5) (callsIn_wide.2 (HAS.out _ ML.out))).mono ?_; rintro e V1 ⟨rfl, hx⟩; have M1 := Lib.hid (M0.out.keep hx); clear hx ML; have a1 := (box_cell M1.out.f1).1; have a2 := (box_cell M1.out.f2).1; have a3 := (box_cell M1.out.sec).1; have b3 := (box_cell M1.out.sec).2)
              | (gi_at_call 14; refine (CallsIn.inRound (B + 5) (callsIn_wide.2 (HPX.out _))).mono ?_; rintro e V2 ⟨rfl, rfl⟩)
              | (refine ⟨trivial, ?_⟩; gi_at_call 14; refine (CallsIn.inRound (B + 5) (callsIn_wide.2 (HPX.out _))).mono ?_; rintro e V2 ⟨rfl, rfl⟩)
              | (refine ⟨trivial, fun _ => by omega, ?_⟩; gi_at_call 14; refine (CallsIn.inRound (B + 5) (callsIn_wide.2 (HPX.out _))).mono ?_; rintro e V2 ⟨rfl, rfl⟩)
              | (gi_at_builtin; refine wpIn_appD rfl _ _ rfl M1.out HV2.out (n, 110) (show wr.length ≤ 1000001 from HCN.out.2) rfl rfl ?_; intro g8 cap8 w8 hx8; have M8 := Lib.hid hx8; clear hx8; have f8 := (box_cell M8.out.f2).1; have gg8 := (box_cell M8.out.f2).2)
              | fail)
            obtain ⟨v, w', h1, e1, bl1, p1, p2⟩ := ms_end hrec (M8.out.put2 _) (by rw [pfold_snoc]; exact HST.out)
            exact ⟨_, _, h1, e1, ⟨bl1, p1⟩, p2⟩
          | true =>
            cases hN : (nameL X).isEmpty with
            | false =>
              have HST : Hid (pstep (pfold pre) (n, X) = ⟨fd, wr, nameL X⟩) := Lib.hid (by rw [hPF]; exact step_name hL hG hX hN)
              have hl4 : ¬ (4096 : Int) < ((bs X).size : Int) := by rw [bs_size]; omega
              have hl5 : ¬ (4096 : Int) < (X.length : Int) := by omega
              have hse : (bs S).toList.isEmpty = true := by rw [bs_empty]; exact hS0
              have HPX : Hid (∀ V, Calls Tryd.prog 14 #[.string (bs X), .string ⟨#[91]⟩] V fun e w' => e = .returned (.bool true) ∧ w' = V) := Lib.hid fun V => by
                have := Tryd.strings_HasPrefix (bs X) ⟨#[91]⟩ V
                rw [bs_list] at this
                rw [← hX]
                exact this
              have HNM : Hid (∀ V, Calls Tryd.prog 15 #[.string (bs X)] V fun e w' => e = .returned (.string (bs (nameL X))) ∧ Below V.heap.size V w') := Lib.hid fun V => name_any X (prefix_len hX) (by omega) V
              have hne : (bs (nameL X)).toList.isEmpty = false := by rw [bs_empty]; exact hN
              clear hA hxl hPF hG hX hL
              gi_wp2_with (first
                | (gi_at_call 13; refine (CallsIn.inRound (B + 5) (callsIn_wide.2 (HAS.out _ ML.out))).mono ?_; rintro e V1 ⟨rfl, hx⟩; have M1 := Lib.hid (M0.out.keep hx); clear hx ML; have a1 := (box_cell M1.out.f1).1; have a2 := (box_cell M1.out.f2).1; have a3 := (box_cell M1.out.sec).1; have b3 := (box_cell M1.out.sec).2)
                | (refine ⟨trivial, ?_⟩; gi_at_call 13; refine (CallsIn.inRound (B + 5) (callsIn_wide.2 (HAS.out _ ML.out))).mono ?_; rintro e V1 ⟨rfl, hx⟩; have M1 := Lib.hid (M0.out.keep hx); clear hx ML; have a1 := (box_cell M1.out.f1).1; have a2 := (box_cell M1.out.f2).1; have a3 := (box_cell M1.out.sec).1; have b3 := (box_cell M1.out.sec).2)
                | (refine ⟨trivial, fun _ => by omega, ?_⟩; gi_at_call 13; refine (CallsIn.inRound (B + 5) (callsIn_wide.2 (HAS.out _ ML.out))).mono ?_; rintro e V1 ⟨rfl, hx⟩; have M1 := Lib.hid (M0.out.keep hx); clear hx ML; have a1 := (box_cell M1.out.f1).1; have a2 := (box_cell M1.out.f2).1; have a3 := (box_cell M1.out.sec).1; have b3 := (box_cell M1.out.sec).2)
                | (gi_at_call 14; refine (CallsIn.inRound (B + 5) (callsIn_wide.2 (HPX.out _))).mono ?_; rintro e V2 ⟨rfl, rfl⟩)
                | (refine ⟨trivial, ?_⟩; gi_at_call 14; refine (CallsIn.inRound (B + 5) (callsIn_wide.2 (HPX.out _))).mono ?_; rintro e V2 ⟨rfl, rfl⟩)
                | (refine ⟨trivial, fun _ => by omega, ?_⟩; gi_at_call 14; refine (CallsIn.inRound (B + 5) (callsIn_wide.2 (HPX.out _))).mono ?_; rintro e V2 ⟨rfl, rfl⟩)
                | (gi_at_call 15; refine (CallsIn.inRound (B + 5) (callsIn_wide.2 (HNM.out _))).mono ?_; rintro e V3 ⟨rfl, hx⟩; have M3 := Lib.hid (M1.out.keep hx); clear hx a1 a2 a3 b3; have a3 := (box_cell M3.out.sec).1; have b3 := (box_cell M3.out.sec).2; have M4 : Hid (Ms _ _ _ _ _ _ _ _ _ _ _ (V3.setCell ⟨B + 1 + 1, 0, none⟩ (.string (bs (nameL X))))) := Lib.hid (M3.out.put3 (nameL X)); have d2 := (box_cell M3.out.f2).1; have a2 := (box_cell M4.out.f2).1; have c3 := (box_cell M4.out.sec).1)
                | (refine ⟨trivial, ?_⟩; gi_at_call 15; refine (CallsIn.inRound (B + 5) (callsIn_wide.2 (HNM.out _))).mono ?_; rintro e V3 ⟨rfl, hx⟩; have M3 := Lib.hid (M1.out.keep hx); clear hx a1 a2 a3 b3; have a3 := (box_cell M3.out.sec).1; have b3 := (box_cell M3.out.sec).2; have M4 : Hid (Ms _ _ _ _ _ _ _ _ _ _ _ (V3.setCell ⟨B + 1 + 1, 0, none⟩ (.string (bs (nameL X))))) := Lib.hid (M3.out.put3 (nameL X)); have d2 := (box_cell M3.out.f2).1; have a2 := (box_cell M4.out.f2).1; have c3 := (box_cell M4.out.sec).1)
                | (refine ⟨trivial, fun _ => by omega, ?_⟩; gi_at_call 15; refine (CallsIn.inRound (B + 5) (callsIn_wide.2 (HNM.out _))).mono ?_; rintro e V3 ⟨rfl, hx⟩; have M3 := Lib.hid (M1.out.keep hx); clear hx a1 a2 a3 b3; have a3 := (box_cell M3.out.sec).1; have b3 := (box_cell M3.out.sec).2; have M4 : Hid (Ms _ _ _ _ _ _ _ _ _ _ _ (V3.setCell ⟨B + 1 + 1, 0, none⟩ (.string (bs (nameL X))))) := Lib.hid (M3.out.put3 (nameL X)); have d2 := (box_cell M3.out.f2).1; have a2 := (box_cell M4.out.f2).1; have c3 := (box_cell M4.out.sec).1)
                | fail)
              obtain ⟨v, w', h1, e1, bl1, p1, p2⟩ := ms_end hrec (M4.out) (by rw [pfold_snoc]; exact HST.out)
              exact ⟨_, _, h1, e1, ⟨bl1, p1⟩, p2⟩
            | true =>
              have HST : Hid (pstep (pfold pre) (n, X) = ⟨fd, wr ++ [(n, 110)], nameL X⟩) := Lib.hid (by rw [hPF]; exact step_bad hL hG hX hN)
              have hl4 : ¬ (4096 : Int) < ((bs X).size : Int) := by rw [bs_size]; omega
              have hl5 : ¬ (4096 : Int) < (X.length : Int) := by omega
              have hse : (bs S).toList.isEmpty = true := by rw [bs_empty]; exact hS0
              have HPX : Hid (∀ V, Calls Tryd.prog 14 #[.string (bs X), .string ⟨#[91]⟩] V fun e w' => e = .returned (.bool true) ∧ w' = V) := Lib.hid fun V => by
                have := Tryd.strings_HasPrefix (bs X) ⟨#[91]⟩ V
                rw [bs_list] at this
                rw [← hX]
                exact this
              have HNM : Hid (∀ V, Calls Tryd.prog 15 #[.string (bs X)] V fun e w' => e = .returned (.string (bs (nameL X))) ∧ Below V.heap.size V w') := Lib.hid fun V => name_any X (prefix_len hX) (by omega) V
              have hne : (bs (nameL X)).toList.isEmpty = true := by rw [bs_empty]; exact hN
              clear hA hxl hPF hG hX hL
              gi_wp2_with (first
                | (gi_at_call 13; refine (CallsIn.inRound (B + 5) (callsIn_wide.2 (HAS.out _ ML.out))).mono ?_; rintro e V1 ⟨rfl, hx⟩; have M1 := Lib.hid (M0.out.keep hx); clear hx ML; have a1 := (box_cell M1.out.f1).1; have a2 := (box_cell M1.out.f2).1; have a3 := (box_cell M1.out.sec).1; have b3 := (box_cell M1.out.sec).2)
                | (refine ⟨trivial, ?_⟩; gi_at_call 13; refine (CallsIn.inRound (B + 5) (callsIn_wide.2 (HAS.out _ ML.out))).mono ?_; rintro e V1 ⟨rfl, hx⟩; have M1 := Lib.hid (M0.out.keep hx); clear hx ML; have a1 := (box_cell M1.out.f1).1; have a2 := (box_cell M1.out.f2).1; have a3 := (box_cell M1.out.sec).1; have b3 := (box_cell M1.out.sec).2)
                | (refine ⟨trivial, fun _ => by omega, ?_⟩; gi_at_call 13; refine (CallsIn.inRound (B + 5) (callsIn_wide.2 (HAS.out _ ML.out))).mono ?_; rintro e V1 ⟨rfl, hx⟩; have M1 := Lib.hid (M0.out.keep hx); clear hx ML; have a1 := (box_cell M1.out.f1).1; have a2 := (box_cell M1.out.f2).1; have a3 := (box_cell M1.out.sec).1; have b3 := (box_cell M1.out.sec).2)
                | (gi_at_call 14; refine (CallsIn.inRound (B + 5) (callsIn_wide.2 (HPX.out _))).mono ?_; rintro e V2 ⟨rfl, rfl⟩)
                | (refine ⟨trivial, ?_⟩; gi_at_call 14; refine (CallsIn.inRound (B + 5) (callsIn_wide.2 (HPX.out _))).mono ?_; rintro e V2 ⟨rfl, rfl⟩)
                | (refine ⟨trivial, fun _ => by omega, ?_⟩; gi_at_call 14; refine (CallsIn.inRound (B + 5) (callsIn_wide.2 (HPX.out _))).mono ?_; rintro e V2 ⟨rfl, rfl⟩)
                | (gi_at_call 15; refine (CallsIn.inRound (B + 5) (callsIn_wide.2 (HNM.out _))).mono ?_; rintro e V3 ⟨rfl, hx⟩; have M3 := Lib.hid (M1.out.keep hx); clear hx a1 a2 a3 b3; have a3 := (box_cell M3.out.sec).1; have b3 := (box_cell M3.out.sec).2; have M4 : Hid (Ms _ _ _ _ _ _ _ _ _ _ _ (V3.setCell ⟨B + 1 + 1, 0, none⟩ (.string (bs (nameL X))))) := Lib.hid (M3.out.put3 (nameL X)); have d2 := (box_cell M3.out.f2).1; have a2 := (box_cell M4.out.f2).1; have c3 := (box_cell M4.out.sec).1)
                | (refine ⟨trivial, ?_⟩; gi_at_call 15; refine (CallsIn.inRound (B + 5) (callsIn_wide.2 (HNM.out _))).mono ?_; rintro e V3 ⟨rfl, hx⟩; have M3 := Lib.hid (M1.out.keep hx); clear hx a1 a2 a3 b3; have a3 := (box_cell M3.out.sec).1; have b3 := (box_cell M3.out.sec).2; have M4 : Hid (Ms _ _ _ _ _ _ _ _ _ _ _ (V3.setCell ⟨B + 1 + 1, 0, none⟩ (.string (bs (nameL X))))) := Lib.hid (M3.out.put3 (nameL X)); have d2 := (box_cell M3.out.f2).1; have a2 := (box_cell M4.out.f2).1; have c3 := (box_cell M4.out.sec).1)
                | (refine ⟨trivial, fun _ => by omega, ?_⟩; gi_at_call 15; refine (CallsIn.inRound (B + 5) (callsIn_wide.2 (HNM.out _))).mono ?_; rintro e V3 ⟨rfl, hx⟩; have M3 := Lib.hid (M1.out.keep hx); clear hx a1 a2 a3 b3; have a3 := (box_cell M3.out.sec).1; have b3 := (box_cell M3.out.sec).2; have M4 : Hid (Ms _ _ _ _ _ _ _ _ _ _ _ (V3.setCell ⟨B + 1 + 1, 0, none⟩ (.string (bs (nameL X))))) := Lib.hid (M3.out.put3 (nameL X)); have d2 := (box_cell M3.out.f2).1; have a2 := (box_cell M4.out.f2).1; have c3 := (box_cell M4.out.sec).1)
                | (gi_at_builtin; refine wpIn_appD rfl _ _ rfl M4.out HV2.out (n, 110) (show wr.length ≤ 1000001 from HCN.out.2) rfl (by show Value.slice (some ⟨V3.heap.size, 0, none⟩) 1 1 = _; simp) ?_; intro g8 cap8 w8 hx8; have M8 := Lib.hid hx8; clear hx8; have f8 := (box_cell M8.out.f2).1; have gg8 := (box_cell M8.out.f2).2)
                | fail)
              obtain ⟨v, w', h1, e1, bl1, p1, p2⟩ := ms_end hrec (M8.out.put2 _) (by rw [pfold_snoc]; exact HST.out)
              exact ⟨_, _, h1, e1, ⟨bl1, p1⟩, p2⟩
  case done =>
    intro W hpe
    obtain ⟨v1, v2, h1, h2, o1, o2⟩ := hpe.ex
    obtain ⟨a1, _⟩ := box_cell h1
    obtain ⟨a2, _⟩ := box_cell h2
    have hn : ∀ {v : Value} {e : TypeId} {sz n : Nat} {xs : List Value}, W.ownsRow (B + 6) e sz v n xs → v.ownBlock = none ∨ v.ownBlock ≠ some (B + 4) := fun {v e sz n xs} ho => by
      cases hv : v.ownBlock with
      | none => exact .inl rfl
      | some g => exact .inr fun e => by cases e; have := (own_kind ho hv).1; omega
    have hg := grownBy_putObj' W.drew (B + 4) (.deferred none)
    have P1 := Lib.hid (World.ownsRow.kept (w := W.drew) o1 hg (hn o1))
    have P2 := Lib.hid (World.ownsRow.kept (w := W.drew) o2 hg (hn o2))
    have PB := Lib.hid (hpe.below.drew.grown hg (by have := (Array.getElem?_eq_some_iff.1 hpe.D).1; show B ≤ W.heap.size; omega) (fun k e => by cases e; omega))
    have PD := Lib.hid (run_takeDeferred (P := Tryd.prog) (w := W.drew) hpe.D)
    clear o1 o2 hg hn hpe h1 h2 hcv3 hlen hl HL
    simp only [Exit.inBlock, Exit.then]
    gi_wp2
    gi_region
    all_goals gi_wp2
    refine ⟨by simp, .inl ⟨B + 4, _, rfl, PD.out, ?_⟩⟩
    refine ⟨.tuple #[v1, v2], by simp [results, Tryd.results9, go_sem], v1, v2, rfl, ?_, ?_, ?_⟩
    · rw [hB]; exact P1.out
    · rw [hB]; exact P2.out
    · rw [hB]; exact PB.out
end Go.Proofs.YtokeepmlibolfaaDoor.Ln
