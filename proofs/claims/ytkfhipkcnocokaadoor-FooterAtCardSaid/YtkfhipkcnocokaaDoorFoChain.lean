/-
  Layer 7 (footer): the program's reader: hours, offsets (written by gen_fo7.py).
-/
import Derived.Test.YtkfhipkcnocokaaDoorFoRead
namespace Go.Proofs.YtkfhipkcnocokaaDoor.Fo
open Go.RowKit

set_option maxHeartbeats 800000 in
theorem sixtieth_a (s s1 s2 : St) (n1 : Int) (g : Nat) (w0 w : World) (h : Rk w0 w g s)
    (e1 : numS 2 2 s = s1) (v1 : numV s = n1)
    (e2 : St.need s1 (decide (n1 ≤ 59)) = s2) :
    Calls Tryd.prog 87 #[.pointer (some ⟨g, 0, none⟩)] w fun e w' => e = .returned (.int .i64 (n1)) ∧ Rk w0 w' g s2 := by
  have H1 : Hid (∀ V, Rk w0 V g s → Calls Tryd.prog 78 #[.pointer (some ⟨g, 0, none⟩), .int .i64 2, .int .i64 2] V fun e w' => e = .returned (.int .i64 n1) ∧ Rk w0 w' g s1) := Lib.hid fun V hV => by have := number_any 2 2 s g w0 V hV; rwa [e1, v1] at this
  have H2 : Hid (∀ V, Rk w0 V g s1 → Calls Tryd.prog 60 #[.pointer (some ⟨g, 0, none⟩), .bool (decide (n1 ≤ 59))] V fun e w' => e = .returned (.tuple #[]) ∧ Rk w0 w' g s2) := Lib.hid fun V hV => by have := need_any (decide (n1 ≤ 59)) s1 g w0 V hV; rwa [e2] at this
  have K0 := Lib.hid h
  clear h e1 v1 e2
  go_enter Tryd.func87, Tryd.ntmps87
  go_wp2_with (first
    | (go_at_call 78; refine (H1.out _ K0.out).mono ?_; clear H1; rintro e V1 ⟨rfl, hk⟩; have K1 := Lib.hid hk; clear hk)
    | (go_at_call 60; refine (H2.out _ K1.out).mono ?_; clear H2; rintro e V2 ⟨rfl, hk⟩; have K2 := Lib.hid hk; clear hk)
    | fail)
  go_ret
  exact ⟨rfl, K2.out⟩
theorem sixtieth_any (s : St) (g : Nat) (w0 w : World) (h : Rk w0 w g s) : Calls Tryd.prog 87 #[.pointer (some ⟨g, 0, none⟩)] w fun e w' => e = .returned (.int .i64 (numV s)) ∧ Rk w0 w' g (sixS s) :=
  sixtieth_a s _ _ _ g w0 w h rfl rfl rfl
set_option maxHeartbeats 800000 in
theorem time_a (s s1 s2 : St) (n1 : Int) (g : Nat) (w0 w : World) (h : Rk w0 w g s)
    (e1 : numS 1 3 s = s1) (v1 : numV s = n1)
    (b2 : nextB 58 s1 = false) (e2 : nextS 58 s1 = s2) :
    Calls Tryd.prog 75 #[.pointer (some ⟨g, 0, none⟩)] w fun e w' => e = .returned (.int .i64 (wrap64 (n1 * 3600))) ∧ Rk w0 w' g s2 := by
  have H1 : Hid (∀ V, Rk w0 V g s → Calls Tryd.prog 78 #[.pointer (some ⟨g, 0, none⟩), .int .i64 1, .int .i64 3] V fun e w' => e = .returned (.int .i64 n1) ∧ Rk w0 w' g s1) := Lib.hid fun V hV => by have := number_any 1 3 s g w0 V hV; rwa [e1, v1] at this
  have H2 : Hid (∀ V, Rk w0 V g s1 → Calls Tryd.prog 59 #[.pointer (some ⟨g, 0, none⟩), .string ⟨#[58]⟩] V fun e w' => e = .returned (.bool false) ∧ Rk w0 w' g s2) := Lib.hid fun V hV => by have := next_any 58 58 rfl s1 g w0 V hV; rwa [b2, e2] at this
  have K0 := Lib.hid h
  clear h e1 v1 b2 e2
  go_enter Tryd.func75, Tryd.ntmps75
  go_wp2_with (first
    | (go_at_call 78; refine (H1.out _ K0.out).mono ?_; clear H1; rintro e V1 ⟨rfl, hk⟩; have K1 := Lib.hid hk; clear hk)
    | (go_at_call 59; refine (H2.out _ K1.out).mono ?_; clear H2; rintro e V2 ⟨rfl, hk⟩; have K2 := Lib.hid hk; clear hk)
    | fail)
  go_ret
  exact ⟨rfl, K2.out⟩
set_option maxHeartbeats 800000 in
theorem time_b (s s1 s2 s3 s4 : St) (n1 n3 : Int) (g : Nat) (w0 w : World) (h : Rk w0 w g s)
    (e1 : numS 1 3 s = s1) (v1 : numV s = n1)
    (b2 : nextB 58 s1 = true) (e2 : nextS 58 s1 = s2)
    (e3 : sixS s2 = s3) (v3 : numV s2 = n3)
    (b4 : nextB 58 s3 = false) (e4 : nextS 58 s3 = s4) :
    Calls Tryd.prog 75 #[.pointer (some ⟨g, 0, none⟩)] w fun e w' => e = .returned (.int .i64 (wrap64 (wrap64 (n1 * 3600) + wrap64 (n3 * 60)))) ∧ Rk w0 w' g s4 := by
  have H1 : Hid (∀ V, Rk w0 V g s → Calls Tryd.prog 78 #[.pointer (some ⟨g, 0, none⟩), .int .i64 1, .int .i64 3] V fun e w' => e = .returned (.int .i64 n1) ∧ Rk w0 w' g s1) := Lib.hid fun V hV => by have := number_any 1 3 s g w0 V hV; rwa [e1, v1] at this
  have H2 : Hid (∀ V, Rk w0 V g s1 → Calls Tryd.prog 59 #[.pointer (some ⟨g, 0, none⟩), .string ⟨#[58]⟩] V fun e w' => e = .returned (.bool true) ∧ Rk w0 w' g s2) := Lib.hid fun V hV => by have := next_any 58 58 rfl s1 g w0 V hV; rwa [b2, e2] at this
  have H3 : Hid (∀ V, Rk w0 V g s2 → Calls Tryd.prog 87 #[.pointer (some ⟨g, 0, none⟩)] V fun e w' => e = .returned (.int .i64 n3) ∧ Rk w0 w' g s3) := Lib.hid fun V hV => by have := sixtieth_any s2 g w0 V hV; rwa [e3, v3] at this
  have H4 : Hid (∀ V, Rk w0 V g s3 → Calls Tryd.prog 59 #[.pointer (some ⟨g, 0, none⟩), .string ⟨#[58]⟩] V fun e w' => e = .returned (.bool false) ∧ Rk w0 w' g s4) := Lib.hid fun V hV => by have := next_any 58 58 rfl s3 g w0 V hV; rwa [b4, e4] at this
  have K0 := Lib.hid h
  clear h e1 v1 b2 e2 e3 v3 b4 e4
  go_enter Tryd.func75, Tryd.ntmps75
  go_wp2_with (first
    | (go_at_call 78; refine (H1.out _ K0.out).mono ?_; clear H1; rintro e V1 ⟨rfl, hk⟩; have K1 := Lib.hid hk; clear hk)
    | (go_at_call 59; refine (H2.out _ K1.out).mono ?_; clear H2; rintro e V2 ⟨rfl, hk⟩; have K2 := Lib.hid hk; clear hk)
    | (go_at_call 87; refine (H3.out _ K2.out).mono ?_; clear H3; rintro e V3 ⟨rfl, hk⟩; have K3 := Lib.hid hk; clear hk)
    | (go_at_call 59; refine (H4.out _ K3.out).mono ?_; clear H4; rintro e V4 ⟨rfl, hk⟩; have K4 := Lib.hid hk; clear hk)
    | fail)
  go_ret
  exact ⟨rfl, K4.out⟩
set_option maxHeartbeats 800000 in
theorem time_c (s s1 s2 s3 s4 s5 : St) (n1 n3 n5 : Int) (g : Nat) (w0 w : World) (h : Rk w0 w g s)
    (e1 : numS 1 3 s = s1) (v1 : numV s = n1)
    (b2 : nextB 58 s1 = true) (e2 : nextS 58 s1 = s2)
    (e3 : sixS s2 = s3) (v3 : numV s2 = n3)
    (b4 : nextB 58 s3 = true) (e4 : nextS 58 s3 = s4)
    (e5 : sixS s4 = s5) (v5 : numV s4 = n5) :
    Calls Tryd.prog 75 #[.pointer (some ⟨g, 0, none⟩)] w fun e w' => e = .returned (.int .i64 (wrap64 (wrap64 (wrap64 (n1 * 3600) + wrap64 (n3 * 60)) + n5))) ∧ Rk w0 w' g s5 := by
  have H1 : Hid (∀ V, Rk w0 V g s → Calls Tryd.prog 78 #[.pointer (some ⟨g, 0, none⟩), .int .i64 1, .int .i64 3] V fun e w' => e = .returned (.int .i64 n1) ∧ Rk w0 w' g s1) := Lib.hid fun V hV => by have := number_any 1 3 s g w0 V hV; rwa [e1, v1] at this
  have H2 : Hid (∀ V, Rk w0 V g s1 → Calls Tryd.prog 59 #[.pointer (some ⟨g, 0, none⟩), .string ⟨#[58]⟩] V fun e w' => e = .returned (.bool true) ∧ Rk w0 w' g s2) := Lib.hid fun V hV => by have := next_any 58 58 rfl s1 g w0 V hV; rwa [b2, e2] at this
  have H3 : Hid (∀ V, Rk w0 V g s2 → Calls Tryd.prog 87 #[.pointer (some ⟨g, 0, none⟩)] V fun e w' => e = .returned (.int .i64 n3) ∧ Rk w0 w' g s3) := Lib.hid fun V hV => by have := sixtieth_any s2 g w0 V hV; rwa [e3, v3] at this
  have H4 : Hid (∀ V, Rk w0 V g s3 → Calls Tryd.prog 59 #[.pointer (some ⟨g, 0, none⟩), .string ⟨#[58]⟩] V fun e w' => e = .returned (.bool true) ∧ Rk w0 w' g s4) := Lib.hid fun V hV => by have := next_any 58 58 rfl s3 g w0 V hV; rwa [b4, e4] at this
  have H5 : Hid (∀ V, Rk w0 V g s4 → Calls Tryd.prog 87 #[.pointer (some ⟨g, 0, none⟩)] V fun e w' => e = .returned (.int .i64 n5) ∧ Rk w0 w' g s5) := Lib.hid fun V hV => by have := sixtieth_any s4 g w0 V hV; rwa [e5, v5] at this
  have K0 := Lib.hid h
  clear h e1 v1 b2 e2 e3 v3 b4 e4 e5 v5
  go_enter Tryd.func75, Tryd.ntmps75
  go_wp2_with (first
    | (go_at_call 78; refine (H1.out _ K0.out).mono ?_; clear H1; rintro e V1 ⟨rfl, hk⟩; have K1 := Lib.hid hk; clear hk)
    | (go_at_call 59; refine (H2.out _ K1.out).mono ?_; clear H2; rintro e V2 ⟨rfl, hk⟩; have K2 := Lib.hid hk; clear hk)
    | (go_at_call 87; refine (H3.out _ K2.out).mono ?_; clear H3; rintro e V3 ⟨rfl, hk⟩; have K3 := Lib.hid hk; clear hk)
    | (go_at_call 59; refine (H4.out _ K3.out).mono ?_; clear H4; rintro e V4 ⟨rfl, hk⟩; have K4 := Lib.hid hk; clear hk)
    | (go_at_call 87; refine (H5.out _ K4.out).mono ?_; clear H5; rintro e V5 ⟨rfl, hk⟩; have K5 := Lib.hid hk; clear hk)
    | fail)
  go_ret
  exact ⟨rfl, K5.out⟩
theorem nextS_no {c : Nat} {s : St} (h : nextB c s = false) : nextS c s = s := by unfold nextS; rw [h]; rfl
theorem time_any (s : St) (g : Nat) (w0 w : World) (h : Rk w0 w g s) : Calls Tryd.prog 75 #[.pointer (some ⟨g, 0, none⟩)] w fun e w' => e = .returned (.int .i64 (timV s)) ∧ Rk w0 w' g (timS s) := by
  cases b1 : nextB 58 (numS 1 3 s) with
  | false =>
    have := time_a s _ _ _ g w0 w h rfl rfl b1 rfl
    rw [nextS_no b1] at this
    unfold timV timS
    simp only [b1, Bool.false_eq_true, if_false]
    exact this
  | true =>
    cases b2 : nextB 58 (sixS (nextS 58 (numS 1 3 s))) with
    | false =>
      have := time_b s _ _ _ _ _ _ g w0 w h rfl rfl b1 rfl rfl rfl b2 rfl
      rw [nextS_no b2] at this
      unfold timV timS
      simp only [b1, b2, Bool.false_eq_true, if_false, if_true]
      exact this
    | true =>
      have := time_c s _ _ _ _ _ _ _ _ g w0 w h rfl rfl b1 rfl rfl rfl b2 rfl rfl rfl
      unfold timV timS
      simp only [b1, b2, if_true]
      exact this
set_option maxHeartbeats 800000 in
theorem signed_a (s s1 s2 : St) (n2 : Int) (g : Nat) (w0 w : World) (h : Rk w0 w g s)
    (b1 : nextB 45 s = false) (e1 : nextS 45 s = s1)
    (e2 : timS s1 = s2) (v2 : timV s1 = n2) :
    Calls Tryd.prog 76 #[.pointer (some ⟨g, 0, none⟩)] w fun e w' => e = .returned (.int .i64 (n2)) ∧ Rk w0 w' g s2 := by
  have H1 : Hid (∀ V, Rk w0 V g s → Calls Tryd.prog 59 #[.pointer (some ⟨g, 0, none⟩), .string ⟨#[45]⟩] V fun e w' => e = .returned (.bool false) ∧ Rk w0 w' g s1) := Lib.hid fun V hV => by have := next_any 45 45 rfl s g w0 V hV; rwa [b1, e1] at this
  have H2 : Hid (∀ V, Rk w0 V g s1 → Calls Tryd.prog 75 #[.pointer (some ⟨g, 0, none⟩)] V fun e w' => e = .returned (.int .i64 n2) ∧ Rk w0 w' g s2) := Lib.hid fun V hV => by have := time_any s1 g w0 V hV; rwa [e2, v2] at this
  have K0 := Lib.hid h
  clear h b1 e1 e2 v2
  go_enter Tryd.func76, Tryd.ntmps76
  go_wp2_with (first
    | (go_at_call 59; refine (H1.out _ K0.out).mono ?_; clear H1; rintro e V1 ⟨rfl, hk⟩; have K1 := Lib.hid hk; clear hk)
    | (go_at_call 75; refine (H2.out _ K1.out).mono ?_; clear H2; rintro e V2 ⟨rfl, hk⟩; have K2 := Lib.hid hk; clear hk)
    | fail)
  go_ret
  exact ⟨rfl, K2.out⟩
set_option maxHeartbeats 800000 in
theorem signed_b (s s1 s2 s3 : St) (n2 : Int) (g : Nat) (w0 w : World) (h : Rk w0 w g s)
    (b1 : nextB 45 s = true) (e1 : nextS 45 s = s1)
    (e2 : timS s1 = s2) (v2 : timV s1 = n2)
    (e3 : St.need s2 (n2 != 0) = s3) :
    Calls Tryd.prog 76 #[.pointer (some ⟨g, 0, none⟩)] w fun e w' => e = .returned (.int .i64 (wrap64 (-n2))) ∧ Rk w0 w' g s3 := by
  have H1 : Hid (∀ V, Rk w0 V g s → Calls Tryd.prog 59 #[.pointer (some ⟨g, 0, none⟩), .string ⟨#[45]⟩] V fun e w' => e = .returned (.bool true) ∧ Rk w0 w' g s1) := Lib.hid fun V hV => by have := next_any 45 45 rfl s g w0 V hV; rwa [b1, e1] at this
  have H2 : Hid (∀ V, Rk w0 V g s1 → Calls Tryd.prog 75 #[.pointer (some ⟨g, 0, none⟩)] V fun e w' => e = .returned (.int .i64 n2) ∧ Rk w0 w' g s2) := Lib.hid fun V hV => by have := time_any s1 g w0 V hV; rwa [e2, v2] at this
  have H3 : Hid (∀ V, Rk w0 V g s2 → Calls Tryd.prog 60 #[.pointer (some ⟨g, 0, none⟩), .bool (n2 != 0)] V fun e w' => e = .returned (.tuple #[]) ∧ Rk w0 w' g s3) := Lib.hid fun V hV => by have := need_any (n2 != 0) s2 g w0 V hV; rwa [e3] at this
  have K0 := Lib.hid h
  clear h b1 e1 e2 v2 e3
  go_enter Tryd.func76, Tryd.ntmps76
  go_wp2_with (first
    | (go_at_call 59; refine (H1.out _ K0.out).mono ?_; clear H1; rintro e V1 ⟨rfl, hk⟩; have K1 := Lib.hid hk; clear hk)
    | (go_at_call 75; refine (H2.out _ K1.out).mono ?_; clear H2; rintro e V2 ⟨rfl, hk⟩; have K2 := Lib.hid hk; clear hk)
    | (go_at_call 60; refine (H3.out _ K2.out).mono ?_; clear H3; rintro e V3 ⟨rfl, hk⟩; have K3 := Lib.hid hk; clear hk)
    | fail)
  go_ret
  exact ⟨rfl, K3.out⟩
theorem signed_any (s : St) (g : Nat) (w0 w : World) (h : Rk w0 w g s) : Calls Tryd.prog 76 #[.pointer (some ⟨g, 0, none⟩)] w fun e w' => e = .returned (.int .i64 (sgnV s)) ∧ Rk w0 w' g (sgnS s) := by
  unfold sgnV sgnS
  cases b1 : nextB 45 s with
  | false =>
    simp only [Bool.false_eq_true, if_false]
    exact signed_a s s _ _ g w0 w h b1 (nextS_no b1) rfl rfl
  | true =>
    simp only [if_true]
    exact signed_b s _ _ _ _ g w0 w h b1 rfl rfl rfl rfl
set_option maxHeartbeats 800000 in
theorem offset_a (s s1 s2 : St) (n2 : Int) (g : Nat) (w0 w : World) (h : Rk w0 w g s)
    (b1 : nextB 43 s = false) (e1 : nextS 43 s = s1)
    (e2 : sgnS s1 = s2) (v2 : sgnV s1 = n2) :
    Calls Tryd.prog 58 #[.pointer (some ⟨g, 0, none⟩)] w fun e w' => e = .returned (.int .i64 (wrap64 (-n2))) ∧ Rk w0 w' g s2 := by
  have H1 : Hid (∀ V, Rk w0 V g s → Calls Tryd.prog 59 #[.pointer (some ⟨g, 0, none⟩), .string ⟨#[43]⟩] V fun e w' => e = .returned (.bool false) ∧ Rk w0 w' g s1) := Lib.hid fun V hV => by have := next_any 43 43 rfl s g w0 V hV; rwa [b1, e1] at this
  have H2 : Hid (∀ V, Rk w0 V g s1 → Calls Tryd.prog 76 #[.pointer (some ⟨g, 0, none⟩)] V fun e w' => e = .returned (.int .i64 n2) ∧ Rk w0 w' g s2) := Lib.hid fun V hV => by have := signed_any s1 g w0 V hV; rwa [e2, v2] at this
  have K0 := Lib.hid h
  clear h b1 e1 e2 v2
  go_enter Tryd.func58, Tryd.ntmps58
  go_wp2_with (first
    | (go_at_call 59; refine (H1.out _ K0.out).mono ?_; clear H1; rintro e V1 ⟨rfl, hk⟩; have K1 := Lib.hid hk; clear hk)
    | (go_at_call 76; refine (H2.out _ K1.out).mono ?_; clear H2; rintro e V2 ⟨rfl, hk⟩; have K2 := Lib.hid hk; clear hk)
    | fail)
  go_ret
  exact ⟨rfl, K2.out⟩
set_option maxHeartbeats 800000 in
theorem offset_b (s s1 s2 : St) (n2 : Int) (g : Nat) (w0 w : World) (h : Rk w0 w g s)
    (b1 : nextB 43 s = true) (e1 : nextS 43 s = s1)
    (e2 : timS s1 = s2) (v2 : timV s1 = n2) :
    Calls Tryd.prog 58 #[.pointer (some ⟨g, 0, none⟩)] w fun e w' => e = .returned (.int .i64 (wrap64 (-n2))) ∧ Rk w0 w' g s2 := by
  have H1 : Hid (∀ V, Rk w0 V g s → Calls Tryd.prog 59 #[.pointer (some ⟨g, 0, none⟩), .string ⟨#[43]⟩] V fun e w' => e = .returned (.bool true) ∧ Rk w0 w' g s1) := Lib.hid fun V hV => by have := next_any 43 43 rfl s g w0 V hV; rwa [b1, e1] at this
  have H2 : Hid (∀ V, Rk w0 V g s1 → Calls Tryd.prog 75 #[.pointer (some ⟨g, 0, none⟩)] V fun e w' => e = .returned (.int .i64 n2) ∧ Rk w0 w' g s2) := Lib.hid fun V hV => by have := time_any s1 g w0 V hV; rwa [e2, v2] at this
  have K0 := Lib.hid h
  clear h b1 e1 e2 v2
  go_enter Tryd.func58, Tryd.ntmps58
  go_wp2_with (first
    | (go_at_call 59; refine (H1.out _ K0.out).mono ?_; clear H1; rintro e V1 ⟨rfl, hk⟩; have K1 := Lib.hid hk; clear hk)
    | (go_at_call 75; refine (H2.out _ K1.out).mono ?_; clear H2; rintro e V2 ⟨rfl, hk⟩; have K2 := Lib.hid hk; clear hk)
    | fail)
  go_ret
  exact ⟨rfl, K2.out⟩
theorem offset_any (s : St) (g : Nat) (w0 w : World) (h : Rk w0 w g s) : Calls Tryd.prog 58 #[.pointer (some ⟨g, 0, none⟩)] w fun e w' => e = .returned (.int .i64 (offV s)) ∧ Rk w0 w' g (offS s) := by
  unfold offV offS
  cases b1 : nextB 43 s with
  | false =>
    simp only [Bool.false_eq_true, if_false]
    exact offset_a s s _ _ g w0 w h b1 (nextS_no b1) rfl rfl
  | true =>
    simp only [if_true]
    exact offset_b s _ _ _ g w0 w h b1 rfl rfl rfl
end Go.Proofs.YtkfhipkcnocokaaDoor.Fo
