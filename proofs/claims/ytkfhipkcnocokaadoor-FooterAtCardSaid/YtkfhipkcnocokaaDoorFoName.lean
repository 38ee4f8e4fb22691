/-
  Layer 7 (footer): the program's reader: a name.
-/
import Derived.Test.YtkfhipkcnocokaaDoorFoChain
namespace Go.Proofs.YtkfhipkcnocokaaDoor.Fo
open Go.RowKit

theorem Rk.alloc {w0 w : World} {g : Nat} {s : St} (h : Rk w0 w g s) (o : Obj) : Rk w0 (w.alloc o) g s := h.keep ((Below.refl w.heap.size w).alloc (Nat.le_refl _) o)
theorem run_ltr (s : St) (g : Nat) (w0 w : World) (h : Rk w0 w g s) :
    Calls Tryd.prog 74 #[.pointer (some ⟨g, 0, none⟩), .func (.func 70) #[] #[.pointer (some ⟨w.heap.size, 0, none⟩)]] (w.alloc (.cells #[.string ⟨#[]⟩] 9)) fun e w' => e = .returned (.string (bs (runV ltr s))) ∧ Rk w0 w' g (runS ltr s) :=
  run_any _ _ ltr (fun _ => ltr_low) s g w0 _ (h.alloc _) (enters_of Tryd.func70 (by kernel_rfl) rfl) (ltr_0 _ w.heap.size (by simp) (cell_new w _ _ _ 0 _ rfl rfl))
theorem run_mrk (s : St) (g : Nat) (w0 w : World) (h : Rk w0 w g s) :
    Calls Tryd.prog 74 #[.pointer (some ⟨g, 0, none⟩), .func (.func 70) #[] #[.pointer (some ⟨w.heap.size, 0, none⟩)]] (w.alloc (.cells #[.string ⟨#[48, 49, 50, 51, 52, 53, 54, 55, 56, 57, 43, 45]⟩] 9)) fun e w' => e = .returned (.string (bs (runV mrk s))) ∧ Rk w0 w' g (runS mrk s) :=
  run_any _ _ mrk (fun _ => mrk_low) s g w0 _ (h.alloc _) (enters_of Tryd.func70 (by kernel_rfl) rfl) (mrk_1 _ w.heap.size (by simp) (cell_new w _ _ _ 0 _ rfl rfl))
set_option maxHeartbeats 800000 in
theorem name_a (s s2 : St) (r : ByteArray) (g : Nat) (w0 w : World) (h : Rk w0 w g s) (b1 : nextB 60 s = false) (e2 : runS ltr s = s2) (v2 : bs (runV ltr s) = r) :
    Calls Tryd.prog 57 #[.pointer (some ⟨g, 0, none⟩)] w fun e w' => e = .returned (.string r) ∧ Rk w0 w' g s2 := by
  have H1 : Hid (∀ V, Rk w0 V g s → Calls Tryd.prog 59 #[.pointer (some ⟨g, 0, none⟩), .string ⟨#[60]⟩] V fun e w' => e = .returned (.bool false) ∧ Rk w0 w' g s) := Lib.hid fun V hV => by have := next_any 60 60 rfl s g w0 V hV; rwa [b1, nextS_no b1] at this
  have H2 : Hid (∀ V, Rk w0 V g s → Calls Tryd.prog 74 #[.pointer (some ⟨g, 0, none⟩), .func (.func 70) #[] #[.pointer (some ⟨V.heap.size, 0, none⟩)]] (V.alloc (.cells #[.string ⟨#[]⟩] 9)) fun e w' => e = .returned (.string r) ∧ Rk w0 w' g s2) := Lib.hid fun V hV => by have := run_ltr s g w0 V hV; rwa [e2, v2] at this
  have HL : Hid (∀ V, Calls Tryd.prog 50 #[.string ⟨#[]⟩] V fun e w' => e = .returned (.func (.func 70) #[] #[.pointer (some ⟨V.heap.size, 0, none⟩)]) ∧ w' = V.alloc (.cells #[.string ⟨#[]⟩] 9)) := Lib.hid fun V => letterOr_any _ V
  have K0 := Lib.hid h
  clear h b1 e2 v2
  go_enter Tryd.func57, Tryd.ntmps57
  go_wp2_with (first
    | (go_at_call 59; refine (H1.out _ K0.out).mono ?_; clear H1; rintro e V1 ⟨rfl, hk⟩; have K1 := Lib.hid hk; clear hk)
    | (go_at_call 50; refine (HL.out _).mono ?_; clear HL; rintro e V2 ⟨rfl, rfl⟩)
    | (go_at_call 74; refine (H2.out _ K1.out).mono ?_; clear H2; rintro e V3 ⟨rfl, hk⟩; have K3 := Lib.hid hk; clear hk)
    | fail)
  go_ret
  exact ⟨rfl, K3.out⟩
set_option maxHeartbeats 800000 in
theorem name_b (s s1 s2 s3 s4 : St) (r : ByteArray) (b : Bool) (g : Nat) (w0 w : World) (h : Rk w0 w g s) (b1 : nextB 60 s = true) (e1 : nextS 60 s = s1) (e2 : runS mrk s1 = s2) (v2 : bs (runV mrk s1) = r) (b3 : nextB 62 s2 = b) (e3 : nextS 62 s2 = s3) (e4 : s3.need b = s4) :
    Calls Tryd.prog 57 #[.pointer (some ⟨g, 0, none⟩)] w fun e w' => e = .returned (.string r) ∧ Rk w0 w' g s4 := by
  have H1 : Hid (∀ V, Rk w0 V g s → Calls Tryd.prog 59 #[.pointer (some ⟨g, 0, none⟩), .string ⟨#[60]⟩] V fun e w' => e = .returned (.bool true) ∧ Rk w0 w' g s1) := Lib.hid fun V hV => by have := next_any 60 60 rfl s g w0 V hV; rwa [b1, e1] at this
  have H2 : Hid (∀ V, Rk w0 V g s1 → Calls Tryd.prog 74 #[.pointer (some ⟨g, 0, none⟩), .func (.func 70) #[] #[.pointer (some ⟨V.heap.size, 0, none⟩)]] (V.alloc (.cells #[.string ⟨#[48, 49, 50, 51, 52, 53, 54, 55, 56, 57, 43, 45]⟩] 9)) fun e w' => e = .returned (.string r) ∧ Rk w0 w' g s2) := Lib.hid fun V hV => by have := run_mrk s1 g w0 V hV; rwa [e2, v2] at this
  have HL : Hid (∀ V, Calls Tryd.prog 50 #[.string ⟨#[48, 49, 50, 51, 52, 53, 54, 55, 56, 57, 43, 45]⟩] V fun e w' => e = .returned (.func (.func 70) #[] #[.pointer (some ⟨V.heap.size, 0, none⟩)]) ∧ w' = V.alloc (.cells #[.string ⟨#[48, 49, 50, 51, 52, 53, 54, 55, 56, 57, 43, 45]⟩] 9)) := Lib.hid fun V => letterOr_any _ V
  have H3 : Hid (∀ V, Rk w0 V g s2 → Calls Tryd.prog 59 #[.pointer (some ⟨g, 0, none⟩), .string ⟨#[62]⟩] V fun e w' => e = .returned (.bool b) ∧ Rk w0 w' g s3) := Lib.hid fun V hV => by have := next_any 62 62 rfl s2 g w0 V hV; rwa [b3, e3] at this
  have H4 : Hid (∀ V, Rk w0 V g s3 → Calls Tryd.prog 60 #[.pointer (some ⟨g, 0, none⟩), .bool b] V fun e w' => e = .returned (.tuple #[]) ∧ Rk w0 w' g s4) := Lib.hid fun V hV => by have := need_any b s3 g w0 V hV; rwa [e4] at this
  have K0 := Lib.hid h
  clear h b1 e1 e2 v2 b3 e3 e4
  go_enter Tryd.func57, Tryd.ntmps57
  go_wp2_with (first
    | (go_at_call 59; refine (H1.out _ K0.out).mono ?_; clear H1; rintro e V1 ⟨rfl, hk⟩; have K1 := Lib.hid hk; clear hk)
    | (go_at_call 50; refine (HL.out _).mono ?_; clear HL; rintro e V2 ⟨rfl, rfl⟩)
    | (go_at_call 74; refine (H2.out _ K1.out).mono ?_; clear H2; rintro e V3 ⟨rfl, hk⟩; have K3 := Lib.hid hk; clear hk)
    | (go_at_call 59; refine (H3.out _ K3.out).mono ?_; clear H3; rintro e V4 ⟨rfl, hk⟩; have K4 := Lib.hid hk; clear hk)
    | (go_at_call 60; refine (H4.out _ K4.out).mono ?_; clear H4; rintro e V5 ⟨rfl, hk⟩; have K5 := Lib.hid hk; clear hk)
    | fail)
  go_ret
  exact ⟨rfl, K5.out⟩
theorem name_any (s : St) (g : Nat) (w0 w : World) (h : Rk w0 w g s) : Calls Tryd.prog 57 #[.pointer (some ⟨g, 0, none⟩)] w fun e w' => e = .returned (.string (bs (namV s))) ∧ Rk w0 w' g (namS s) := by
  unfold namV namS
  cases b1 : nextB 60 s with
  | false =>
    simp only [Bool.false_eq_true, if_false]
    exact name_a s _ _ g w0 w h b1 rfl rfl
  | true =>
    simp only [if_true]
    exact name_b s _ _ _ _ _ _ g w0 w h b1 rfl rfl rfl rfl rfl rfl
end Go.Proofs.YtkfhipkcnocokaaDoor.Fo
