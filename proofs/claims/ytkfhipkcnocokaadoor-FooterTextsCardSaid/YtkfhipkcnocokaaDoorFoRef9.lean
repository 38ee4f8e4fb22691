/-
  Layer 7 (footer): the document's own texts of rules (ways by gen_fo7j.py).
-/
import Derived.Test.YtkfhipkcnocokaaDoorFoRef6
import Derived.Test.YtkfhipkcnocokaaDoorFoText6
namespace Go.Proofs.YtkfhipkcnocokaaDoor.Fo
open Go.RowKit
set_option maxRecDepth 100000

theorem rput_b (l : List UInt8) (hl : l.length ≤ 100) (w : World) : Calls Tryd.prog 31 #[.string (bs l)] w fun e w' => e = .returned (.string (bs (namL l))) ∧ Below w.heap.size w w' :=
  (rput_any l hl w).mono fun _ _ ⟨he, hb⟩ => ⟨he, hb ▸ Below.refl _ _⟩
set_option maxHeartbeats 1600000 in
theorem rtext_a (r : Rl) (hs : r.dst.toList.isEmpty = true) (n1 : nameB r.std.data.toList = true) (o1 : offB r.off = true) (w : World) (hp : Pw w) : Calls Tryd.prog 14 #[rlV r] w fun e w' => e = .returned (.string (bs (txA r))) ∧ Below w.heap.size w w' := by
  obtain ⟨x1, x2, x3⟩ := neg_off o1
  have L0 := name_len n1
  have L1 := nam_len r.std.data.toList
  have L2 := tim_len _ x2 x3
  have LA : (txA r).length ≤ 40 := by unfold txA; rw [List.length_append]; omega
  have H1 : Hid (∀ V, Pw V → Calls Tryd.prog 31 #[.string r.std] V fun e w' => e = .returned (.string (bs (namL r.std.data.toList))) ∧ Below V.heap.size V w') := Lib.hid fun V hV => by have := rput_b r.std.data.toList (by omega) V; rwa [bs_of] at this
  have H2 : Hid (∀ V, Pw V → Calls Tryd.prog 32 #[.int .i64 (-r.off)] V fun e w' => e = .returned (.string (bs (timL (-r.off)))) ∧ Below V.heap.size V w') := Lib.hid fun V hV => rhours_any _ x2 x3 V
  have a1 : ∀ W, (Op.stringOp .add (bs (namL r.std.data.toList)) (bs (timL (-r.off)))).run Tryd.prog W = .ok (.string (bs (txA r))) W := add_bs _ _ _ rfl (by omega)
  have K0 := Lib.hid (Xk.start hp r 29)
  clear n1 o1 x2 x3 L0 L1 L2 LA hp
  generalize bs (txA r) = S3 at *
  generalize bs (namL r.std.data.toList) = N1 at *
  generalize bs (timL (-r.off)) = T1 at *
  obtain ⟨std, dst, off, dstOff, ⟨k1, m1, e1, d1, t1⟩, ⟨k2, m2, e2, d2, t2⟩⟩ := r
  simp only at *
  go_enter Tryd.func14, Tryd.ntmps14
  go_wp2_with fail
  have c0 : ∀ dq osq, (Sort.grow (redrawn (w.alloc (.cells #[.string std, .string dst, .int .i64 off, .int .i64 dstOff, .int .u8 k1, .int .i64 m1, .int .i64 e1, .int .i64 d1, .int .i64 t1, .int .u8 k2, .int .i64 m2, .int .i64 e2, .int .i64 d2, .int .i64 t2] 29)) dq) osq).cell? ⟨w.heap.size, 0, none⟩ = some (.string std) := fun dq osq => (K0.out.keep (below_regrown (w.alloc (.cells #[.string std, .string dst, .int .i64 off, .int .i64 dstOff, .int .u8 k1, .int .i64 m1, .int .i64 e1, .int .i64 d1, .int .i64 t1, .int .u8 k2, .int .i64 m2, .int .i64 e2, .int .i64 d2, .int .i64 t2] 29)) dq osq)).r.c0
  have c2 : ∀ dq osq, (Sort.grow (redrawn (w.alloc (.cells #[.string std, .string dst, .int .i64 off, .int .i64 dstOff, .int .u8 k1, .int .i64 m1, .int .i64 e1, .int .i64 d1, .int .i64 t1, .int .u8 k2, .int .i64 m2, .int .i64 e2, .int .i64 d2, .int .i64 t2] 29)) dq) osq).cell? ⟨w.heap.size, 2, none⟩ = some (.int .i64 off) := fun dq osq => (K0.out.keep (below_regrown (w.alloc (.cells #[.string std, .string dst, .int .i64 off, .int .i64 dstOff, .int .u8 k1, .int .i64 m1, .int .i64 e1, .int .i64 d1, .int .i64 t1, .int .u8 k2, .int .i64 m2, .int .i64 e2, .int .i64 d2, .int .i64 t2] 29)) dq osq)).r.c2
  refine wp_region_quiet_below (by kernel_rfl) (by kernel_rfl) ?_
  repeat (first | go_big_quiet_step (first | (go_at_call 31; with_reducible exact Calls.regrown_of (H1.out _ (K0.out.keep (below_regrown (w.alloc (.cells #[.string std, .string dst, .int .i64 off, .int .i64 dstOff, .int .u8 k1, .int .i64 m1, .int .i64 e1, .int .i64 d1, .int .i64 t1, .int .u8 k2, .int .i64 m2, .int .i64 e2, .int .i64 d2, .int .i64 t2] 29)) _ _)).p)) | (go_at_call 32; with_reducible exact Calls.regrown_of (H2.out _ (K0.out.keep (below_regrown (w.alloc (.cells #[.string std, .string dst, .int .i64 off, .int .i64 dstOff, .int .u8 k1, .int .i64 m1, .int .i64 e1, .int .i64 d1, .int .i64 t1, .int .u8 k2, .int .i64 m2, .int .i64 e2, .int .i64 d2, .int .i64 t2] 29)) _ _)).p))) | quiet_step (first | (go_at_call 31; with_reducible exact Calls.regrown_of (H1.out _ (K0.out.keep (below_regrown (w.alloc (.cells #[.string std, .string dst, .int .i64 off, .int .i64 dstOff, .int .u8 k1, .int .i64 m1, .int .i64 e1, .int .i64 d1, .int .i64 t1, .int .u8 k2, .int .i64 m2, .int .i64 e2, .int .i64 d2, .int .i64 t2] 29)) _ _)).p)) | (go_at_call 32; with_reducible exact Calls.regrown_of (H2.out _ (K0.out.keep (below_regrown (w.alloc (.cells #[.string std, .string dst, .int .i64 off, .int .i64 dstOff, .int .u8 k1, .int .i64 m1, .int .i64 e1, .int .i64 d1, .int .i64 t1, .int .u8 k2, .int .i64 m2, .int .i64 e2, .int .i64 d2, .int .i64 t2] 29)) _ _)).p))))
  refine wpQuiet_nil ?_
  intro V1 hV
  have K2 := Lib.hid (K0.out.keep (below_class hV))
  clear hV c0 c2
  have q1 := K2.out.r.c1
  go_wp2
  go_ret
  exact ⟨rfl, K2.out.b⟩
set_option maxHeartbeats 1600000 in
theorem rtext_b (r : Rl) (hs : r.dst.toList.isEmpty = false) (n1 : nameB r.std.data.toList = true) (o1 : offB r.off = true) (n2 : nameB r.dst.data.toList = true) (b1 : dayB r.start = true) (b2 : dayB r.end_ = true) (hd : r.dstOff = r.off + 3600) (w : World) (hp : Pw w) : Calls Tryd.prog 14 #[rlV r] w fun e w' => e = .returned (.string (bs (((((txA r ++ namL r.dst.data.toList) ++ [44]) ++ dayL r.start) ++ [44]) ++ dayL r.end_))) ∧ Below w.heap.size w w' := by
  obtain ⟨x1, x2, x3⟩ := neg_off o1
  have L0 := name_len n1
  have L1 := nam_len r.std.data.toList
  have L2 := tim_len _ x2 x3
  have LA : (txA r).length ≤ 40 := by unfold txA; rw [List.length_append]; omega
  have H1 : Hid (∀ V, Pw V → Calls Tryd.prog 31 #[.string r.std] V fun e w' => e = .returned (.string (bs (namL r.std.data.toList))) ∧ Below V.heap.size V w') := Lib.hid fun V hV => by have := rput_b r.std.data.toList (by omega) V; rwa [bs_of] at this
  have H2 : Hid (∀ V, Pw V → Calls Tryd.prog 32 #[.int .i64 (-r.off)] V fun e w' => e = .returned (.string (bs (timL (-r.off)))) ∧ Below V.heap.size V w') := Lib.hid fun V hV => rhours_any _ x2 x3 V
  have a1 : ∀ W, (Op.stringOp .add (bs (namL r.std.data.toList)) (bs (timL (-r.off)))).run Tryd.prog W = .ok (.string (bs (txA r))) W := add_bs _ _ _ rfl (by omega)
  have L3 := name_len n2
  have L4 := nam_len r.dst.data.toList
  have L6 := day_len _ b1
  have L7 := day_len _ b2
  have LB : (txA r ++ namL r.dst.data.toList).length ≤ 60 := by rw [List.length_append]; omega
  have H3 : Hid (∀ V, Xk w V r → Calls Tryd.prog 31 #[.string r.dst] V fun e w' => e = .returned (.string (bs (namL r.dst.data.toList))) ∧ Xk w w' r) := Lib.hid fun V hV => by have := rput_b r.dst.data.toList (by omega) V; rw [bs_of] at this; exact this.mono fun _ _ ⟨he, hb⟩ => ⟨he, hV.keep hb⟩
  have H5 : Hid (∀ V, Pw V → Calls Tryd.prog 33 #[dyV r.start] V fun e w' => e = .returned (.string (bs (dayL r.start))) ∧ Below V.heap.size V w') := Lib.hid fun V hV => rdtext_any _ b1 V hV
  have H6 : Hid (∀ V, Pw V → Calls Tryd.prog 33 #[dyV r.end_] V fun e w' => e = .returned (.string (bs (dayL r.end_))) ∧ Below V.heap.size V w') := Lib.hid fun V hV => rdtext_any _ b2 V hV
  have a2 : ∀ W, (Op.stringOp .add (bs (txA r)) (bs (namL r.dst.data.toList))).run Tryd.prog W = .ok (.string (bs (txA r ++ namL r.dst.data.toList))) W := add_bs _ _ _ rfl (by omega)
  have x4 := add_off o1
  have LC : (txA r ++ namL r.dst.data.toList).length ≤ 100 := by omega
  have hb : (r.dstOff != r.off + 3600) = false := by rw [hd]; exact bne_self_eq_false _
  have LD := app_len LC (show ([44] : List UInt8).length ≤ 1 from Nat.le_refl _)
  have LE := app_len LD L6
  have LF := app_len LE (show ([44] : List UInt8).length ≤ 1 from Nat.le_refl _)
  have LG := app_len LF L7
  have a4 : ∀ W, (Op.stringOp .add (bs (txA r ++ namL r.dst.data.toList)) (bs [44])).run Tryd.prog W = .ok (.string (bs ((txA r ++ namL r.dst.data.toList) ++ [44]))) W := add_bs _ [44] _ rfl (Nat.le_trans LD (by decide))
  have a5 : ∀ W, (Op.stringOp .add (bs ((txA r ++ namL r.dst.data.toList) ++ [44])) (bs (dayL r.start))).run Tryd.prog W = .ok (.string (bs (((txA r ++ namL r.dst.data.toList) ++ [44]) ++ dayL r.start))) W := add_bs _ _ _ rfl (Nat.le_trans LE (by decide))
  have a6 : ∀ W, (Op.stringOp .add (bs (((txA r ++ namL r.dst.data.toList) ++ [44]) ++ dayL r.start)) (bs [44])).run Tryd.prog W = .ok (.string (bs ((((txA r ++ namL r.dst.data.toList) ++ [44]) ++ dayL r.start) ++ [44]))) W := add_bs _ [44] _ rfl (Nat.le_trans LF (by decide))
  have a7 : ∀ W, (Op.stringOp .add (bs ((((txA r ++ namL r.dst.data.toList) ++ [44]) ++ dayL r.start) ++ [44])) (bs (dayL r.end_))).run Tryd.prog W = .ok (.string (bs (((((txA r ++ namL r.dst.data.toList) ++ [44]) ++ dayL r.start) ++ [44]) ++ dayL r.end_))) W := add_bs _ _ _ rfl (Nat.le_trans LG (by decide))
  have K0 := Lib.hid (Xk.start hp r 29)
  clear n1 o1 x2 x3 L0 L1 L2 LA hp n2 b1 b2 L3 L4 L6 L7 LB LC hd LD LE LF LG
  generalize bs (((((txA r ++ namL r.dst.data.toList) ++ [44]) ++ dayL r.start) ++ [44]) ++ dayL r.end_) = S9 at *
  generalize bs ((((txA r ++ namL r.dst.data.toList) ++ [44]) ++ dayL r.start) ++ [44]) = S8 at *
  generalize bs (((txA r ++ namL r.dst.data.toList) ++ [44]) ++ dayL r.start) = S7 at *
  generalize bs ((txA r ++ namL r.dst.data.toList) ++ [44]) = S6 at *
  generalize bs (txA r ++ namL r.dst.data.toList) = S4 at *
  generalize bs (namL r.dst.data.toList) = N2 at *
  generalize bs (dayL r.start) = D1 at *
  generalize bs (dayL r.end_) = D2 at *
  generalize bs (txA r) = S3 at *
  generalize bs (namL r.std.data.toList) = N1 at *
  generalize bs (timL (-r.off)) = T1 at *
  obtain ⟨std, dst, off, dstOff, ⟨k1, m1, e1, d1, t1⟩, ⟨k2, m2, e2, d2, t2⟩⟩ := r
  simp only at *
  go_enter Tryd.func14, Tryd.ntmps14
  go_wp2_with fail
  have c0 : ∀ dq osq, (Sort.grow (redrawn (w.alloc (.cells #[.string std, .string dst, .int .i64 off, .int .i64 dstOff, .int .u8 k1, .int .i64 m1, .int .i64 e1, .int .i64 d1, .int .i64 t1, .int .u8 k2, .int .i64 m2, .int .i64 e2, .int .i64 d2, .int .i64 t2] 29)) dq) osq).cell? ⟨w.heap.size, 0, none⟩ = some (.string std) := fun dq osq => (K0.out.keep (below_regrown (w.alloc (.cells #[.string std, .string dst, .int .i64 off, .int .i64 dstOff, .int .u8 k1, .int .i64 m1, .int .i64 e1, .int .i64 d1, .int .i64 t1, .int .u8 k2, .int .i64 m2, .int .i64 e2, .int .i64 d2, .int .i64 t2] 29)) dq osq)).r.c0
  have c2 : ∀ dq osq, (Sort.grow (redrawn (w.alloc (.cells #[.string std, .string dst, .int .i64 off, .int .i64 dstOff, .int .u8 k1, .int .i64 m1, .int .i64 e1, .int .i64 d1, .int .i64 t1, .int .u8 k2, .int .i64 m2, .int .i64 e2, .int .i64 d2, .int .i64 t2] 29)) dq) osq).cell? ⟨w.heap.size, 2, none⟩ = some (.int .i64 off) := fun dq osq => (K0.out.keep (below_regrown (w.alloc (.cells #[.string std, .string dst, .int .i64 off, .int .i64 dstOff, .int .u8 k1, .int .i64 m1, .int .i64 e1, .int .i64 d1, .int .i64 t1, .int .u8 k2, .int .i64 m2, .int .i64 e2, .int .i64 d2, .int .i64 t2] 29)) dq osq)).r.c2
  refine wp_region_quiet_below (by kernel_rfl) (by kernel_rfl) ?_
  repeat (first | go_big_quiet_step (first | (go_at_call 31; with_reducible exact Calls.regrown_of (H1.out _ (K0.out.keep (below_regrown (w.alloc (.cells #[.string std, .string dst, .int .i64 off, .int .i64 dstOff, .int .u8 k1, .int .i64 m1, .int .i64 e1, .int .i64 d1, .int .i64 t1, .int .u8 k2, .int .i64 m2, .int .i64 e2, .int .i64 d2, .int .i64 t2] 29)) _ _)).p)) | (go_at_call 32; with_reducible exact Calls.regrown_of (H2.out _ (K0.out.keep (below_regrown (w.alloc (.cells #[.string std, .string dst, .int .i64 off, .int .i64 dstOff, .int .u8 k1, .int .i64 m1, .int .i64 e1, .int .i64 d1, .int .i64 t1, .int .u8 k2, .int .i64 m2, .int .i64 e2, .int .i64 d2, .int .i64 t2] 29)) _ _)).p))) | quiet_step (first | (go_at_call 31; with_reducible exact Calls.regrown_of (H1.out _ (K0.out.keep (below_regrown (w.alloc (.cells #[.string std, .string dst, .int .i64 off, .int .i64 dstOff, .int .u8 k1, .int .i64 m1, .int .i64 e1, .int .i64 d1, .int .i64 t1, .int .u8 k2, .int .i64 m2, .int .i64 e2, .int .i64 d2, .int .i64 t2] 29)) _ _)).p)) | (go_at_call 32; with_reducible exact Calls.regrown_of (H2.out _ (K0.out.keep (below_regrown (w.alloc (.cells #[.string std, .string dst, .int .i64 off, .int .i64 dstOff, .int .u8 k1, .int .i64 m1, .int .i64 e1, .int .i64 d1, .int .i64 t1, .int .u8 k2, .int .i64 m2, .int .i64 e2, .int .i64 d2, .int .i64 t2] 29)) _ _)).p))))
  refine wpQuiet_nil ?_
  intro V1 hV
  have K2 := Lib.hid (K0.out.keep (below_class hV))
  clear hV c0 c2
  have q1 := K2.out.r.c1
  go_wp2_with (first
    | (go_at_call 31; refine (H3.out _ K2.out).mono ?_; clear H3 q1; rintro e V2 ⟨rfl, hk⟩; have K3 := Lib.hid hk; clear hk; have q3 := K3.out.r.c3; have q2 := K3.out.r.c2)
    | fail)
  have c4 : ∀ dq osq, (Sort.grow (redrawn V2 dq) osq).cell? ⟨w.heap.size, 4, none⟩ = some (.int .u8 k1) := fun dq osq => (K3.out.keep (below_regrown V2 dq osq)).r.c4
  have c5 : ∀ dq osq, (Sort.grow (redrawn V2 dq) osq).cell? ⟨w.heap.size, 5, none⟩ = some (.int .i64 m1) := fun dq osq => (K3.out.keep (below_regrown V2 dq osq)).r.c5
  have c6 : ∀ dq osq, (Sort.grow (redrawn V2 dq) osq).cell? ⟨w.heap.size, 6, none⟩ = some (.int .i64 e1) := fun dq osq => (K3.out.keep (below_regrown V2 dq osq)).r.c6
  have c7 : ∀ dq osq, (Sort.grow (redrawn V2 dq) osq).cell? ⟨w.heap.size, 7, none⟩ = some (.int .i64 d1) := fun dq osq => (K3.out.keep (below_regrown V2 dq osq)).r.c7
  have c8 : ∀ dq osq, (Sort.grow (redrawn V2 dq) osq).cell? ⟨w.heap.size, 8, none⟩ = some (.int .i64 t1) := fun dq osq => (K3.out.keep (below_regrown V2 dq osq)).r.c8
  have c9 : ∀ dq osq, (Sort.grow (redrawn V2 dq) osq).cell? ⟨w.heap.size, 9, none⟩ = some (.int .u8 k2) := fun dq osq => (K3.out.keep (below_regrown V2 dq osq)).r.c9
  have c10 : ∀ dq osq, (Sort.grow (redrawn V2 dq) osq).cell? ⟨w.heap.size, 10, none⟩ = some (.int .i64 m2) := fun dq osq => (K3.out.keep (below_regrown V2 dq osq)).r.c10
  have c11 : ∀ dq osq, (Sort.grow (redrawn V2 dq) osq).cell? ⟨w.heap.size, 11, none⟩ = some (.int .i64 e2) := fun dq osq => (K3.out.keep (below_regrown V2 dq osq)).r.c11
  have c12 : ∀ dq osq, (Sort.grow (redrawn V2 dq) osq).cell? ⟨w.heap.size, 12, none⟩ = some (.int .i64 d2) := fun dq osq => (K3.out.keep (below_regrown V2 dq osq)).r.c12
  have c13 : ∀ dq osq, (Sort.grow (redrawn V2 dq) osq).cell? ⟨w.heap.size, 13, none⟩ = some (.int .i64 t2) := fun dq osq => (K3.out.keep (below_regrown V2 dq osq)).r.c13
  refine wp_region_quiet_below (by kernel_rfl) (by kernel_rfl) ?_
  repeat (first | go_big_quiet_step (first | (go_at_call 33; with_reducible exact Calls.regrown_of (H5.out _ (K3.out.keep (below_regrown V2 _ _)).p)) | (go_at_call 33; with_reducible exact Calls.regrown_of (H6.out _ (K3.out.keep (below_regrown V2 _ _)).p))) | quiet_step (first | (go_at_call 33; with_reducible exact Calls.regrown_of (H5.out _ (K3.out.keep (below_regrown V2 _ _)).p)) | (go_at_call 33; with_reducible exact Calls.regrown_of (H6.out _ (K3.out.keep (below_regrown V2 _ _)).p))))
  refine wpQuiet_nil ?_
  intro V5 hV
  have K6 := Lib.hid (K3.out.keep (below_class hV))
  clear hV
  go_wp2
  go_ret
  exact ⟨rfl, K6.out.b⟩
set_option maxHeartbeats 1600000 in
theorem rtext_c (r : Rl) (hs : r.dst.toList.isEmpty = false) (n1 : nameB r.std.data.toList = true) (o1 : offB r.off = true) (n2 : nameB r.dst.data.toList = true) (b1 : dayB r.start = true) (b2 : dayB r.end_ = true) (o2 : offB r.dstOff = true) (hd : ¬ r.dstOff = r.off + 3600) (w : World) (hp : Pw w) : Calls Tryd.prog 14 #[rlV r] w fun e w' => e = .returned (.string (bs ((((((txA r ++ namL r.dst.data.toList) ++ timL (-r.dstOff)) ++ [44]) ++ dayL r.start) ++ [44]) ++ dayL r.end_))) ∧ Below w.heap.size w w' := by
  obtain ⟨x1, x2, x3⟩ := neg_off o1
  have L0 := name_len n1
  have L1 := nam_len r.std.data.toList
  have L2 := tim_len _ x2 x3
  have LA : (txA r).length ≤ 40 := by unfold txA; rw [List.length_append]; omega
  have H1 : Hid (∀ V, Pw V → Calls Tryd.prog 31 #[.string r.std] V fun e w' => e = .returned (.string (bs (namL r.std.data.toList))) ∧ Below V.heap.size V w') := Lib.hid fun V hV => by have := rput_b r.std.data.toList (by omega) V; rwa [bs_of] at this
  have H2 : Hid (∀ V, Pw V → Calls Tryd.prog 32 #[.int .i64 (-r.off)] V fun e w' => e = .returned (.string (bs (timL (-r.off)))) ∧ Below V.heap.size V w') := Lib.hid fun V hV => rhours_any _ x2 x3 V
  have a1 : ∀ W, (Op.stringOp .add (bs (namL r.std.data.toList)) (bs (timL (-r.off)))).run Tryd.prog W = .ok (.string (bs (txA r))) W := add_bs _ _ _ rfl (by omega)
  have L3 := name_len n2
  have L4 := nam_len r.dst.data.toList
  have L6 := day_len _ b1
  have L7 := day_len _ b2
  have LB : (txA r ++ namL r.dst.data.toList).length ≤ 60 := by rw [List.length_append]; omega
  have H3 : Hid (∀ V, Xk w V r → Calls Tryd.prog 31 #[.string r.dst] V fun e w' => e = .returned (.string (bs (namL r.dst.data.toList))) ∧ Xk w w' r) := Lib.hid fun V hV => by have := rput_b r.dst.data.toList (by omega) V; rw [bs_of] at this; exact this.mono fun _ _ ⟨he, hb⟩ => ⟨he, hV.keep hb⟩
  have H5 : Hid (∀ V, Pw V → Calls Tryd.prog 33 #[dyV r.start] V fun e w' => e = .returned (.string (bs (dayL r.start))) ∧ Below V.heap.size V w') := Lib.hid fun V hV => rdtext_any _ b1 V hV
  have H6 : Hid (∀ V, Pw V → Calls Tryd.prog 33 #[dyV r.end_] V fun e w' => e = .returned (.string (bs (dayL r.end_))) ∧ Below V.heap.size V w') := Lib.hid fun V hV => rdtext_any _ b2 V hV
  have a2 : ∀ W, (Op.stringOp .add (bs (txA r)) (bs (namL r.dst.data.toList))).run Tryd.prog W = .ok (.string (bs (txA r ++ namL r.dst.data.toList))) W := add_bs _ _ _ rfl (by omega)
  have x4 := add_off o1
  obtain ⟨y1, y2, y3⟩ := neg_off o2
  have L5 := tim_len _ y2 y3
  have LC : ((txA r ++ namL r.dst.data.toList) ++ timL (-r.dstOff)).length ≤ 100 := by rw [List.length_append]; omega
  have H4 : Hid (∀ V, Xk w V r → Calls Tryd.prog 32 #[.int .i64 (-r.dstOff)] V fun e w' => e = .returned (.string (bs (timL (-r.dstOff)))) ∧ Xk w w' r) := Lib.hid fun V hV => (rhours_any _ y2 y3 V).mono fun _ _ ⟨he, hb⟩ => ⟨he, hV.keep hb⟩
  have a3 : ∀ W, (Op.stringOp .add (bs (txA r ++ namL r.dst.data.toList)) (bs (timL (-r.dstOff)))).run Tryd.prog W = .ok (.string (bs ((txA r ++ namL r.dst.data.toList) ++ timL (-r.dstOff)))) W := add_bs _ _ _ rfl (by omega)
  have hb : (r.dstOff != r.off + 3600) = true := bne_iff_ne.mpr hd
  have LD := app_len LC (show ([44] : List UInt8).length ≤ 1 from Nat.le_refl _)
  have LE := app_len LD L6
  have LF := app_len LE (show ([44] : List UInt8).length ≤ 1 from Nat.le_refl _)
  have LG := app_len LF L7
  have a4 : ∀ W, (Op.stringOp .add (bs ((txA r ++ namL r.dst.data.toList) ++ timL (-r.dstOff))) (bs [44])).run Tryd.prog W = .ok (.string (bs (((txA r ++ namL r.dst.data.toList) ++ timL (-r.dstOff)) ++ [44]))) W := add_bs _ [44] _ rfl (Nat.le_trans LD (by decide))
  have a5 : ∀ W, (Op.stringOp .add (bs (((txA r ++ namL r.dst.data.toList) ++ timL (-r.dstOff)) ++ [44])) (bs (dayL r.start))).run Tryd.prog W = .ok (.string (bs ((((txA r ++ namL r.dst.data.toList) ++ timL (-r.dstOff)) ++ [44]) ++ dayL r.start))) W := add_bs _ _ _ rfl (Nat.le_trans LE (by decide))
  have a6 : ∀ W, (Op.stringOp .add (bs ((((txA r ++ namL r.dst.data.toList) ++ timL (-r.dstOff)) ++ [44]) ++ dayL r.start)) (bs [44])).run Tryd.prog W = .ok (.string (bs (((((txA r ++ namL r.dst.data.toList) ++ timL (-r.dstOff)) ++ [44]) ++ dayL r.start) ++ [44]))) W := add_bs _ [44] _ rfl (Nat.le_trans LF (by decide))
  have a7 : ∀ W, (Op.stringOp .add (bs (((((txA r ++ namL r.dst.data.toList) ++ timL (-r.dstOff)) ++ [44]) ++ dayL r.start) ++ [44])) (bs (dayL r.end_))).run Tryd.prog W = .ok (.string (bs ((((((txA r ++ namL r.dst.data.toList) ++ timL (-r.dstOff)) ++ [44]) ++ dayL r.start) ++ [44]) ++ dayL r.end_))) W := add_bs _ _ _ rfl (Nat.le_trans LG (by decide))
  have K0 := Lib.hid (Xk.start hp r 29)
  clear n1 o1 x2 x3 L0 L1 L2 LA hp n2 b1 b2 L3 L4 L6 L7 LB o2 y2 y3 L5 LC hd LD LE LF LG
  generalize bs ((((((txA r ++ namL r.dst.data.toList) ++ timL (-r.dstOff)) ++ [44]) ++ dayL r.start) ++ [44]) ++ dayL r.end_) = S9 at *
  generalize bs (((((txA r ++ namL r.dst.data.toList) ++ timL (-r.dstOff)) ++ [44]) ++ dayL r.start) ++ [44]) = S8 at *
  generalize bs ((((txA r ++ namL r.dst.data.toList) ++ timL (-r.dstOff)) ++ [44]) ++ dayL r.start) = S7 at *
  generalize bs (((txA r ++ namL r.dst.data.toList) ++ timL (-r.dstOff)) ++ [44]) = S6 at *
  generalize bs ((txA r ++ namL r.dst.data.toList) ++ timL (-r.dstOff)) = S5 at *
  generalize bs (timL (-r.dstOff)) = T2 at *
  generalize bs (txA r ++ namL r.dst.data.toList) = S4 at *
  generalize bs (namL r.dst.data.toList) = N2 at *
  generalize bs (dayL r.start) = D1 at *
  generalize bs (dayL r.end_) = D2 at *
  generalize bs (txA r) = S3 at *
  generalize bs (namL r.std.data.toList) = N1 at *
  generalize bs (timL (-r.off)) = T1 at *
  obtain ⟨std, dst, off, dstOff, ⟨k1, m1, e1, d1, t1⟩, ⟨k2, m2, e2, d2, t2⟩⟩ := r
  simp only at *
  go_enter Tryd.func14, Tryd.ntmps14
  go_wp2_with fail
  have c0 : ∀ dq osq, (Sort.grow (redrawn (w.alloc (.cells #[.string std, .string dst, .int .i64 off, .int .i64 dstOff, .int .u8 k1, .int .i64 m1, .int .i64 e1, .int .i64 d1, .int .i64 t1, .int .u8 k2, .int .i64 m2, .int .i64 e2, .int .i64 d2, .int .i64 t2] 29)) dq) osq).cell? ⟨w.heap.size, 0, none⟩ = some (.string std) := fun dq osq => (K0.out.keep (below_regrown (w.alloc (.cells #[.string std, .string dst, .int .i64 off, .int .i64 dstOff, .int .u8 k1, .int .i64 m1, .int .i64 e1, .int .i64 d1, .int .i64 t1, .int .u8 k2, .int .i64 m2, .int .i64 e2, .int .i64 d2, .int .i64 t2] 29)) dq osq)).r.c0
  have c2 : ∀ dq osq, (Sort.grow (redrawn (w.alloc (.cells #[.string std, .string dst, .int .i64 off, .int .i64 dstOff, .int .u8 k1, .int .i64 m1, .int .i64 e1, .int .i64 d1, .int .i64 t1, .int .u8 k2, .int .i64 m2, .int .i64 e2, .int .i64 d2, .int .i64 t2] 29)) dq) osq).cell? ⟨w.heap.size, 2, none⟩ = some (.int .i64 off) := fun dq osq => (K0.out.keep (below_regrown (w.alloc (.cells #[.string std, .string dst, .int .i64 off, .int .i64 dstOff, .int .u8 k1, .int .i64 m1, .int .i64 e1, .int .i64 d1, .int .i64 t1, .int .u8 k2, .int .i64 m2, .int .i64 e2, .int .i64 d2, .int .i64 t2] 29)) dq osq)).r.c2
  refine wp_region_quiet_below (by kernel_rfl) (by kernel_rfl) ?_
  repeat (first | go_big_quiet_step (first | (go_at_call 31; with_reducible exact Calls.regrown_of (H1.out _ (K0.out.keep (below_regrown (w.alloc (.cells #[.string std, .string dst, .int .i64 off, .int .i64 dstOff, .int .u8 k1, .int .i64 m1, .int .i64 e1, .int .i64 d1, .int .i64 t1, .int .u8 k2, .int .i64 m2, .int .i64 e2, .int .i64 d2, .int .i64 t2] 29)) _ _)).p)) | (go_at_call 32; with_reducible exact Calls.regrown_of (H2.out _ (K0.out.keep (below_regrown (w.alloc (.cells #[.string std, .string dst, .int .i64 off, .int .i64 dstOff, .int .u8 k1, .int .i64 m1, .int .i64 e1, .int .i64 d1, .int .i64 t1, .int .u8 k2, .int .i64 m2, .int .i64 e2, .int .i64 d2, .int .i64 t2] 29)) _ _)).p))) | quiet_step (first | (go_at_call 31; with_reducible exact Calls.regrown_of (H1.out _ (K0.out.keep (below_regrown (w.alloc (.cells #[.string std, .string dst, .int .i64 off, .int .i64 dstOff, .int .u8 k1, .int .i64 m1, .int .i64 e1, .int .i64 d1, .int .i64 t1, .int .u8 k2, .int .i64 m2, .int .i64 e2, .int .i64 d2, .int .i64 t2] 29)) _ _)).p)) | (go_at_call 32; with_reducible exact Calls.regrown_of (H2.out _ (K0.out.keep (below_regrown (w.alloc (.cells #[.string std, .string dst, .int .i64 off, .int .i64 dstOff, .int .u8 k1, .int .i64 m1, .int .i64 e1, .int .i64 d1, .int .i64 t1, .int .u8 k2, .int .i64 m2, .int .i64 e2, .int .i64 d2, .int .i64 t2] 29)) _ _)).p))))
  refine wpQuiet_nil ?_
  intro V1 hV
  have K2 := Lib.hid (K0.out.keep (below_class hV))
  clear hV c0 c2
  have q1 := K2.out.r.c1
  go_wp2_with (first
    | (go_at_call 31; refine (H3.out _ K2.out).mono ?_; clear H3 q1; rintro e V2 ⟨rfl, hk⟩; have K3 := Lib.hid hk; clear hk; have q3 := K3.out.r.c3; have q2 := K3.out.r.c2)
    | (go_at_call 32; refine (H4.out _ K3.out).mono ?_; clear H4 q3 q2; rintro e V3 ⟨rfl, hk⟩; have K4 := Lib.hid hk; clear hk)
    | fail)
  have c4 : ∀ dq osq, (Sort.grow (redrawn V3 dq) osq).cell? ⟨w.heap.size, 4, none⟩ = some (.int .u8 k1) := fun dq osq => (K4.out.keep (below_regrown V3 dq osq)).r.c4
  have c5 : ∀ dq osq, (Sort.grow (redrawn V3 dq) osq).cell? ⟨w.heap.size, 5, none⟩ = some (.int .i64 m1) := fun dq osq => (K4.out.keep (below_regrown V3 dq osq)).r.c5
  have c6 : ∀ dq osq, (Sort.grow (redrawn V3 dq) osq).cell? ⟨w.heap.size, 6, none⟩ = some (.int .i64 e1) := fun dq osq => (K4.out.keep (below_regrown V3 dq osq)).r.c6
  have c7 : ∀ dq osq, (Sort.grow (redrawn V3 dq) osq).cell? ⟨w.heap.size, 7, none⟩ = some (.int .i64 d1) := fun dq osq => (K4.out.keep (below_regrown V3 dq osq)).r.c7
  have c8 : ∀ dq osq, (Sort.grow (redrawn V3 dq) osq).cell? ⟨w.heap.size, 8, none⟩ = some (.int .i64 t1) := fun dq osq => (K4.out.keep (below_regrown V3 dq osq)).r.c8
  have c9 : ∀ dq osq, (Sort.grow (redrawn V3 dq) osq).cell? ⟨w.heap.size, 9, none⟩ = some (.int .u8 k2) := fun dq osq => (K4.out.keep (below_regrown V3 dq osq)).r.c9
  have c10 : ∀ dq osq, (Sort.grow (redrawn V3 dq) osq).cell? ⟨w.heap.size, 10, none⟩ = some (.int .i64 m2) := fun dq osq => (K4.out.keep (below_regrown V3 dq osq)).r.c10
  have c11 : ∀ dq osq, (Sort.grow (redrawn V3 dq) osq).cell? ⟨w.heap.size, 11, none⟩ = some (.int .i64 e2) := fun dq osq => (K4.out.keep (below_regrown V3 dq osq)).r.c11
  have c12 : ∀ dq osq, (Sort.grow (redrawn V3 dq) osq).cell? ⟨w.heap.size, 12, none⟩ = some (.int .i64 d2) := fun dq osq => (K4.out.keep (below_regrown V3 dq osq)).r.c12
  have c13 : ∀ dq osq, (Sort.grow (redrawn V3 dq) osq).cell? ⟨w.heap.size, 13, none⟩ = some (.int .i64 t2) := fun dq osq => (K4.out.keep (below_regrown V3 dq osq)).r.c13
  refine wp_region_quiet_below (by kernel_rfl) (by kernel_rfl) ?_
  repeat (first | go_big_quiet_step (first | (go_at_call 33; with_reducible exact Calls.regrown_of (H5.out _ (K4.out.keep (below_regrown V3 _ _)).p)) | (go_at_call 33; with_reducible exact Calls.regrown_of (H6.out _ (K4.out.keep (below_regrown V3 _ _)).p))) | quiet_step (first | (go_at_call 33; with_reducible exact Calls.regrown_of (H5.out _ (K4.out.keep (below_regrown V3 _ _)).p)) | (go_at_call 33; with_reducible exact Calls.regrown_of (H6.out _ (K4.out.keep (below_regrown V3 _ _)).p))))
  refine wpQuiet_nil ?_
  intro V5 hV
  have K6 := Lib.hid (K4.out.keep (below_class hV))
  clear hV
  go_wp2
  go_ret
  exact ⟨rfl, K6.out.b⟩
theorem rtext_any (r : Rl) (hr : rightR r = true) (w : World) (hp : Pw w) : Calls Tryd.prog 14 #[rlV r] w fun e w' => e = .returned (.string (bs (txL r))) ∧ Below w.heap.size w w' := by
  have hq := hr
  unfold rightR at hq
  rw [Bool.and_eq_true, Bool.and_eq_true] at hq
  obtain ⟨n1, o1, hq⟩ := hq
  unfold txL
  by_cases hs : r.dst.size = 0
  · rw [if_pos hs]
    exact rtext_a r (by rw [dst_empty]; simp [hs]) n1 o1 w hp
  · rw [if_neg hs] at hq ⊢
    rw [Bool.and_eq_true, Bool.and_eq_true, Bool.and_eq_true] at hq
    obtain ⟨n2, o2, b1, b2⟩ := hq
    have hs2 : r.dst.toList.isEmpty = false := by rw [dst_empty]; simp [hs]
    unfold txB
    by_cases hd : r.dstOff = r.off + 3600
    · rw [if_pos hd]; exact rtext_b r hs2 n1 o1 n2 b1 b2 hd w hp
    · rw [if_neg hd]; exact rtext_c r hs2 n1 o1 n2 b1 b2 o2 hd w hp
end Go.Proofs.YtkfhipkcnocokaaDoor.Fo
