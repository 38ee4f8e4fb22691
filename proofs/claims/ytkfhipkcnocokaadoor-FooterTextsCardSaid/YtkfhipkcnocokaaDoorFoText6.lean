/-
  Layer 7 (footer): the texts of rules (ways by gen_fo7z.py).
-/
import Derived.Test.YtkfhipkcnocokaaDoorFoText5
namespace Go.Proofs.YtkfhipkcnocokaaDoor.Fo
open Go.RowKit
set_option maxRecDepth 100000

/-- A rule that came in, in its own block; the table. -/
structure Xk (w V : World) (r : Rl) : Prop where
  r : RlAt V w.heap.size r
  b : Below w.heap.size w V
  p : Pw V
theorem Xk.start {w : World} (hp : Pw w) (r : Rl) (t : TypeId) : Xk w (w.alloc (.cells #[.string r.std, .string r.dst, .int .i64 r.off, .int .i64 r.dstOff, .int .u8 r.start.kind, .int .i64 r.start.month, .int .i64 r.start.week, .int .i64 r.start.day, .int .i64 r.start.time, .int .u8 r.end_.kind, .int .i64 r.end_.month, .int .i64 r.end_.week, .int .i64 r.end_.day, .int .i64 r.end_.time] t)) r :=
  ⟨RlAt.new w r t, (Below.refl _ _).alloc (Nat.le_refl _) _, hp.keep ((Below.refl _ _).alloc (Nat.le_refl _) _)⟩
theorem Xk.keep {w V V' : World} {r : Rl} (h : Xk w V r) (hb : Below V.heap.size V V') : Xk w V' r := ⟨h.r.below hb h.r.lt, h.b.trans (hb.mono h.b.size), h.p.keep hb⟩
theorem neg_off {n : Int} (h : offB n = true) : wrap64 (-n) = -n ∧ -700000 ≤ -n ∧ -n ≤ 700000 := by
  unfold offB inB at h
  simp only [Bool.and_eq_true, decide_eq_true_eq] at h
  exact ⟨w_id (by omega) (by omega), by omega, by omega⟩
theorem add_off {n : Int} (h : offB n = true) : wrap64 (n + 3600) = n + 3600 := by
  unfold offB inB at h
  simp only [Bool.and_eq_true, decide_eq_true_eq] at h
  exact w_id (by omega) (by omega)
theorem name_len {l : List UInt8} (h : nameB l = true) : l.length ≤ 10 := by
  unfold nameB inB at h
  simp only [Bool.and_eq_true, decide_eq_true_eq] at h
  omega
theorem app_len {a b : List UInt8} {m n : Nat} (ha : a.length ≤ m) (hb : b.length ≤ n) : (a ++ b).length ≤ m + n := by rw [List.length_append]; exact Nat.add_le_add ha hb
/-- What a rule's text begins with; its text. -/
def txA (r : Rl) : List UInt8 := namL r.std.data.toList ++ timL (-r.off)
def txB (r : Rl) : List UInt8 := if r.dstOff = r.off + 3600 then txA r ++ namL r.dst.data.toList else (txA r ++ namL r.dst.data.toList) ++ timL (-r.dstOff)
def txL (r : Rl) : List UInt8 := if r.dst.size = 0 then txA r else (((txB r ++ [44]) ++ dayL r.start) ++ [44]) ++ dayL r.end_
set_option maxHeartbeats 800000 in
theorem text_w (r : Rl) (hr : rightR r = false) (w : World) : Calls Tryd.prog 11 #[rlV r] w fun e w' => e = .returned (.tuple #[.string ⟨#[]⟩, .int .i64 2]) ∧ Below w.heap.size w w' := by
  have H0 : Hid (∀ V, Wk w V r → Calls Tryd.prog 13 #[rlV r] V fun e w' => e = .returned (.bool false) ∧ Wk w w' r) := Lib.hid fun V hV => by have := right_any r V; rw [hr] at this; exact this.mono fun _ _ ⟨he, hb⟩ => ⟨he, hV.step hb⟩
  have K0 := Lib.hid (Wk.start w r 25)
  clear hr
  obtain ⟨std, dst, off, dstOff, ⟨k1, m1, e1, d1, t1⟩, ⟨k2, m2, e2, d2, t2⟩⟩ := r
  simp only at *
  go_enter Tryd.func11, Tryd.ntmps11
  go_wp2_with (first
    | (go_at_call 13; refine (H0.out _ K0.out).mono ?_; clear H0; rintro e V0 ⟨rfl, hk⟩; have K1 := Lib.hid hk; clear hk)
    | fail)
  go_ret2
  exact ⟨rfl, K1.out.b⟩
set_option maxHeartbeats 1600000 in
theorem text_a (r : Rl) (hr : rightR r = true) (hs : r.dst.toList.isEmpty = true) (n1 : nameB r.std.data.toList = true) (o1 : offB r.off = true) (w : World) (hp : Pw w) : Calls Tryd.prog 11 #[rlV r] w fun e w' => e = .returned (.tuple #[.string (bs (txA r)), .int .i64 0]) ∧ Below w.heap.size w w' := by
  obtain ⟨x1, x2, x3⟩ := neg_off o1
  have L0 := name_len n1
  have L1 := nam_len r.std.data.toList
  have L2 := tim_len _ x2 x3
  have LA : (txA r).length ≤ 40 := by unfold txA; rw [List.length_append]; omega
  have H0 : Hid (∀ V, Xk w V r → Calls Tryd.prog 13 #[rlV r] V fun e w' => e = .returned (.bool true) ∧ Xk w w' r) := Lib.hid fun V hV => by have := right_any r V; rw [hr] at this; exact this.mono fun _ _ ⟨he, hb⟩ => ⟨he, hV.keep hb⟩
  have H1 : Hid (∀ V, Pw V → Calls Tryd.prog 22 #[.string r.std] V fun e w' => e = .returned (.string (bs (namL r.std.data.toList))) ∧ Below V.heap.size V w') := Lib.hid fun V hV => by have := nput_any r.std.data.toList (by omega) V; rwa [bs_of] at this
  have H2 : Hid (∀ V, Pw V → Calls Tryd.prog 23 #[.int .i64 (-r.off)] V fun e w' => e = .returned (.string (bs (timL (-r.off)))) ∧ Below V.heap.size V w') := Lib.hid fun V hV => tput_any _ x2 x3 V hV
  have a1 : ∀ W, (Op.stringOp .add (bs (namL r.std.data.toList)) (bs (timL (-r.off)))).run Tryd.prog W = .ok (.string (bs (txA r))) W := add_bs _ _ _ rfl (by omega)
  have K0 := Lib.hid (Xk.start hp r 25)
  clear hr n1 o1 x2 x3 L0 L1 L2 LA hp
  generalize bs (txA r) = S3 at *
  generalize bs (namL r.std.data.toList) = N1 at *
  generalize bs (timL (-r.off)) = T1 at *
  obtain ⟨std, dst, off, dstOff, ⟨k1, m1, e1, d1, t1⟩, ⟨k2, m2, e2, d2, t2⟩⟩ := r
  simp only at *
  go_enter Tryd.func11, Tryd.ntmps11
  go_wp2_with (first
    | (go_at_call 13; refine (H0.out _ K0.out).mono ?_; clear H0; rintro e V0 ⟨rfl, hk⟩; have K1 := Lib.hid hk; clear hk)
    | fail)
  have c0 : ∀ dq osq, (Sort.grow (redrawn V0 dq) osq).cell? ⟨w.heap.size, 0, none⟩ = some (.string std) := fun dq osq => (K1.out.keep (below_regrown V0 dq osq)).r.c0
  have c2 : ∀ dq osq, (Sort.grow (redrawn V0 dq) osq).cell? ⟨w.heap.size, 2, none⟩ = some (.int .i64 off) := fun dq osq => (K1.out.keep (below_regrown V0 dq osq)).r.c2
  refine wp_region_quiet_below (by kernel_rfl) (by kernel_rfl) ?_
  repeat (first | go_big_quiet_step (first | (go_at_call 22; with_reducible exact Calls.regrown_of (H1.out _ (K1.out.keep (below_regrown V0 _ _)).p)) | (go_at_call 23; with_reducible exact Calls.regrown_of (H2.out _ (K1.out.keep (below_regrown V0 _ _)).p))) | quiet_step (first | (go_at_call 22; with_reducible exact Calls.regrown_of (H1.out _ (K1.out.keep (below_regrown V0 _ _)).p)) | (go_at_call 23; with_reducible exact Calls.regrown_of (H2.out _ (K1.out.keep (below_regrown V0 _ _)).p))))
  refine wpQuiet_nil ?_
  intro V1 hV
  have K2 := Lib.hid (K1.out.keep (below_class hV))
  clear hV c0 c2
  have q1 := K2.out.r.c1
  go_wp2
  go_ret2
  exact ⟨rfl, K2.out.b⟩
set_option maxHeartbeats 1600000 in
theorem text_b (r : Rl) (hr : rightR r = true) (hs : r.dst.toList.isEmpty = false) (n1 : nameB r.std.data.toList = true) (o1 : offB r.off = true) (n2 : nameB r.dst.data.toList = true) (b1 : dayB r.start = true) (b2 : dayB r.end_ = true) (hd : r.dstOff = r.off + 3600) (w : World) (hp : Pw w) : Calls Tryd.prog 11 #[rlV r] w fun e w' => e = .returned (.tuple #[.string (bs (((((txA r ++ namL r.dst.data.toList) ++ [44]) ++ dayL r.start) ++ [44]) ++ dayL r.end_)), .int .i64 0]) ∧ Below w.heap.size w w' := by
  obtain ⟨x1, x2, x3⟩ := neg_off o1
  have L0 := name_len n1
  have L1 := nam_len r.std.data.toList
  have L2 := tim_len _ x2 x3
  have LA : (txA r).length ≤ 40 := by unfold txA; rw [List.length_append]; omega
  have H0 : Hid (∀ V, Xk w V r → Calls Tryd.prog 13 #[rlV r] V fun e w' => e = .returned (.bool true) ∧ Xk w w' r) := Lib.hid fun V hV => by have := right_any r V; rw [hr] at this; exact this.mono fun _ _ ⟨he, hb⟩ => ⟨he, hV.keep hb⟩
  have H1 : Hid (∀ V, Pw V → Calls Tryd.prog 22 #[.string r.std] V fun e w' => e = .returned (.string (bs (namL r.std.data.toList))) ∧ Below V.heap.size V w') := Lib.hid fun V hV => by have := nput_any r.std.data.toList (by omega) V; rwa [bs_of] at this
  have H2 : Hid (∀ V, Pw V → Calls Tryd.prog 23 #[.int .i64 (-r.off)] V fun e w' => e = .returned (.string (bs (timL (-r.off)))) ∧ Below V.heap.size V w') := Lib.hid fun V hV => tput_any _ x2 x3 V hV
  have a1 : ∀ W, (Op.stringOp .add (bs (namL r.std.data.toList)) (bs (timL (-r.off)))).run Tryd.prog W = .ok (.string (bs (txA r))) W := add_bs _ _ _ rfl (by omega)
  have L3 := name_len n2
  have L4 := nam_len r.dst.data.toList
  have L6 := day_len _ b1
  have L7 := day_len _ b2
  have LB : (txA r ++ namL r.dst.data.toList).length ≤ 60 := by rw [List.length_append]; omega
  have H3 : Hid (∀ V, Xk w V r → Calls Tryd.prog 22 #[.string r.dst] V fun e w' => e = .returned (.string (bs (namL r.dst.data.toList))) ∧ Xk w w' r) := Lib.hid fun V hV => by have := nput_any r.dst.data.toList (by omega) V; rw [bs_of] at this; exact this.mono fun _ _ ⟨he, hb⟩ => ⟨he, hV.keep hb⟩
  have H5 : Hid (∀ V, Pw V → Calls Tryd.prog 24 #[dyV r.start] V fun e w' => e = .returned (.string (bs (dayL r.start))) ∧ Below V.heap.size V w') := Lib.hid fun V hV => dput_any _ b1 V hV
  have H6 : Hid (∀ V, Pw V → Calls Tryd.prog 24 #[dyV r.end_] V fun e w' => e = .returned (.string (bs (dayL r.end_))) ∧ Below V.heap.size V w') := Lib.hid fun V hV => dput_any _ b2 V hV
  have a2 : ∀ W, (Op.stringOp .add (bs (txA r)) (bs (namL r.dst.data.toList))).run Tryd.prog W = .ok (.string (bs (txA r ++ namL r.dst.data.toList))) W := add_bs _ _ _ rfl (by omega)
  have x4 := add_off o1
  have LC : (txA r ++ namL r.dst.data.toList).length ≤ 100 := by omega
  have hb : (r.dstOff != r.off + 3600) = false := by rw [hd]; exact bne_self_eq_false _
  have LD := app_len LC (show ([44] : List UInt8).length ≤ 1 from Nat.le_refl _)
  have LE := app_len LD L6
  have LF := app_len LE (show ([44] : List UInt8).length ≤ 1 from Nat.le_refl _)
  have LG := app_len LF L7
  have a4 : ∀ W, (Op.stringOp .add (bs (txA r ++ namL r.dst.data.toList)) (bs [44])).run Tryd.prog W = .ok (.string (bs ((txA r ++ namL r.dst.data.toList) ++ [44]))) W := add_bs _ [44] _ rfl (Nat.le_trans LD (by decide))
  have a5 : ∀ W, (Op.stringOp .add (bs ((txA r ++ namL r.dst.data.toList) ++ [44])) (bs (dayL r.start))).run Tryd.prog W = .ok (.string (bs (((txA r ++ namL r.dst.data.toList) ++ [44]) ++ dayL r.start))) W := add_bs _ _ _ rfl (Nat.le_trans LE (by decide))
  have a6 : ∀ W, (Op.stringOp .add (bs (((txA r ++ namL r.dst.data.toList) ++ [44]) ++ dayL r.start)) (bs [44])).run Tryd.prog W = .ok (.string (bs ((((txA r ++ namL r.dst.data.toList) ++ [44]) ++ dayL r.start) ++ [44]))) W := add_bs _ [44] _ rfl (Nat.le_trans LF (by decide))
  have a7 : ∀ W, (Op.stringOp .add (bs ((((txA r ++ namL r.dst.data.toList) ++ [44]) ++ dayL r.start) ++ [44])) (bs (dayL r.end_))).run Tryd.prog W = .ok (.string (bs (((((txA r ++ namL r.dst.data.toList) ++ [44]) ++ dayL r.start) ++ [44]) ++ dayL r.end_))) W := add_bs _ _ _ rfl (Nat.le_trans LG (by decide))
  have K0 := Lib.hid (Xk.start hp r 25)
  clear hr n1 o1 x2 x3 L0 L1 L2 LA hp n2 b1 b2 L3 L4 L6 L7 LB LC hd LD LE LF LG
  generalize bs (((((txA r ++ namL r.dst.data.toList) ++ [44]) ++ dayL r.start) ++ [44]) ++ dayL r.end_) = S9 at *
  generalize bs ((((txA r ++ namL r.dst.data.toList) ++ [44]) ++ dayL r.start) ++ [44]) = S8 at *
  generalize bs (((txA r ++ namL r.dst.data.toList) ++ [44]) ++ dayL r.start) = S7 at *
  generalize bs ((txA r ++ namL r.dst.data.toList) ++ [44]) = S6 at *
  generalize bs (txA r ++ namL r.dst.data.toList) = S4 at *
  generalize bs (namL r.dst.data.toList) = N2 at *
  generalize bs (dayL r.start) = D1 at *
  generalize bs (dayL r.end_) = D2 at *
  generalize bs (txA r) = S3 at *
  generalize bs (namL r.std.data.toList) = N1 at *
  generalize bs (timL (-r.off)) = T1 at *
  obtain ⟨std, dst, off, dstOff, ⟨k1, m1, e1, d1, t1⟩, ⟨k2, m2, e2, d2, t2⟩⟩ := r
  simp only at *
  go_enter Tryd.func11, Tryd.ntmps11
  go_wp2_with (first
    | (go_at_call 13; refine (H0.out _ K0.out).mono ?_; clear H0; rintro e V0 ⟨rfl, hk⟩; have K1 := Lib.hid hk; clear hk)
    | fail)
  have c0 : ∀ dq osq, (Sort.grow (redrawn V0 dq) osq).cell? ⟨w.heap.size, 0, none⟩ = some (.string std) := fun dq osq => (K1.out.keep (below_regrown V0 dq osq)).r.c0
  have c2 : ∀ dq osq, (Sort.grow (redrawn V0 dq) osq).cell? ⟨w.heap.size, 2, none⟩ = some (.int .i64 off) := fun dq osq => (K1.out.keep (below_regrown V0 dq osq)).r.c2
  refine wp_region_quiet_below (by kernel_rfl) (by kernel_rfl) ?_
  repeat (first | go_big_quiet_step (first | (go_at_call 22; with_reducible exact Calls.regrown_of (H1.out _ (K1.out.keep (below_regrown V0 _ _)).p)) | (go_at_call 23; with_reducible exact Calls.regrown_of (H2.out _ (K1.out.keep (below_regrown V0 _ _)).p))) | quiet_step (first | (go_at_call 22; with_reducible exact Calls.regrown_of (H1.out _ (K1.out.keep (below_regrown V0 _ _)).p)) | (go_at_call 23; with_reducible exact Calls.regrown_of (H2.out _ (K1.out.keep (below_regrown V0 _ _)).p))))
  refine wpQuiet_nil ?_
  intro V1 hV
  have K2 := Lib.hid (K1.out.keep (below_class hV))
  clear hV c0 c2
  have q1 := K2.out.r.c1
  go_wp2_with (first
    | (go_at_call 22; refine (H3.out _ K2.out).mono ?_; clear H3 q1; rintro e V2 ⟨rfl, hk⟩; have K3 := Lib.hid hk; clear hk; have q3 := K3.out.r.c3; have q2 := K3.out.r.c2)
    | fail)
  have c4 : ∀ dq osq, (Sort.grow (redrawn V2 dq) osq).cell? ⟨w.heap.size, 4, none⟩ = some (.int .u8 k1) := fun dq osq => (K3.out.keep (below_regrown V2 dq osq)).r.c4
  have c5 : ∀ dq osq, (Sort.grow (redrawn V2 dq) osq).cell? ⟨w.heap.size, 5, none⟩ = some (.int .i64 m1) := fun dq osq => (K3.out.keep (below_regrown V2 dq osq)).r.c5
  have c6 : ∀ dq osq, (Sort.grow (redrawn V2 dq) osq).cell? ⟨w.heap.size, 6, none⟩ = some (.int .i64 e1) := fun dq osq => (K3.out.keep (below_regrown V2 dq osq)).r.c6
  have c7 : ∀ dq osq, (Sort.grow (redrawn V2 dq) osq).cell? ⟨w.heap.size, 7, none⟩ = some (.int .i64 d1) := fun dq osq => (K3.out.keep (below_regrown V2 dq osq)).r.c7
  have c8 : ∀ dq osq, (Sort.grow (redrawn V2 dq) osq).cell? ⟨w.heap.size, 8, none⟩ = some (.int .i64 t1) := fun dq osq => (K3.out.keep (below_regrown V2 dq osq)).r.c8
  have c9 : ∀ dq osq, (Sort.grow (redrawn V2 dq) osq).cell? ⟨w.heap.size, 9, none⟩ = some (.int .u8 k2) := fun dq osq => (K3.out.keep (below_regrown V2 dq osq)).r.c9
  have c10 : ∀ dq osq, (Sort.grow (redrawn V2 dq) osq).cell? ⟨w.heap.size, 10, none⟩ = some (.int .i64 m2) := fun dq osq => (K3.out.keep (below_regrown V2 dq osq)).r.c10
  have c11 : ∀ dq osq, (Sort.grow (redrawn V2 dq) osq).cell? ⟨w.heap.size, 11, none⟩ = some (.int .i64 e2) := fun dq osq => (K3.out.keep (below_regrown V2 dq osq)).r.c11
  have c12 : ∀ dq osq, (Sort.grow (redrawn V2 dq) osq).cell? ⟨w.heap.size, 12, none⟩ = some (.int .i64 d2) := fun dq osq => (K3.out.keep (below_regrown V2 dq osq)).r.c12
  have c13 : ∀ dq osq, (Sort.grow (redrawn V2 dq) osq).cell? ⟨w.heap.size, 13, none⟩ = some (.int .i64 t2) := fun dq osq => (K3.out.keep (below_regrown V2 dq osq)).r.c13
  refine wp_region_quiet_below (by kernel_rfl) (by kernel_rfl) ?_
  repeat (first | go_big_quiet_step (first | (go_at_call 24; with_reducible exact Calls.regrown_of (H5.out _ (K3.out.keep (below_regrown V2 _ _)).p)) | (go_at_call 24; with_reducible exact Calls.regrown_of (H6.out _ (K3.out.keep (below_regrown V2 _ _)).p))) | quiet_step (first | (go_at_call 24; with_reducible exact Calls.regrown_of (H5.out _ (K3.out.keep (below_regrown V2 _ _)).p)) | (go_at_call 24; with_reducible exact Calls.regrown_of (H6.out _ (K3.out.keep (below_regrown V2 _ _)).p))))
  refine wpQuiet_nil ?_
  intro V5 hV
  have K6 := Lib.hid (K3.out.keep (below_class hV))
  clear hV
  go_wp2
  go_ret2
  exact ⟨rfl, K6.out.b⟩
set_option maxHeartbeats 1600000 in
theorem text_c (r : Rl) (hr : rightR r = true) (hs : r.dst.toList.isEmpty = false) (n1 : nameB r.std.data.toList = true) (o1 : offB r.off = true) (n2 : nameB r.dst.data.toList = true) (b1 : dayB r.start = true) (b2 : dayB r.end_ = true) (o2 : offB r.dstOff = true) (hd : ¬ r.dstOff = r.off + 3600) (w : World) (hp : Pw w) : Calls Tryd.prog 11 #[rlV r] w fun e w' => e = .returned (.tuple #[.string (bs ((((((txA r ++ namL r.dst.data.toList) ++ timL (-r.dstOff)) ++ [44]) ++ dayL r.start) ++ [44]) ++ dayL r.end_)), .int .i64 0]) ∧ Below w.heap.size w w' := by
  obtain ⟨x1, x2, x3⟩ := neg_off o1
  have L0 := name_len n1
  have L1 := nam_len r.std.data.toList
  have L2 := tim_len _ x2 x3
  have LA : (txA r).length ≤ 40 := by unfold txA; rw [List.length_append]; omega
  have H0 : Hid (∀ V, Xk w V r → Calls Tryd.prog 13 #[rlV r] V fun e w' => e = .returned (.bool true) ∧ Xk w w' r) := Lib.hid fun V hV => by have := right_any r V; rw [hr] at this; exact this.mono fun _ _ ⟨he, hb⟩ => ⟨he, hV.keep hb⟩
  have H1 : Hid (∀ V, Pw V → Calls Tryd.prog 22 #[.string r.std] V fun e w' => e = .returned (.string (bs (namL r.std.data.toList))) ∧ Below V.heap.size V w') := Lib.hid fun V hV => by have := nput_any r.std.data.toList (by omega) V; rwa [bs_of] at this
  have H2 : Hid (∀ V, Pw V → Calls Tryd.prog 23 #[.int .i64 (-r.off)] V fun e w' => e = .returned (.string (bs (timL (-r.off)))) ∧ Below V.heap.size V w') := Lib.hid fun V hV => tput_any _ x2 x3 V hV
  have a1 : ∀ W, (Op.stringOp .add (bs (namL r.std.data.toList)) (bs (timL (-r.off)))).run Tryd.prog W = .ok (.string (bs (txA r))) W := add_bs _ _ _ rfl (by omega)
  have L3 := name_len n2
  have L4 := nam_len r.dst.data.toList
  have L6 := day_len _ b1
  have L7 := day_len _ b2
  have LB : (txA r ++ namL r.dst.data.toList).length ≤ 60 := by rw [List.length_append]; omega
  have H3 : Hid (∀ V, Xk w V r → Calls Tryd.prog 22 #[.string r.dst] V fun e w' => e = .returned (.string (bs (namL r.dst.data.toList))) ∧ Xk w w' r) := Lib.hid fun V hV => by have := nput_any r.dst.data.toList (by omega) V; rw [bs_of] at this; exact this.mono fun _ _ ⟨he, hb⟩ => ⟨he, hV.keep hb⟩
  have H5 : Hid (∀ V, Pw V → Calls Tryd.prog 24 #[dyV r.start] V fun e w' => e = .returned (.string (bs (dayL r.start))) ∧ Below V.heap.size V w') := Lib.hid fun V hV => dput_any _ b1 V hV
  have H6 : Hid (∀ V, Pw V → Calls Tryd.prog 24 #[dyV r.end_] V fun e w' => e = .returned (.string (bs (dayL r.end_))) ∧ Below V.heap.size V w') := Lib.hid fun V hV => dput_any _ b2 V hV
  have a2 : ∀ W, (Op.stringOp .add (bs (txA r)) (bs (namL r.dst.data.toList))).run Tryd.prog W = .ok (.string (bs (txA r ++ namL r.dst.data.toList))) W := add_bs _ _ _ rfl (by omega)
  have x4 := add_off o1
  obtain ⟨y1, y2, y3⟩ := neg_off o2
  have L5 := tim_len _ y2 y3
  have LC : ((txA r ++ namL r.dst.data.toList) ++ timL (-r.dstOff)).length ≤ 100 := by rw [List.length_append]; omega
  have H4 : Hid (∀ V, Xk w V r → Calls Tryd.prog 23 #[.int .i64 (-r.dstOff)] V fun e w' => e = .returned (.string (bs (timL (-r.dstOff)))) ∧ Xk w w' r) := Lib.hid fun V hV => (tput_any _ y2 y3 V hV.p).mono fun _ _ ⟨he, hb⟩ => ⟨he, hV.keep hb⟩
  have a3 : ∀ W, (Op.stringOp .add (bs (txA r ++ namL r.dst.data.toList)) (bs (timL (-r.dstOff)))).run Tryd.prog W = .ok (.string (bs ((txA r ++ namL r.dst.data.toList) ++ timL (-r.dstOff)))) W := add_bs _ _ _ rfl (by omega)
  have hb : (r.dstOff != r.off + 3600) = true := bne_iff_ne.mpr hd
  have LD := app_len LC (show ([44] : List UInt8).length ≤ 1 from Nat.le_refl _)
  have LE := app_len LD L6
  have LF := app_len LE (show ([44] : List UInt8).length ≤ 1 from Nat.le_refl _)
  have LG := app_len LF L7
  have a4 : ∀ W, (Op.stringOp .add (bs ((txA r ++ namL r.dst.data.toList) ++ timL (-r.dstOff))) (bs [44])).run Tryd.prog W = .ok (.string (bs (((txA r ++ namL r.dst.data.toList) ++ timL (-r.dstOff)) ++ [44]))) W := add_bs _ [44] _ rfl (Nat.le_trans LD (by decide))
  have a5 : ∀ W, (Op.stringOp .add (bs (((txA r ++ namL r.dst.data.toList) ++ timL (-r.dstOff)) ++ [44])) (bs (dayL r.start))).run Tryd.prog W = .ok (.string (bs ((((txA r ++ namL r.dst.data.toList) ++ timL (-r.dstOff)) ++ [44]) ++ dayL r.start))) W := add_bs _ _ _ rfl (Nat.le_trans LE (by decide))
  have a6 : ∀ W, (Op.stringOp .add (bs ((((txA r ++ namL r.dst.data.toList) ++ timL (-r.dstOff)) ++ [44]) ++ dayL r.start)) (bs [44])).run Tryd.prog W = .ok (.string (bs (((((txA r ++ namL r.dst.data.toList) ++ timL (-r.dstOff)) ++ [44]) ++ dayL r.start) ++ [44]))) W := add_bs _ [44] _ rfl (Nat.le_trans LF (by decide))
  have a7 : ∀ W, (Op.stringOp .add (bs (((((txA r ++ namL r.dst.data.toList) ++ timL (-r.dstOff)) ++ [44]) ++ dayL r.start) ++ [44])) (bs (dayL r.end_))).run Tryd.prog W = .ok (.string (bs ((((((txA r ++ namL r.dst.data.toList) ++ timL (-r.dstOff)) ++ [44]) ++ dayL r.start) ++ [44]) ++ dayL r.end_))) W := add_bs _ _ _ rfl (Nat.le_trans LG (by decide))
  have K0 := Lib.hid (Xk.start hp r 25)
  clear hr n1 o1 x2 x3 L0 L1 L2 LA hp n2 b1 b2 L3 L4 L6 L7 LB o2 y2 y3 L5 LC hd LD LE LF LG
  generalize bs ((((((txA r ++ namL r.dst.data.toList) ++ timL (-r.dstOff)) ++ [44]) ++ dayL r.start) ++ [44]) ++ dayL r.end_) = S9 at *
  generalize bs (((((txA r ++ namL r.dst.data.toList) ++ timL (-r.dstOff)) ++ [44]) ++ dayL r.start) ++ [44]) = S8 at *
  generalize bs ((((txA r ++ namL r.dst.data.toList) ++ timL (-r.dstOff)) ++ [44]) ++ dayL r.start) = S7 at *
  generalize bs (((txA r ++ namL r.dst.data.toList) ++ timL (-r.dstOff)) ++ [44]) = S6 at *
  generalize bs ((txA r ++ namL r.dst.data.toList) ++ timL (-r.dstOff)) = S5 at *
  generalize bs (timL (-r.dstOff)) = T2 at *
  generalize bs (txA r ++ namL r.dst.data.toList) = S4 at *
  generalize bs (namL r.dst.data.toList) = N2 at *
  generalize bs (dayL r.start) = D1 at *
  generalize bs (dayL r.end_) = D2 at *
  generalize bs (txA r) = S3 at *
  generalize bs (namL r.std.data.toList) = N1 at *
  generalize bs (timL (-r.off)) = T1 at *
  obtain ⟨std, dst, off, dstOff, ⟨k1, m1, e1, d1, t1⟩, ⟨k2, m2, e2, d2, t2⟩⟩ := r
  simp only at *
  go_enter Tryd.func11, Tryd.ntmps11
  go_wp2_with (first
    | (go_at_call 13; refine (H0.out _ K0.out).mono ?_; clear H0; rintro e V0 ⟨rfl, hk⟩; have K1 := Lib.hid hk; clear hk)
    | fail)
  have c0 : ∀ dq osq, (Sort.grow (redrawn V0 dq) osq).cell? ⟨w.heap.size, 0, none⟩ = some (.string std) := fun dq osq => (K1.out.keep (below_regrown V0 dq osq)).r.c0
  have c2 : ∀ dq osq, (Sort.grow (redrawn V0 dq) osq).cell? ⟨w.heap.size, 2, none⟩ = some (.int .i64 off) := fun dq osq => (K1.out.keep (below_regrown V0 dq osq)).r.c2
  refine wp_region_quiet_below (by kernel_rfl) (by kernel_rfl) ?_
  repeat (first | go_big_quiet_step (first | (go_at_call 22; with_reducible exact Calls.regrown_of (H1.out _ (K1.out.keep (below_regrown V0 _ _)).p)) | (go_at_call 23; with_reducible exact Calls.regrown_of (H2.out _ (K1.out.keep (below_regrown V0 _ _)).p))) | quiet_step (first | (go_at_call 22; with_reducible exact Calls.regrown_of (H1.out _ (K1.out.keep (below_regrown V0 _ _)).p)) | (go_at_call 23; with_reducible exact Calls.regrown_of (H2.out _ (K1.out.keep (below_regrown V0 _ _)).p))))
  refine wpQuiet_nil ?_
  intro V1 hV
  have K2 := Lib.hid (K1.out.keep (below_class hV))
  clear hV c0 c2
  have q1 := K2.out.r.c1
  go_wp2_with (first
    | (go_at_call 22; refine (H3.out _ K2.out).mono ?_; clear H3 q1; rintro e V2 ⟨rfl, hk⟩; have K3 := Lib.hid hk; clear hk; have q3 := K3.out.r.c3; have q2 := K3.out.r.c2)
    | (go_at_call 23; refine (H4.out _ K3.out).mono ?_; clear H4 q3 q2; rintro e V3 ⟨rfl, hk⟩; have K4 := Lib.hid hk; clear hk)
    | fail)
  have c4 : ∀ dq osq, (Sort.grow (redrawn V3 dq) osq).cell? ⟨w.heap.size, 4, none⟩ = some (.int .u8 k1) := fun dq osq => (K4.out.keep (below_regrown V3 dq osq)).r.c4
  have c5 : ∀ dq osq, (Sort.grow (redrawn V3 dq) osq).cell? ⟨w.heap.size, 5, none⟩ = some (.int .i64 m1) := fun dq osq => (K4.out.keep (below_regrown V3 dq osq)).r.c5
  have c6 : ∀ dq osq, (Sort.grow (redrawn V3 dq) osq).cell? ⟨w.heap.size, 6, none⟩ = some (.int .i64 e1) := fun dq osq => (K4.out.keep (below_regrown V3 dq osq)).r.c6
  have c7 : ∀ dq osq, (Sort.grow (redrawn V3 dq) osq).cell? ⟨w.heap.size, 7, none⟩ = some (.int .i64 d1) := fun dq osq => (K4.out.keep (below_regrown V3 dq osq)).r.c7
  have c8 : ∀ dq osq, (Sort.grow (redrawn V3 dq) osq).cell? ⟨w.heap.size, 8, none⟩ = some (.int .i64 t1) := fun dq osq => (K4.out.keep (below_regrown V3 dq osq)).r.c8
  have c9 : ∀ dq osq, (Sort.grow (redrawn V3 dq) osq).cell? ⟨w.heap.size, 9, none⟩ = some (.int .u8 k2) := fun dq osq => (K4.out.keep (below_regrown V3 dq osq)).r.c9
  have c10 : ∀ dq osq, (Sort.grow (redrawn V3 dq) osq).cell? ⟨w.heap.size, 10, none⟩ = some (.int .i64 m2) := fun dq osq => (K4.out.keep (below_regrown V3 dq osq)).r.c10
  have c11 : ∀ dq osq, (Sort.grow (redrawn V3 dq) osq).cell? ⟨w.heap.size, 11, none⟩ = some (.int .i64 e2) := fun dq osq => (K4.out.keep (below_regrown V3 dq osq)).r.c11
  have c12 : ∀ dq osq, (Sort.grow (redrawn V3 dq) osq).cell? ⟨w.heap.size, 12, none⟩ = some (.int .i64 d2) := fun dq osq => (K4.out.keep (below_regrown V3 dq osq)).r.c12
  have c13 : ∀ dq osq, (Sort.grow (redrawn V3 dq) osq).cell? ⟨w.heap.size, 13, none⟩ = some (.int .i64 t2) := fun dq osq => (K4.out.keep (below_regrown V3 dq osq)).r.c13
  refine wp_region_quiet_below (by kernel_rfl) (by kernel_rfl) ?_
  repeat (first | go_big_quiet_step (first | (go_at_call 24; with_reducible exact Calls.regrown_of (H5.out _ (K4.out.keep (below_regrown V3 _ _)).p)) | (go_at_call 24; with_reducible exact Calls.regrown_of (H6.out _ (K4.out.keep (below_regrown V3 _ _)).p))) | quiet_step (first | (go_at_call 24; with_reducible exact Calls.regrown_of (H5.out _ (K4.out.keep (below_regrown V3 _ _)).p)) | (go_at_call 24; with_reducible exact Calls.regrown_of (H6.out _ (K4.out.keep (below_regrown V3 _ _)).p))))
  refine wpQuiet_nil ?_
  intro V5 hV
  have K6 := Lib.hid (K4.out.keep (below_class hV))
  clear hV
  go_wp2
  go_ret2
  exact ⟨rfl, K6.out.b⟩
/-- What Text answers. -/
def textE (r : Rl) : Value := if rightR r then .tuple #[.string (bs (txL r)), .int .i64 0] else .tuple #[.string ⟨#[]⟩, .int .i64 2]
theorem dst_empty {s : ByteArray} : s.toList.isEmpty = decide (s.size = 0) := by
  rw [Lib.toList_data]
  show s.data.toList.isEmpty = decide (s.data.size = 0)
  rw [← Array.length_toList]
  cases s.data.toList <;> simp
theorem text_any (r : Rl) (w : World) (hp : Pw w) : Calls Tryd.prog 11 #[rlV r] w fun e w' => e = .returned (textE r) ∧ Below w.heap.size w w' := by
  unfold textE
  cases hr : rightR r with
  | false => simp only [Bool.false_eq_true, if_false]; exact text_w r hr w
  | true =>
    simp only [if_true]
    have hq := hr
    unfold rightR at hq
    rw [Bool.and_eq_true, Bool.and_eq_true] at hq
    obtain ⟨n1, o1, hq⟩ := hq
    unfold txL
    by_cases hs : r.dst.size = 0
    · rw [if_pos hs]
      exact text_a r hr (by rw [dst_empty]; simp [hs]) n1 o1 w hp
    · rw [if_neg hs] at hq ⊢
      rw [Bool.and_eq_true, Bool.and_eq_true, Bool.and_eq_true] at hq
      obtain ⟨n2, o2, b1, b2⟩ := hq
      have hs2 : r.dst.toList.isEmpty = false := by rw [dst_empty]; simp [hs]
      unfold txB
      by_cases hd : r.dstOff = r.off + 3600
      · rw [if_pos hd]; exact text_b r hr hs2 n1 o1 n2 b1 b2 hd w hp
      · rw [if_neg hd]; exact text_c r hr hs2 n1 o1 n2 b1 b2 o2 hd w hp
end Go.Proofs.YtkfhipkcnocokaaDoor.Fo
