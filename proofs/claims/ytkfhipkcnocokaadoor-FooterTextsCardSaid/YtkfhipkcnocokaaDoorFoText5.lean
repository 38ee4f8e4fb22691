/-
  Layer 7 (footer): days as texts (ways by gen_fo7y.py).
-/
import Derived.Test.YtkfhipkcnocokaaDoorFoText4
import Derived.Test.YtkfhipkcnocokaaDoorFoSwitch2
namespace Go.Proofs.YtkfhipkcnocokaaDoor.Fo
open Go.RowKit
set_option maxRecDepth 100000

theorem itoa_int (n : Int) (h0 : 0 ≤ n) (h1 : n ≤ 1000) (w : World) (hp : Pw w) : Calls Tryd.prog 51 #[.int .i64 n] w fun e w' => e = .returned (.string (bs (dec n.toNat))) ∧ Below w.heap.size w w' := by
  have := itoa_any n.toNat (by omega) w hp
  rwa [Int.toNat_of_nonneg h0] at this
theorem dec_short (n : Int) (h0 : 0 ≤ n) (h1 : n ≤ 999) : (dec n.toNat).length ≤ 3 := dec_len 2 _ (by omega)
/-- A day that came in, in its own block; the table. -/
structure Yk (w V : World) (d : Dy) : Prop where
  d : DyAt V w.heap.size d
  b : Below w.heap.size w V
  p : Pw V
theorem Yk.start {w : World} (hp : Pw w) (d : Dy) (t : TypeId) : Yk w (w.alloc (.cells #[.int .u8 d.kind, .int .i64 d.month, .int .i64 d.week, .int .i64 d.day, .int .i64 d.time] t)) d :=
  ⟨DyAt.new w d t, (Below.refl _ _).alloc (Nat.le_refl _) _, hp.keep ((Below.refl _ _).alloc (Nat.le_refl _) _)⟩
theorem Yk.keep {w V V' : World} {d : Dy} (h : Yk w V d) (hb : Below V.heap.size V V') : Yk w V' d := ⟨h.d.keep hb, h.b.trans (hb.mono h.b.size), h.p.keep hb⟩
/-- A day's date, its time, both. -/
def datL (d : Dy) : List UInt8 :=
  if d.kind = 1 then 74 :: dec d.day.toNat
  else if d.kind = 2 then dec d.day.toNat
  else ((((77 :: dec d.month.toNat) ++ [46]) ++ dec d.week.toNat) ++ [46]) ++ dec d.day.toNat
def dayL (d : Dy) : List UInt8 := if d.time = 7200 then datL d else (datL d ++ [47]) ++ timL d.time
set_option maxHeartbeats 800000 in
theorem dput_j0 (mo wk dd : Int) (d1 : 0 ≤ dd) (d2 : dd ≤ 999)  (w : World) (hp : Pw w) : Calls Tryd.prog 24 #[dyV ⟨1, mo, wk, dd, 7200⟩] w fun e w' => e = .returned (.string (bs (74 :: dec dd.toNat))) ∧ Below w.heap.size w w' := by
  have L0 := dec_short dd d1 d2
  have H0 : Hid (∀ V, Yk w V ⟨1, mo, wk, dd, 7200⟩ → Calls Tryd.prog 51 #[.int .i64 dd] V fun e w' => e = .returned (.string (bs (dec dd.toNat))) ∧ Yk w w' ⟨1, mo, wk, dd, 7200⟩) := Lib.hid fun V hV => (itoa_int _ d1 (by omega) V hV.p).mono fun _ _ ⟨he, hb⟩ => ⟨he, hV.keep hb⟩
  have a0 : ∀ W, (Op.stringOp .add (bs [74]) (bs (dec dd.toNat))).run Tryd.prog W = .ok (.string (bs (74 :: dec dd.toNat))) W := add_bs [74] _ _ rfl (by simp only [List.length_cons]; omega)
  have K0 := Lib.hid (Yk.start hp ⟨1, mo, wk, dd, 7200⟩ 23)
  clear hp d1 d2 L0
  generalize bs (74 :: dec dd.toNat) = S6 at *
  generalize bs (dec dd.toNat) = S0 at *
  go_enter Tryd.func24, Tryd.ntmps24
  go_wp2_with (first
    | (go_at_call 51; refine (H0.out _ K0.out).mono ?_; clear H0; rintro e V1 ⟨rfl, hk⟩; have K1 := Lib.hid hk; clear hk; have q4 := K1.out.d.c4)
    | fail)
  go_ret
  exact ⟨rfl, K1.out.b⟩
set_option maxHeartbeats 800000 in
theorem dput_j1 (mo wk dd tt : Int) (d1 : 0 ≤ dd) (d2 : dd ≤ 999) (ht : ¬ tt = 7200) (t1 : -700000 ≤ tt) (t2 : tt ≤ 700000) (w : World) (hp : Pw w) : Calls Tryd.prog 24 #[dyV ⟨1, mo, wk, dd, tt⟩] w fun e w' => e = .returned (.string (bs (((74 :: dec dd.toNat) ++ [47]) ++ timL tt))) ∧ Below w.heap.size w w' := by
  have L0 := dec_short dd d1 d2
  have H0 : Hid (∀ V, Yk w V ⟨1, mo, wk, dd, tt⟩ → Calls Tryd.prog 51 #[.int .i64 dd] V fun e w' => e = .returned (.string (bs (dec dd.toNat))) ∧ Yk w w' ⟨1, mo, wk, dd, tt⟩) := Lib.hid fun V hV => (itoa_int _ d1 (by omega) V hV.p).mono fun _ _ ⟨he, hb⟩ => ⟨he, hV.keep hb⟩
  have a0 : ∀ W, (Op.stringOp .add (bs [74]) (bs (dec dd.toNat))).run Tryd.prog W = .ok (.string (bs (74 :: dec dd.toNat))) W := add_bs [74] _ _ rfl (by simp only [List.length_cons]; omega)
  have L3 := tim_len tt t1 t2
  have HT : Hid (∀ V, Yk w V ⟨1, mo, wk, dd, tt⟩ → Calls Tryd.prog 23 #[.int .i64 tt] V fun e w' => e = .returned (.string (bs (timL tt))) ∧ Yk w w' ⟨1, mo, wk, dd, tt⟩) := Lib.hid fun V hV => (tput_any _ t1 t2 V hV.p).mono fun _ _ ⟨he, hb⟩ => ⟨he, hV.keep hb⟩
  have a1 : ∀ W, (Op.stringOp .add (bs (74 :: dec dd.toNat)) (bs [47])).run Tryd.prog W = .ok (.string (bs ((74 :: dec dd.toNat) ++ [47]))) W := add_bs _ [47] _ rfl (by simp only [List.length_cons, List.length_append, List.length_nil]; omega)
  have a2 : ∀ W, (Op.stringOp .add (bs ((74 :: dec dd.toNat) ++ [47])) (bs (timL tt))).run Tryd.prog W = .ok (.string (bs (((74 :: dec dd.toNat) ++ [47]) ++ timL tt))) W := add_bs _ _ _ rfl (by simp only [List.length_cons, List.length_append, List.length_nil]; omega)
  clear L3 t1 t2
  have K0 := Lib.hid (Yk.start hp ⟨1, mo, wk, dd, tt⟩ 23)
  clear hp d1 d2 L0
  generalize bs (((74 :: dec dd.toNat) ++ [47]) ++ timL tt) = S9 at *
  generalize bs ((74 :: dec dd.toNat) ++ [47]) = S8 at *
  generalize bs (timL tt) = S7 at *
  generalize bs (74 :: dec dd.toNat) = S6 at *
  generalize bs (dec dd.toNat) = S0 at *
  go_enter Tryd.func24, Tryd.ntmps24
  go_wp2_with (first
    | (go_at_call 51; refine (H0.out _ K0.out).mono ?_; clear H0; rintro e V1 ⟨rfl, hk⟩; have K1 := Lib.hid hk; clear hk; have q4 := K1.out.d.c4)
    | (go_at_call 23; refine (HT.out _ K1.out).mono ?_; clear HT; rintro e V2 ⟨rfl, hk⟩; have K2 := Lib.hid hk; clear hk)
    | fail)
  go_ret
  exact ⟨rfl, K2.out.b⟩
set_option maxHeartbeats 800000 in
theorem dput_z0 (mo wk dd : Int) (d1 : 0 ≤ dd) (d2 : dd ≤ 999)  (w : World) (hp : Pw w) : Calls Tryd.prog 24 #[dyV ⟨2, mo, wk, dd, 7200⟩] w fun e w' => e = .returned (.string (bs (dec dd.toNat))) ∧ Below w.heap.size w w' := by
  have L0 := dec_short dd d1 d2
  have H0 : Hid (∀ V, Yk w V ⟨2, mo, wk, dd, 7200⟩ → Calls Tryd.prog 51 #[.int .i64 dd] V fun e w' => e = .returned (.string (bs (dec dd.toNat))) ∧ Yk w w' ⟨2, mo, wk, dd, 7200⟩) := Lib.hid fun V hV => (itoa_int _ d1 (by omega) V hV.p).mono fun _ _ ⟨he, hb⟩ => ⟨he, hV.keep hb⟩
  have a0 : ∀ W, (Op.stringOp .add (bs []) (bs (dec dd.toNat))).run Tryd.prog W = .ok (.string (bs (dec dd.toNat))) W := add_bs [] _ _ rfl (by omega)
  have K0 := Lib.hid (Yk.start hp ⟨2, mo, wk, dd, 7200⟩ 23)
  clear hp d1 d2 L0
  generalize bs (dec dd.toNat) = S6 at *
  go_enter Tryd.func24, Tryd.ntmps24
  go_wp2_with (first
    | (go_at_call 51; refine (H0.out _ K0.out).mono ?_; clear H0; rintro e V1 ⟨rfl, hk⟩; have K1 := Lib.hid hk; clear hk; have q4 := K1.out.d.c4)
    | fail)
  go_ret
  exact ⟨rfl, K1.out.b⟩
set_option maxHeartbeats 800000 in
theorem dput_z1 (mo wk dd tt : Int) (d1 : 0 ≤ dd) (d2 : dd ≤ 999) (ht : ¬ tt = 7200) (t1 : -700000 ≤ tt) (t2 : tt ≤ 700000) (w : World) (hp : Pw w) : Calls Tryd.prog 24 #[dyV ⟨2, mo, wk, dd, tt⟩] w fun e w' => e = .returned (.string (bs (((dec dd.toNat) ++ [47]) ++ timL tt))) ∧ Below w.heap.size w w' := by
  have L0 := dec_short dd d1 d2
  have H0 : Hid (∀ V, Yk w V ⟨2, mo, wk, dd, tt⟩ → Calls Tryd.prog 51 #[.int .i64 dd] V fun e w' => e = .returned (.string (bs (dec dd.toNat))) ∧ Yk w w' ⟨2, mo, wk, dd, tt⟩) := Lib.hid fun V hV => (itoa_int _ d1 (by omega) V hV.p).mono fun _ _ ⟨he, hb⟩ => ⟨he, hV.keep hb⟩
  have a0 : ∀ W, (Op.stringOp .add (bs []) (bs (dec dd.toNat))).run Tryd.prog W = .ok (.string (bs (dec dd.toNat))) W := add_bs [] _ _ rfl (by omega)
  have L3 := tim_len tt t1 t2
  have HT : Hid (∀ V, Yk w V ⟨2, mo, wk, dd, tt⟩ → Calls Tryd.prog 23 #[.int .i64 tt] V fun e w' => e = .returned (.string (bs (timL tt))) ∧ Yk w w' ⟨2, mo, wk, dd, tt⟩) := Lib.hid fun V hV => (tput_any _ t1 t2 V hV.p).mono fun _ _ ⟨he, hb⟩ => ⟨he, hV.keep hb⟩
  have a1 : ∀ W, (Op.stringOp .add (bs (dec dd.toNat)) (bs [47])).run Tryd.prog W = .ok (.string (bs ((dec dd.toNat) ++ [47]))) W := add_bs _ [47] _ rfl (by simp only [List.length_cons, List.length_append, List.length_nil]; omega)
  have a2 : ∀ W, (Op.stringOp .add (bs ((dec dd.toNat) ++ [47])) (bs (timL tt))).run Tryd.prog W = .ok (.string (bs (((dec dd.toNat) ++ [47]) ++ timL tt))) W := add_bs _ _ _ rfl (by simp only [List.length_cons, List.length_append, List.length_nil]; omega)
  clear L3 t1 t2
  have K0 := Lib.hid (Yk.start hp ⟨2, mo, wk, dd, tt⟩ 23)
  clear hp d1 d2 L0
  generalize bs (((dec dd.toNat) ++ [47]) ++ timL tt) = S9 at *
  generalize bs ((dec dd.toNat) ++ [47]) = S8 at *
  generalize bs (timL tt) = S7 at *
  generalize bs (dec dd.toNat) = S6 at *
  go_enter Tryd.func24, Tryd.ntmps24
  go_wp2_with (first
    | (go_at_call 51; refine (H0.out _ K0.out).mono ?_; clear H0; rintro e V1 ⟨rfl, hk⟩; have K1 := Lib.hid hk; clear hk; have q4 := K1.out.d.c4)
    | (go_at_call 23; refine (HT.out _ K1.out).mono ?_; clear HT; rintro e V2 ⟨rfl, hk⟩; have K2 := Lib.hid hk; clear hk)
    | fail)
  go_ret
  exact ⟨rfl, K2.out.b⟩
set_option maxHeartbeats 800000 in
theorem dput_m0 (mo wk dd : Int) (m1 : 0 ≤ mo) (m2 : mo ≤ 999) (k1 : 0 ≤ wk) (k2 : wk ≤ 999) (d1 : 0 ≤ dd) (d2 : dd ≤ 999)  (w : World) (hp : Pw w) : Calls Tryd.prog 24 #[dyV ⟨3, mo, wk, dd, 7200⟩] w fun e w' => e = .returned (.string (bs (((((77 :: dec mo.toNat) ++ [46]) ++ dec wk.toNat) ++ [46]) ++ dec dd.toNat))) ∧ Below w.heap.size w w' := by
  have L0 := dec_short dd d1 d2
  have L1 := dec_short mo m1 m2
  have L2 := dec_short wk k1 k2
  have H0 : Hid (∀ V, Yk w V ⟨3, mo, wk, dd, 7200⟩ → Calls Tryd.prog 51 #[.int .i64 dd] V fun e w' => e = .returned (.string (bs (dec dd.toNat))) ∧ Yk w w' ⟨3, mo, wk, dd, 7200⟩) := Lib.hid fun V hV => (itoa_int _ d1 (by omega) V hV.p).mono fun _ _ ⟨he, hb⟩ => ⟨he, hV.keep hb⟩
  have G0 : Hid (∀ V, Pw V → Calls Tryd.prog 51 #[.int .i64 dd] V fun e w' => e = .returned (.string (bs (dec dd.toNat))) ∧ Below V.heap.size V w') := Lib.hid fun V hV => itoa_int _ d1 (by omega) V hV
  have G1 : Hid (∀ V, Pw V → Calls Tryd.prog 51 #[.int .i64 mo] V fun e w' => e = .returned (.string (bs (dec mo.toNat))) ∧ Below V.heap.size V w') := Lib.hid fun V hV => itoa_int _ m1 (by omega) V hV
  have G2 : Hid (∀ V, Pw V → Calls Tryd.prog 51 #[.int .i64 wk] V fun e w' => e = .returned (.string (bs (dec wk.toNat))) ∧ Below V.heap.size V w') := Lib.hid fun V hV => itoa_int _ k1 (by omega) V hV
  have a0 : ∀ W, (Op.stringOp .add (bs [77]) (bs (dec mo.toNat))).run Tryd.prog W = .ok (.string (bs (77 :: dec mo.toNat))) W := add_bs [77] _ _ rfl (by simp only [List.length_cons]; omega)
  have a3 : ∀ W, (Op.stringOp .add (bs (77 :: dec mo.toNat)) (bs [46])).run Tryd.prog W = .ok (.string (bs ((77 :: dec mo.toNat) ++ [46]))) W := add_bs _ [46] _ rfl (by simp only [List.length_cons, List.length_append, List.length_nil]; omega)
  have a4 : ∀ W, (Op.stringOp .add (bs ((77 :: dec mo.toNat) ++ [46])) (bs (dec wk.toNat))).run Tryd.prog W = .ok (.string (bs (((77 :: dec mo.toNat) ++ [46]) ++ dec wk.toNat))) W := add_bs _ _ _ rfl (by simp only [List.length_cons, List.length_append, List.length_nil]; omega)
  have a5 : ∀ W, (Op.stringOp .add (bs (((77 :: dec mo.toNat) ++ [46]) ++ dec wk.toNat)) (bs [46])).run Tryd.prog W = .ok (.string (bs ((((77 :: dec mo.toNat) ++ [46]) ++ dec wk.toNat) ++ [46]))) W := add_bs _ [46] _ rfl (by simp only [List.length_cons, List.length_append, List.length_nil]; omega)
  have a6 : ∀ W, (Op.stringOp .add (bs ((((77 :: dec mo.toNat) ++ [46]) ++ dec wk.toNat) ++ [46])) (bs (dec dd.toNat))).run Tryd.prog W = .ok (.string (bs (((((77 :: dec mo.toNat) ++ [46]) ++ dec wk.toNat) ++ [46]) ++ dec dd.toNat))) W := add_bs _ _ _ rfl (by simp only [List.length_cons, List.length_append, List.length_nil]; omega)
  have K0 := Lib.hid (Yk.start hp ⟨3, mo, wk, dd, 7200⟩ 23)
  clear hp d1 d2 L0 L1 L2 m1 m2 k1 k2
  generalize bs (((((77 :: dec mo.toNat) ++ [46]) ++ dec wk.toNat) ++ [46]) ++ dec dd.toNat) = S6 at *
  generalize bs ((((77 :: dec mo.toNat) ++ [46]) ++ dec wk.toNat) ++ [46]) = S5 at *
  generalize bs (((77 :: dec mo.toNat) ++ [46]) ++ dec wk.toNat) = S4 at *
  generalize bs ((77 :: dec mo.toNat) ++ [46]) = S3 at *
  generalize bs (77 :: dec mo.toNat) = S2 at *
  generalize bs (dec mo.toNat) = S1 at *
  generalize bs (dec wk.toNat) = S10 at *
  generalize bs (dec dd.toNat) = S0 at *
  go_enter Tryd.func24, Tryd.ntmps24
  go_wp2_with fail
  have c1 : ∀ dq osq, (Sort.grow (redrawn (w.alloc (.cells #[.int .u8 3, .int .i64 mo, .int .i64 wk, .int .i64 dd, .int .i64 7200] 23)) dq) osq).cell? ⟨w.heap.size, 1, none⟩ = some (.int .i64 mo) := fun dq osq => (K0.out.keep (below_regrown _ dq osq)).d.c1
  have c2 : ∀ dq osq, (Sort.grow (redrawn (w.alloc (.cells #[.int .u8 3, .int .i64 mo, .int .i64 wk, .int .i64 dd, .int .i64 7200] 23)) dq) osq).cell? ⟨w.heap.size, 2, none⟩ = some (.int .i64 wk) := fun dq osq => (K0.out.keep (below_regrown _ dq osq)).d.c2
  have c3 : ∀ dq osq, (Sort.grow (redrawn (w.alloc (.cells #[.int .u8 3, .int .i64 mo, .int .i64 wk, .int .i64 dd, .int .i64 7200] 23)) dq) osq).cell? ⟨w.heap.size, 3, none⟩ = some (.int .i64 dd) := fun dq osq => (K0.out.keep (below_regrown _ dq osq)).d.c3
  refine wp_region_quiet_below (by kernel_rfl) (by kernel_rfl) ?_
  repeat (first | go_big_quiet_step (first | (go_at_call 51; with_reducible exact Calls.regrown_of (G1.out _ (K0.out.keep (below_regrown _ _ _)).p)) | (go_at_call 51; with_reducible exact Calls.regrown_of (G2.out _ (K0.out.keep (below_regrown _ _ _)).p)) | (go_at_call 51; with_reducible exact Calls.regrown_of (G0.out _ (K0.out.keep (below_regrown _ _ _)).p))) | quiet_step (first | (go_at_call 51; with_reducible exact Calls.regrown_of (G1.out _ (K0.out.keep (below_regrown _ _ _)).p)) | (go_at_call 51; with_reducible exact Calls.regrown_of (G2.out _ (K0.out.keep (below_regrown _ _ _)).p)) | (go_at_call 51; with_reducible exact Calls.regrown_of (G0.out _ (K0.out.keep (below_regrown _ _ _)).p))))
  refine wpQuiet_nil ?_
  intro V1 hV
  have K1 := Lib.hid (K0.out.keep (below_class hV))
  have q4 := K1.out.d.c4
  clear hV c1 c2 c3
  go_wp2
  go_ret
  exact ⟨rfl, K1.out.b⟩
set_option maxHeartbeats 800000 in
theorem dput_m1 (mo wk dd tt : Int) (m1 : 0 ≤ mo) (m2 : mo ≤ 999) (k1 : 0 ≤ wk) (k2 : wk ≤ 999) (d1 : 0 ≤ dd) (d2 : dd ≤ 999) (ht : ¬ tt = 7200) (t1 : -700000 ≤ tt) (t2 : tt ≤ 700000) (w : World) (hp : Pw w) : Calls Tryd.prog 24 #[dyV ⟨3, mo, wk, dd, tt⟩] w fun e w' => e = .returned (.string (bs (((((((77 :: dec mo.toNat) ++ [46]) ++ dec wk.toNat) ++ [46]) ++ dec dd.toNat) ++ [47]) ++ timL tt))) ∧ Below w.heap.size w w' := by
  have L0 := dec_short dd d1 d2
  have L1 := dec_short mo m1 m2
  have L2 := dec_short wk k1 k2
  have H0 : Hid (∀ V, Yk w V ⟨3, mo, wk, dd, tt⟩ → Calls Tryd.prog 51 #[.int .i64 dd] V fun e w' => e = .returned (.string (bs (dec dd.toNat))) ∧ Yk w w' ⟨3, mo, wk, dd, tt⟩) := Lib.hid fun V hV => (itoa_int _ d1 (by omega) V hV.p).mono fun _ _ ⟨he, hb⟩ => ⟨he, hV.keep hb⟩
  have G0 : Hid (∀ V, Pw V → Calls Tryd.prog 51 #[.int .i64 dd] V fun e w' => e = .returned (.string (bs (dec dd.toNat))) ∧ Below V.heap.size V w') := Lib.hid fun V hV => itoa_int _ d1 (by omega) V hV
  have G1 : Hid (∀ V, Pw V → Calls Tryd.prog 51 #[.int .i64 mo] V fun e w' => e = .returned (.string (bs (dec mo.toNat))) ∧ Below V.heap.size V w') := Lib.hid fun V hV => itoa_int _ m1 (by omega) V hV
  have G2 : Hid (∀ V, Pw V → Calls Tryd.prog 51 #[.int .i64 wk] V fun e w' => e = .returned (.string (bs (dec wk.toNat))) ∧ Below V.heap.size V w') := Lib.hid fun V hV => itoa_int _ k1 (by omega) V hV
  have a0 : ∀ W, (Op.stringOp .add (bs [77]) (bs (dec mo.toNat))).run Tryd.prog W = .ok (.string (bs (77 :: dec mo.toNat))) W := add_bs [77] _ _ rfl (by simp only [List.length_cons]; omega)
  have a3 : ∀ W, (Op.stringOp .add (bs (77 :: dec mo.toNat)) (bs [46])).run Tryd.prog W = .ok (.string (bs ((77 :: dec mo.toNat) ++ [46]))) W := add_bs _ [46] _ rfl (by simp only [List.length_cons, List.length_append, List.length_nil]; omega)
  have a4 : ∀ W, (Op.stringOp .add (bs ((77 :: dec mo.toNat) ++ [46])) (bs (dec wk.toNat))).run Tryd.prog W = .ok (.string (bs (((77 :: dec mo.toNat) ++ [46]) ++ dec wk.toNat))) W := add_bs _ _ _ rfl (by simp only [List.length_cons, List.length_append, List.length_nil]; omega)
  have a5 : ∀ W, (Op.stringOp .add (bs (((77 :: dec mo.toNat) ++ [46]) ++ dec wk.toNat)) (bs [46])).run Tryd.prog W = .ok (.string (bs ((((77 :: dec mo.toNat) ++ [46]) ++ dec wk.toNat) ++ [46]))) W := add_bs _ [46] _ rfl (by simp only [List.length_cons, List.length_append, List.length_nil]; omega)
  have a6 : ∀ W, (Op.stringOp .add (bs ((((77 :: dec mo.toNat) ++ [46]) ++ dec wk.toNat) ++ [46])) (bs (dec dd.toNat))).run Tryd.prog W = .ok (.string (bs (((((77 :: dec mo.toNat) ++ [46]) ++ dec wk.toNat) ++ [46]) ++ dec dd.toNat))) W := add_bs _ _ _ rfl (by simp only [List.length_cons, List.length_append, List.length_nil]; omega)
  have L3 := tim_len tt t1 t2
  have HT : Hid (∀ V, Yk w V ⟨3, mo, wk, dd, tt⟩ → Calls Tryd.prog 23 #[.int .i64 tt] V fun e w' => e = .returned (.string (bs (timL tt))) ∧ Yk w w' ⟨3, mo, wk, dd, tt⟩) := Lib.hid fun V hV => (tput_any _ t1 t2 V hV.p).mono fun _ _ ⟨he, hb⟩ => ⟨he, hV.keep hb⟩
  have a1 : ∀ W, (Op.stringOp .add (bs (((((77 :: dec mo.toNat) ++ [46]) ++ dec wk.toNat) ++ [46]) ++ dec dd.toNat)) (bs [47])).run Tryd.prog W = .ok (.string (bs ((((((77 :: dec mo.toNat) ++ [46]) ++ dec wk.toNat) ++ [46]) ++ dec dd.toNat) ++ [47]))) W := add_bs _ [47] _ rfl (by simp only [List.length_cons, List.length_append, List.length_nil]; omega)
  have a2 : ∀ W, (Op.stringOp .add (bs ((((((77 :: dec mo.toNat) ++ [46]) ++ dec wk.toNat) ++ [46]) ++ dec dd.toNat) ++ [47])) (bs (timL tt))).run Tryd.prog W = .ok (.string (bs (((((((77 :: dec mo.toNat) ++ [46]) ++ dec wk.toNat) ++ [46]) ++ dec dd.toNat) ++ [47]) ++ timL tt))) W := add_bs _ _ _ rfl (by simp only [List.length_cons, List.length_append, List.length_nil]; omega)
  clear L3 t1 t2
  have K0 := Lib.hid (Yk.start hp ⟨3, mo, wk, dd, tt⟩ 23)
  clear hp d1 d2 L0 L1 L2 m1 m2 k1 k2
  generalize bs (((((((77 :: dec mo.toNat) ++ [46]) ++ dec wk.toNat) ++ [46]) ++ dec dd.toNat) ++ [47]) ++ timL tt) = S9 at *
  generalize bs ((((((77 :: dec mo.toNat) ++ [46]) ++ dec wk.toNat) ++ [46]) ++ dec dd.toNat) ++ [47]) = S8 at *
  generalize bs (timL tt) = S7 at *
  generalize bs (((((77 :: dec mo.toNat) ++ [46]) ++ dec wk.toNat) ++ [46]) ++ dec dd.toNat) = S6 at *
  generalize bs ((((77 :: dec mo.toNat) ++ [46]) ++ dec wk.toNat) ++ [46]) = S5 at *
  generalize bs (((77 :: dec mo.toNat) ++ [46]) ++ dec wk.toNat) = S4 at *
  generalize bs ((77 :: dec mo.toNat) ++ [46]) = S3 at *
  generalize bs (77 :: dec mo.toNat) = S2 at *
  generalize bs (dec mo.toNat) = S1 at *
  generalize bs (dec wk.toNat) = S10 at *
  generalize bs (dec dd.toNat) = S0 at *
  go_enter Tryd.func24, Tryd.ntmps24
  go_wp2_with fail
  have c1 : ∀ dq osq, (Sort.grow (redrawn (w.alloc (.cells #[.int .u8 3, .int .i64 mo, .int .i64 wk, .int .i64 dd, .int .i64 tt] 23)) dq) osq).cell? ⟨w.heap.size, 1, none⟩ = some (.int .i64 mo) := fun dq osq => (K0.out.keep (below_regrown _ dq osq)).d.c1
  have c2 : ∀ dq osq, (Sort.grow (redrawn (w.alloc (.cells #[.int .u8 3, .int .i64 mo, .int .i64 wk, .int .i64 dd, .int .i64 tt] 23)) dq) osq).cell? ⟨w.heap.size, 2, none⟩ = some (.int .i64 wk) := fun dq osq => (K0.out.keep (below_regrown _ dq osq)).d.c2
  have c3 : ∀ dq osq, (Sort.grow (redrawn (w.alloc (.cells #[.int .u8 3, .int .i64 mo, .int .i64 wk, .int .i64 dd, .int .i64 tt] 23)) dq) osq).cell? ⟨w.heap.size, 3, none⟩ = some (.int .i64 dd) := fun dq osq => (K0.out.keep (below_regrown _ dq osq)).d.c3
  refine wp_region_quiet_below (by kernel_rfl) (by kernel_rfl) ?_
  repeat (first | go_big_quiet_step (first | (go_at_call 51; with_reducible exact Calls.regrown_of (G1.out _ (K0.out.keep (below_regrown _ _ _)).p)) | (go_at_call 51; with_reducible exact Calls.regrown_of (G2.out _ (K0.out.keep (below_regrown _ _ _)).p)) | (go_at_call 51; with_reducible exact Calls.regrown_of (G0.out _ (K0.out.keep (below_regrown _ _ _)).p))) | quiet_step (first | (go_at_call 51; with_reducible exact Calls.regrown_of (G1.out _ (K0.out.keep (below_regrown _ _ _)).p)) | (go_at_call 51; with_reducible exact Calls.regrown_of (G2.out _ (K0.out.keep (below_regrown _ _ _)).p)) | (go_at_call 51; with_reducible exact Calls.regrown_of (G0.out _ (K0.out.keep (below_regrown _ _ _)).p))))
  refine wpQuiet_nil ?_
  intro V1 hV
  have K1 := Lib.hid (K0.out.keep (below_class hV))
  have q4 := K1.out.d.c4
  clear hV c1 c2 c3
  go_wp2_with (first
    | (go_at_call 23; refine (HT.out _ K1.out).mono ?_; clear HT; rintro e V2 ⟨rfl, hk⟩; have K2 := Lib.hid hk; clear hk)
    | fail)
  go_ret
  exact ⟨rfl, K2.out.b⟩
theorem dayL_of {d : Dy} {x : List UInt8} (h : datL d = x) : dayL d = if d.time = 7200 then x else (x ++ [47]) ++ timL d.time := by unfold dayL; rw [h]
theorem dput_any (d : Dy) (hd : dayB d = true) (w : World) (hp : Pw w) : Calls Tryd.prog 24 #[dyV d] w fun e w' => e = .returned (.string (bs (dayL d))) ∧ Below w.heap.size w w' := by
  obtain ⟨kind, mo, wk, dd, tt⟩ := d
  have hc := dayB_cases hd
  obtain ⟨t1, t2⟩ := dayB_time hd
  simp only at hc t1 t2
  rcases hc with ⟨rfl, hc⟩ | ⟨rfl, hc⟩ | ⟨rfl, hc⟩
  · rw [dayL_of (d := ⟨1, mo, wk, dd, tt⟩) (x := 74 :: dec dd.toNat) (if_pos rfl)]
    by_cases ht : tt = 7200
    · rw [if_pos ht, ht]; exact dput_j0 mo wk dd (by omega) (by omega) w hp
    · rw [if_neg ht]; exact dput_j1 mo wk dd tt (by omega) (by omega) ht (by omega) (by omega) w hp
  · rw [dayL_of (d := ⟨2, mo, wk, dd, tt⟩) (x := dec dd.toNat) ((if_neg (show ¬ ((2 : Int) = 1) by decide)).trans (if_pos rfl))]
    by_cases ht : tt = 7200
    · rw [if_pos ht, ht]; exact dput_z0 mo wk dd (by omega) (by omega) w hp
    · rw [if_neg ht]; exact dput_z1 mo wk dd tt (by omega) (by omega) ht (by omega) (by omega) w hp
  · rw [dayL_of (d := ⟨3, mo, wk, dd, tt⟩) (x := ((((77 :: dec mo.toNat) ++ [46]) ++ dec wk.toNat) ++ [46]) ++ dec dd.toNat) ((if_neg (show ¬ ((3 : Int) = 1) by decide)).trans (if_neg (show ¬ ((3 : Int) = 2) by decide)))]
    by_cases ht : tt = 7200
    · rw [if_pos ht, ht]; exact dput_m0 mo wk dd (by omega) (by omega) (by omega) (by omega) (by omega) (by omega) w hp
    · rw [if_neg ht]; exact dput_m1 mo wk dd tt (by omega) (by omega) (by omega) (by omega) (by omega) (by omega) ht (by omega) (by omega) w hp
theorem day_len (d : Dy) (hd : dayB d = true) : (dayL d).length ≤ 60 := by
  obtain ⟨kind, mo, wk, dd, tt⟩ := d
  have hc := dayB_cases hd
  obtain ⟨t1, t2⟩ := dayB_time hd
  simp only at hc t1 t2
  have L := tim_len tt (by omega) (by omega)
  have L0 := dec_short dd (by omega) (by omega)
  have L1 := dec_short mo (by omega) (by omega)
  have L2 := dec_short wk (by omega) (by omega)
  have D : (datL ⟨kind, mo, wk, dd, tt⟩).length ≤ 30 := by
    unfold datL
    simp only
    split
    · simp only [List.length_cons]; omega
    · split
      · omega
      · simp only [List.length_cons, List.length_append, List.length_nil]; omega
  unfold dayL
  simp only
  split
  · omega
  · simp only [List.length_cons, List.length_append, List.length_nil]; omega
end Go.Proofs.YtkfhipkcnocokaaDoor.Fo
