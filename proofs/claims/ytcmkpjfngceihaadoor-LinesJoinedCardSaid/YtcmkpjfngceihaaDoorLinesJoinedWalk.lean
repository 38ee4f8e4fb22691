/-
  The law LinesJoined, walked (written by gen_ln_joined.py).
-/
import Derived.Test.YtcmkpjfngceihaaDoorLnWorks
import Derived.Test.YtcmkpjfngceihaaDoorLnPlainF
import Derived.Deep.RegionHeld3
import Derived.BigQuiet
namespace Go.Proofs.YtcmkpjfngceihaaDoor.Ln
open Go.RowKit
set_option maxRecDepth 100000

/-- What the walk carries: the library's number, and nothing of what was there has turned. -/
def Jw (m : Int) (w V : World) : Prop := V.cell? ⟨0, 0, none⟩ = some (.int .i64 m) ∧ 0 < w.heap.size ∧ Below w.heap.size w V
theorem Jw.keep {m : Int} {w V V' : World} (h : Jw m w V) (hb : Below V.heap.size V V') : Jw m w V' :=
  ⟨(hb.cell (p := ⟨0, 0, none⟩) (by have := h.2.1; have := h.2.2.size; show 0 < V.heap.size; omega)).trans h.1, h.2.1, h.2.2.trans (hb.mono h.2.2.size)⟩
/-- Two lines of a row. -/
structure Two (W : World) (g : Nat) (K V : ByteArray) (n : Int) : Prop where
  lt : g < W.heap.size
  c0 : W.cell? ⟨g, 0, none⟩ = some (.int .i64 2)
  c1 : W.cell? ⟨g, 1, none⟩ = some (.string ⟨#[83]⟩)
  c2 : W.cell? ⟨g, 2, none⟩ = some (.string K)
  c3 : W.cell? ⟨g, 3, none⟩ = some (.string V)
  c4 : W.cell? ⟨g, 4, none⟩ = some (.int .i64 n)
  c5 : W.cell? ⟨g, 5, none⟩ = some (.string ⟨#[83]⟩)
  c6 : W.cell? ⟨g, 6, none⟩ = some (.string ⟨#[122]⟩)
  c7 : W.cell? ⟨g, 7, none⟩ = some (.string ⟨#[49]⟩)
theorem Two.keep {V V' : World} {g : Nat} {K T : ByteArray} {n : Int} (h : Two V g K T n) (hb : Below V.heap.size V V') : Two V' g K T n :=
  ⟨Nat.lt_of_lt_of_le h.lt hb.size, (hb.cell (p := ⟨g, 0, none⟩) h.lt).trans h.c0, (hb.cell (p := ⟨g, 1, none⟩) h.lt).trans h.c1, (hb.cell (p := ⟨g, 2, none⟩) h.lt).trans h.c2, (hb.cell (p := ⟨g, 3, none⟩) h.lt).trans h.c3, (hb.cell (p := ⟨g, 4, none⟩) h.lt).trans h.c4, (hb.cell (p := ⟨g, 5, none⟩) h.lt).trans h.c5, (hb.cell (p := ⟨g, 6, none⟩) h.lt).trans h.c6, (hb.cell (p := ⟨g, 7, none⟩) h.lt).trans h.c7⟩
theorem parse_two (m : Int) (w : World) (T x y : List UInt8) (n : Nat) (hT : parseL T = told x y n) (hl : T.length ≤ 65536) (V : World) (h : Jw m w V) :
    Calls Tryd.prog 9 #[cV V T] (cW V T) fun e W' => ∃ g cap p c, e = .returned (.tuple #[.slice (some ⟨g, 0, none⟩) 2 cap, .slice p 0 c]) ∧ Two W' g (bs (asgK (joined x y))) (bs (asgV (joined x y))) (n : Int) ∧ Jw m w W' ∧ Below V.heap.size V W' := by
  refine (parse_lit T m V h.1 (by have := h.2.1; have := h.2.2.size; omega) hl).mono ?_
  rintro e W' ⟨v1, v2, rfl, o1, o2, hb⟩
  rw [hT] at o1 o2
  obtain ⟨g, cap, rfl, q1, q2, q3⟩ := row_some o1 (by show 0 < 2; omega)
  obtain ⟨p, c, rfl⟩ := row_none o2
  have hb2 := (cW_below T V).trans (hb.mono (by omega))
  exact ⟨g, cap, p, c, rfl, ⟨q2, q3 0 _ rfl, q3 1 _ rfl, q3 2 _ rfl, q3 3 _ rfl, q3 4 _ rfl, q3 5 _ rfl, q3 6 _ rfl, q3 7 _ rfl⟩, h.keep hb2, hb2⟩
set_option maxHeartbeats 1600000 in
theorem joined_long (m : Int) (a b : List UInt8) (c : Bool) (hz : (200 : Int) < ((bs a).size : Int) ∨ (¬ (200 : Int) < ((bs a).size : Int) ∧ (200 : Int) < ((bs b).size : Int))) (w : World) (hj : Jw m w w) :
    Calls Tryd.prog 7 #[.string (bs a), .string (bs b), .bool c] w fun e w' => e = .returned (.bool true) ∧ Below w.heap.size w w' := by
  have HW := Lib.hid (works_any m w hj.1 hj.2.1)
  clear hj
  generalize bs a = SA at *
  generalize bs b = SB at *
  rcases hz with h1 | ⟨h1, h2⟩
  all_goals go_enter Tryd.func7, Tryd.ntmps7
  all_goals go_wp2_with (first | (go_at_call 8; refine HW.out.mono ?_; clear HW; rintro e V1 ⟨rfl, hb⟩; have HB := Lib.hid hb; clear hb) | fail)
  all_goals go_ret
  all_goals exact ⟨rfl, HB.out⟩
set_option maxHeartbeats 8000000 in
theorem joined_n (m : Int) (a b : List UInt8) (h1 : a.length ≤ 200) (h2 : b.length ≤ 200) (w : World) (hj : Jw m w w) :
    Calls Tryd.prog 7 #[.string (bs a), .string (bs b), .bool false] w fun e w' => e = .returned (.bool true) ∧ Below w.heap.size w w' := by
  have z1 : ¬ (200 : Int) < ((bs a).size : Int) := by rw [bs_size]; omega
  have z2 : ¬ (200 : Int) < ((bs b).size : Int) := by rw [bs_size]; omega
  have l1 := plain_len a
  have l2 := plain_len b
  have p1 := plain_pl a
  have p2 := plain_pl b
  have HP1 : Hid (∀ V, Jw m w V → Calls Tryd.prog 11 #[.string (bs a)] V fun e w' => e = .returned (.string (bs (plainL a))) ∧ Jw m w w') := Lib.hid fun V h => (plain_any a (by omega) V).mono fun e w' ⟨he, hb⟩ => ⟨he, h.keep hb⟩
  have HP2 : Hid (∀ V, Jw m w V → Calls Tryd.prog 11 #[.string (bs b)] V fun e w' => e = .returned (.string (bs (plainL b))) ∧ Jw m w w') := Lib.hid fun V h => (plain_any b (by omega) V).mono fun e w' ⟨he, hb⟩ => ⟨he, h.keep hb⟩
  have HWB : Hid (∀ V, Jw m w V → Calls Tryd.prog 8 #[] V fun e w' => e = .returned (.bool true) ∧ Below V.heap.size V w') := Lib.hid fun V h => works_any m V h.1 (by have := h.2.1; have := h.2.2.size; omega)
  generalize plainL a = P at *
  generalize plainL b = Q at *
  have x1 : Pl (120 :: P) := Pl.app (a := [120]) (by unfold Pl; decide) p1
  have x2 : Pl (121 :: Q) := Pl.app (a := [121]) (by unfold Pl; decide) p2
  have t1 : parseL (txtN (120 :: P) (121 :: Q)) = told (120 :: P) (121 :: Q) 4 := parse_N x1 p2 (by simp only [List.length_cons]; omega)
  have t2 : parseL (txtO (120 :: P) (121 :: Q)) = told (120 :: P) (121 :: Q) 3 := parse_O x1 x2 (by simp only [List.length_cons]; omega)
  have e1 : (((([91, 83, 93, 10, 107, 61] ++ (120 :: P)) ++ [92, 10]) ++ (121 :: Q)) ++ [10, 122, 61, 49, 10]) = txtN (120 :: P) (121 :: Q) := by simp [txtN]
  have e2 : (((([91, 83, 93, 10, 107, 61] ++ (120 :: P)) ++ [32]) ++ (121 :: Q)) ++ [10, 122, 61, 49, 10]) = txtO (120 :: P) (121 :: Q) := by simp [txtO]
  have k1 : (txtN (120 :: P) (121 :: Q)).length ≤ 65536 := by simp only [txtN, List.length_append, List.length_cons, List.length_nil]; omega
  have k2 : (txtO (120 :: P) (121 :: Q)).length ≤ 65536 := by simp only [txtO, List.length_append, List.length_cons, List.length_nil]; omega
  have HA : Hid (∀ V, Jw m w V → _) := Lib.hid fun V h => parse_two m w _ _ _ _ t1 k1 V h
  have HB : Hid (∀ V, Jw m w V → _) := Lib.hid fun V h => parse_two m w _ _ _ _ t2 k2 V h
  have a0 : ∀ W, (Op.stringOp .add (bs [120]) (bs P)).run Tryd.prog W = .ok (.string (bs (120 :: P))) W := add_bs _ _ _ rfl (by simp only [List.length_cons]; omega)
  have a1 : ∀ W, (Op.stringOp .add (bs [121]) (bs Q)).run Tryd.prog W = .ok (.string (bs (121 :: Q))) W := add_bs _ _ _ rfl (by simp only [List.length_cons]; omega)
  have a2 : ∀ W, (Op.stringOp .add (bs [91, 83, 93, 10, 107, 61]) (bs (120 :: P))).run Tryd.prog W = .ok (.string (bs ([91, 83, 93, 10, 107, 61] ++ (120 :: P)))) W := add_bs _ _ _ rfl (by simp only [List.length_append, List.length_cons, List.length_nil]; omega)
  have a3 : ∀ W, (Op.stringOp .add (bs ([91, 83, 93, 10, 107, 61] ++ (120 :: P))) (bs [92, 10])).run Tryd.prog W = .ok (.string (bs (([91, 83, 93, 10, 107, 61] ++ (120 :: P)) ++ [92, 10]))) W := add_bs _ _ _ rfl (by simp only [List.length_append, List.length_cons, List.length_nil]; omega)
  have a4 : ∀ W, (Op.stringOp .add (bs (([91, 83, 93, 10, 107, 61] ++ (120 :: P)) ++ [92, 10])) (bs (121 :: Q))).run Tryd.prog W = .ok (.string (bs ((([91, 83, 93, 10, 107, 61] ++ (120 :: P)) ++ [92, 10]) ++ (121 :: Q)))) W := add_bs _ _ _ rfl (by simp only [List.length_append, List.length_cons, List.length_nil]; omega)
  have a5 : ∀ W, (Op.stringOp .add (bs ((([91, 83, 93, 10, 107, 61] ++ (120 :: P)) ++ [92, 10]) ++ (121 :: Q))) (bs [10, 122, 61, 49, 10])).run Tryd.prog W = .ok (.string (bs (((([91, 83, 93, 10, 107, 61] ++ (120 :: P)) ++ [92, 10]) ++ (121 :: Q)) ++ [10, 122, 61, 49, 10]))) W := add_bs _ _ _ rfl (by simp only [List.length_append, List.length_cons, List.length_nil]; omega)
  have a6 : ∀ W, (Op.stringOp .add (bs ([91, 83, 93, 10, 107, 61] ++ (120 :: P))) (bs [32])).run Tryd.prog W = .ok (.string (bs (([91, 83, 93, 10, 107, 61] ++ (120 :: P)) ++ [32]))) W := add_bs _ _ _ rfl (by simp only [List.length_append, List.length_cons, List.length_nil]; omega)
  have a7 : ∀ W, (Op.stringOp .add (bs (([91, 83, 93, 10, 107, 61] ++ (120 :: P)) ++ [32])) (bs (121 :: Q))).run Tryd.prog W = .ok (.string (bs ((([91, 83, 93, 10, 107, 61] ++ (120 :: P)) ++ [32]) ++ (121 :: Q)))) W := add_bs _ _ _ rfl (by simp only [List.length_append, List.length_cons, List.length_nil]; omega)
  have a8 : ∀ W, (Op.stringOp .add (bs ((([91, 83, 93, 10, 107, 61] ++ (120 :: P)) ++ [32]) ++ (121 :: Q))) (bs [10, 122, 61, 49, 10])).run Tryd.prog W = .ok (.string (bs (((([91, 83, 93, 10, 107, 61] ++ (120 :: P)) ++ [32]) ++ (121 :: Q)) ++ [10, 122, 61, 49, 10]))) W := add_bs _ _ _ rfl (by simp only [List.length_append, List.length_cons, List.length_nil]; omega)
  have hc1 : ∀ W, (convert 9 22 (.string (bs (((([91, 83, 93, 10, 107, 61] ++ (120 :: P)) ++ [92, 10]) ++ (121 :: Q)) ++ [10, 122, 61, 49, 10])))).run Tryd.prog W = .ok (cV W (txtN (120 :: P) (121 :: Q))) (cW W (txtN (120 :: P) (121 :: Q))) := by rw [e1]; exact conv_run _
  have hc2 : ∀ W, (convert 9 22 (.string (bs (((([91, 83, 93, 10, 107, 61] ++ (120 :: P)) ++ [32]) ++ (121 :: Q)) ++ [10, 122, 61, 49, 10])))).run Tryd.prog W = .ok (cV W (txtO (120 :: P) (121 :: Q))) (cW W (txtO (120 :: P) (121 :: Q))) := by rw [e2]; exact conv_run _
  have Z0 := Lib.hid hj
  clear hj h1 h2 l1 l2 p1 p2 x1 x2 t1 t2 e1 e2 k1 k2
  generalize txtN (120 :: P) (121 :: Q) = TA at *
  generalize txtO (120 :: P) (121 :: Q) = TB at *
  generalize bs (asgK (joined (120 :: P) (121 :: Q))) = SK at *
  generalize bs (asgV (joined (120 :: P) (121 :: Q))) = SV at *
  have hk : (SK.toList == SK.toList) = true := by simp
  have hv : (SV.toList == SV.toList) = true := by simp
  generalize bs (((([91, 83, 93, 10, 107, 61] ++ (120 :: P)) ++ [32]) ++ (121 :: Q)) ++ [10, 122, 61, 49, 10]) = U8 at *
  generalize bs ((([91, 83, 93, 10, 107, 61] ++ (120 :: P)) ++ [32]) ++ (121 :: Q)) = U7 at *
  generalize bs (([91, 83, 93, 10, 107, 61] ++ (120 :: P)) ++ [32]) = U6 at *
  generalize bs (((([91, 83, 93, 10, 107, 61] ++ (120 :: P)) ++ [92, 10]) ++ (121 :: Q)) ++ [10, 122, 61, 49, 10]) = U5 at *
  generalize bs ((([91, 83, 93, 10, 107, 61] ++ (120 :: P)) ++ [92, 10]) ++ (121 :: Q)) = U4 at *
  generalize bs (([91, 83, 93, 10, 107, 61] ++ (120 :: P)) ++ [92, 10]) = U3 at *
  generalize bs ([91, 83, 93, 10, 107, 61] ++ (120 :: P)) = U2 at *
  generalize bs (121 :: Q) = U1 at *
  generalize bs (120 :: P) = U0 at *
  generalize bs P = SP at *
  generalize bs Q = SQ at *
  generalize bs a = SA at *
  generalize bs b = SB at *
  go_enter Tryd.func7, Tryd.ntmps7
  go_wp2_with (first
    | (go_at_call 11; refine (HP1.out _ Z0.out).mono ?_; clear HP1; rintro e V1 ⟨rfl, hg⟩; have Z1 := Lib.hid hg; clear hg)
    | (go_at_call 11; refine (HP2.out _ Z1.out).mono ?_; rintro e V2 ⟨rfl, hg⟩; have Z2 := Lib.hid hg; clear hg Z1)
    | (go_at_call 9; refine (HA.out _ Z2.out).mono ?_; clear HA; rintro e V4 ⟨g1, cap1, q1, d1, rfl, ht, hg, _⟩; have Z4 := Lib.hid hg; have T4 := Lib.hid ht; clear hg ht)
    | (go_at_call 9; refine (HB.out _ Z4.out).mono ?_; clear HB; rintro e V5 ⟨g2, cap2, q2, d2, rfl, ht, hg, hb⟩; have Z5 := Lib.hid hg; have TA5 := Lib.hid (T4.out.keep hb); have TB5 := Lib.hid ht; clear hg hb ht)
    | fail)
  have KEEP := Lib.hid (show ∀ u, Below V5.heap.size V5 u → (u.cell? ⟨g1, 0, none⟩ = some (.int .i64 2) ∧ u.cell? ⟨g1, 1, none⟩ = some (.string ⟨#[83]⟩) ∧ u.cell? ⟨g1, 2, none⟩ = some (.string SK) ∧ u.cell? ⟨g1, 3, none⟩ = some (.string SV) ∧ u.cell? ⟨g1, 4, none⟩ = some (.int .i64 4) ∧ u.cell? ⟨g1, 7, none⟩ = some (.string ⟨#[49]⟩) ∧ u.cell? ⟨g2, 0, none⟩ = some (.int .i64 2) ∧ u.cell? ⟨g2, 1, none⟩ = some (.string ⟨#[83]⟩) ∧ u.cell? ⟨g2, 2, none⟩ = some (.string SK) ∧ u.cell? ⟨g2, 3, none⟩ = some (.string SV) ∧ u.cell? ⟨g2, 4, none⟩ = some (.int .i64 3) ∧ u.cell? ⟨g2, 7, none⟩ = some (.string ⟨#[49]⟩) ∧ Below V5.heap.size V5 u) from fun u hb => by
    have t := TA5.out.keep hb
    have s := TB5.out.keep hb
    exact ⟨t.c0, t.c1, t.c2, t.c3, t.c4, t.c7, s.c0, s.c1, s.c2, s.c3, s.c4, s.c7, hb⟩)
  have HWK : Hid (∀ V, Below V5.heap.size V5 V → Calls Tryd.prog 8 #[] V fun e w' => e = .returned (.bool true) ∧ Below V5.heap.size V5 w') := Lib.hid fun V hV => (HWB.out V (Z5.out.keep hV)).mono fun e w' ⟨he, hb⟩ => ⟨he, hV.trans (hb.mono hV.size)⟩
  clear a0 a1 a2 a3 a4 a5 a6 a7 hc1 hc2
  go_region_held3 (fun u => u.cell? ⟨g1, 0, none⟩ = some (.int .i64 2) ∧ u.cell? ⟨g1, 1, none⟩ = some (.string ⟨#[83]⟩) ∧ u.cell? ⟨g1, 2, none⟩ = some (.string SK) ∧ u.cell? ⟨g1, 3, none⟩ = some (.string SV) ∧ u.cell? ⟨g1, 4, none⟩ = some (.int .i64 4) ∧ u.cell? ⟨g1, 7, none⟩ = some (.string ⟨#[49]⟩) ∧ u.cell? ⟨g2, 0, none⟩ = some (.int .i64 2) ∧ u.cell? ⟨g2, 1, none⟩ = some (.string ⟨#[83]⟩) ∧ u.cell? ⟨g2, 2, none⟩ = some (.string SK) ∧ u.cell? ⟨g2, 3, none⟩ = some (.string SV) ∧ u.cell? ⟨g2, 4, none⟩ = some (.int .i64 3) ∧ u.cell? ⟨g2, 7, none⟩ = some (.string ⟨#[49]⟩) ∧ Below V5.heap.size V5 u)
    (first | exact KEEP.out _ (by assumption) | exact KEEP.out _ (Below.refl _ _).drew)
    (first
      | (go_at_call 8; (with_reducible refine (HWK.out _ (by first | assumption | exact (Below.refl _ _).drew)).mono ?_); rintro e w' ⟨rfl, hk⟩))
  go_wp2
  go_ret
  exact ⟨rfl, Z5.out.2.2.trans (hk.mono Z5.out.2.2.size)⟩
set_option maxHeartbeats 8000000 in
theorem joined_c (m : Int) (a b : List UInt8) (h1 : a.length ≤ 200) (h2 : b.length ≤ 200) (w : World) (hj : Jw m w w) :
    Calls Tryd.prog 7 #[.string (bs a), .string (bs b), .bool true] w fun e w' => e = .returned (.bool true) ∧ Below w.heap.size w w' := by
  have z1 : ¬ (200 : Int) < ((bs a).size : Int) := by rw [bs_size]; omega
  have z2 : ¬ (200 : Int) < ((bs b).size : Int) := by rw [bs_size]; omega
  have l1 := plain_len a
  have l2 := plain_len b
  have p1 := plain_pl a
  have p2 := plain_pl b
  have HP1 : Hid (∀ V, Jw m w V → Calls Tryd.prog 11 #[.string (bs a)] V fun e w' => e = .returned (.string (bs (plainL a))) ∧ Jw m w w') := Lib.hid fun V h => (plain_any a (by omega) V).mono fun e w' ⟨he, hb⟩ => ⟨he, h.keep hb⟩
  have HP2 : Hid (∀ V, Jw m w V → Calls Tryd.prog 11 #[.string (bs b)] V fun e w' => e = .returned (.string (bs (plainL b))) ∧ Jw m w w') := Lib.hid fun V h => (plain_any b (by omega) V).mono fun e w' ⟨he, hb⟩ => ⟨he, h.keep hb⟩
  have HWB : Hid (∀ V, Jw m w V → Calls Tryd.prog 8 #[] V fun e w' => e = .returned (.bool true) ∧ Below V.heap.size V w') := Lib.hid fun V h => works_any m V h.1 (by have := h.2.1; have := h.2.2.size; omega)
  generalize plainL a = P at *
  generalize plainL b = Q at *
  have x1 : Pl (120 :: P) := Pl.app (a := [120]) (by unfold Pl; decide) p1
  have x2 : Pl (121 :: Q) := Pl.app (a := [121]) (by unfold Pl; decide) p2
  have t1 : parseL (txtC (120 :: P) Q (121 :: Q)) = told (120 :: P) (121 :: Q) 6 := parse_C x1 p2 p2 (by simp only [List.length_cons]; omega)
  have t2 : parseL (txtO (120 :: P) (121 :: Q)) = told (120 :: P) (121 :: Q) 3 := parse_O x1 x2 (by simp only [List.length_cons]; omega)
  have e1 : ((((((([91, 83, 93, 10, 107, 61] ++ (120 :: P)) ++ [92, 10]) ++ [32, 35, 32]) ++ Q) ++ [92, 10, 59, 10]) ++ (121 :: Q)) ++ [10, 122, 61, 49, 10]) = txtC (120 :: P) Q (121 :: Q) := by simp [txtC]
  have e2 : (((([91, 83, 93, 10, 107, 61] ++ (120 :: P)) ++ [32]) ++ (121 :: Q)) ++ [10, 122, 61, 49, 10]) = txtO (120 :: P) (121 :: Q) := by simp [txtO]
  have k1 : (txtC (120 :: P) Q (121 :: Q)).length ≤ 65536 := by simp only [txtC, List.length_append, List.length_cons, List.length_nil]; omega
  have k2 : (txtO (120 :: P) (121 :: Q)).length ≤ 65536 := by simp only [txtO, List.length_append, List.length_cons, List.length_nil]; omega
  have HA : Hid (∀ V, Jw m w V → _) := Lib.hid fun V h => parse_two m w _ _ _ _ t1 k1 V h
  have HB : Hid (∀ V, Jw m w V → _) := Lib.hid fun V h => parse_two m w _ _ _ _ t2 k2 V h
  have a0 : ∀ W, (Op.stringOp .add (bs [120]) (bs P)).run Tryd.prog W = .ok (.string (bs (120 :: P))) W := add_bs _ _ _ rfl (by simp only [List.length_cons]; omega)
  have a1 : ∀ W, (Op.stringOp .add (bs [121]) (bs Q)).run Tryd.prog W = .ok (.string (bs (121 :: Q))) W := add_bs _ _ _ rfl (by simp only [List.length_cons]; omega)
  have a2 : ∀ W, (Op.stringOp .add (bs [91, 83, 93, 10, 107, 61]) (bs (120 :: P))).run Tryd.prog W = .ok (.string (bs ([91, 83, 93, 10, 107, 61] ++ (120 :: P)))) W := add_bs _ _ _ rfl (by simp only [List.length_append, List.length_cons, List.length_nil]; omega)
  have a3 : ∀ W, (Op.stringOp .add (bs ([91, 83, 93, 10, 107, 61] ++ (120 :: P))) (bs [92, 10])).run Tryd.prog W = .ok (.string (bs (([91, 83, 93, 10, 107, 61] ++ (120 :: P)) ++ [92, 10]))) W := add_bs _ _ _ rfl (by simp only [List.length_append, List.length_cons, List.length_nil]; omega)
  have a4 : ∀ W, (Op.stringOp .add (bs (([91, 83, 93, 10, 107, 61] ++ (120 :: P)) ++ [92, 10])) (bs [32, 35, 32])).run Tryd.prog W = .ok (.string (bs ((([91, 83, 93, 10, 107, 61] ++ (120 :: P)) ++ [92, 10]) ++ [32, 35, 32]))) W := add_bs _ _ _ rfl (by simp only [List.length_append, List.length_cons, List.length_nil]; omega)
  have a5 : ∀ W, (Op.stringOp .add (bs ((([91, 83, 93, 10, 107, 61] ++ (120 :: P)) ++ [92, 10]) ++ [32, 35, 32])) (bs Q)).run Tryd.prog W = .ok (.string (bs (((([91, 83, 93, 10, 107, 61] ++ (120 :: P)) ++ [92, 10]) ++ [32, 35, 32]) ++ Q))) W := add_bs _ _ _ rfl (by simp only [List.length_append, List.length_cons, List.length_nil]; omega)
  have a6 : ∀ W, (Op.stringOp .add (bs (((([91, 83, 93, 10, 107, 61] ++ (120 :: P)) ++ [92, 10]) ++ [32, 35, 32]) ++ Q)) (bs [92, 10, 59, 10])).run Tryd.prog W = .ok (.string (bs ((((([91, 83, 93, 10, 107, 61] ++ (120 :: P)) ++ [92, 10]) ++ [32, 35, 32]) ++ Q) ++ [92, 10, 59, 10]))) W := add_bs _ _ _ rfl (by simp only [List.length_append, List.length_cons, List.length_nil]; omega)
  have a7 : ∀ W, (Op.stringOp .add (bs ((((([91, 83, 93, 10, 107, 61] ++ (120 :: P)) ++ [92, 10]) ++ [32, 35, 32]) ++ Q) ++ [92, 10, 59, 10])) (bs (121 :: Q))).run Tryd.prog W = .ok (.string (bs (((((([91, 83, 93, 10, 107, 61] ++ (120 :: P)) ++ [92, 10]) ++ [32, 35, 32]) ++ Q) ++ [92, 10, 59, 10]) ++ (121 :: Q)))) W := add_bs _ _ _ rfl (by simp only [List.length_append, List.length_cons, List.length_nil]; omega)
  have a8 : ∀ W, (Op.stringOp .add (bs (((((([91, 83, 93, 10, 107, 61] ++ (120 :: P)) ++ [92, 10]) ++ [32, 35, 32]) ++ Q) ++ [92, 10, 59, 10]) ++ (121 :: Q))) (bs [10, 122, 61, 49, 10])).run Tryd.prog W = .ok (.string (bs ((((((([91, 83, 93, 10, 107, 61] ++ (120 :: P)) ++ [92, 10]) ++ [32, 35, 32]) ++ Q) ++ [92, 10, 59, 10]) ++ (121 :: Q)) ++ [10, 122, 61, 49, 10]))) W := add_bs _ _ _ rfl (by simp only [List.length_append, List.length_cons, List.length_nil]; omega)
  have a9 : ∀ W, (Op.stringOp .add (bs ([91, 83, 93, 10, 107, 61] ++ (120 :: P))) (bs [32])).run Tryd.prog W = .ok (.string (bs (([91, 83, 93, 10, 107, 61] ++ (120 :: P)) ++ [32]))) W := add_bs _ _ _ rfl (by simp only [List.length_append, List.length_cons, List.length_nil]; omega)
  have a10 : ∀ W, (Op.stringOp .add (bs (([91, 83, 93, 10, 107, 61] ++ (120 :: P)) ++ [32])) (bs (121 :: Q))).run Tryd.prog W = .ok (.string (bs ((([91, 83, 93, 10, 107, 61] ++ (120 :: P)) ++ [32]) ++ (121 :: Q)))) W := add_bs _ _ _ rfl (by simp only [List.length_append, List.length_cons, List.length_nil]; omega)
  have a11 : ∀ W, (Op.stringOp .add (bs ((([91, 83, 93, 10, 107, 61] ++ (120 :: P)) ++ [32]) ++ (121 :: Q))) (bs [10, 122, 61, 49, 10])).run Tryd.prog W = .ok (.string (bs (((([91, 83, 93, 10, 107, 61] ++ (120 :: P)) ++ [32]) ++ (121 :: Q)) ++ [10, 122, 61, 49, 10]))) W := add_bs _ _ _ rfl (by simp only [List.length_append, List.length_cons, List.length_nil]; omega)
  have hc1 : ∀ W, (convert 9 22 (.string (bs ((((((([91, 83, 93, 10, 107, 61] ++ (120 :: P)) ++ [92, 10]) ++ [32, 35, 32]) ++ Q) ++ [92, 10, 59, 10]) ++ (121 :: Q)) ++ [10, 122, 61, 49, 10])))).run Tryd.prog W = .ok (cV W (txtC (120 :: P) Q (121 :: Q))) (cW W (txtC (120 :: P) Q (121 :: Q))) := by rw [e1]; exact conv_run _
  have hc2 : ∀ W, (convert 9 22 (.string (bs (((([91, 83, 93, 10, 107, 61] ++ (120 :: P)) ++ [32]) ++ (121 :: Q)) ++ [10, 122, 61, 49, 10])))).run Tryd.prog W = .ok (cV W (txtO (120 :: P) (121 :: Q))) (cW W (txtO (120 :: P) (121 :: Q))) := by rw [e2]; exact conv_run _
  have Z0 := Lib.hid hj
  clear hj h1 h2 l1 l2 p1 p2 x1 x2 t1 t2 e1 e2 k1 k2
  generalize txtC (120 :: P) Q (121 :: Q) = TA at *
  generalize txtO (120 :: P) (121 :: Q) = TB at *
  generalize bs (asgK (joined (120 :: P) (121 :: Q))) = SK at *
  generalize bs (asgV (joined (120 :: P) (121 :: Q))) = SV at *
  have hk : (SK.toList == SK.toList) = true := by simp
  have hv : (SV.toList == SV.toList) = true := by simp
  generalize bs (((([91, 83, 93, 10, 107, 61] ++ (120 :: P)) ++ [32]) ++ (121 :: Q)) ++ [10, 122, 61, 49, 10]) = U11 at *
  generalize bs ((([91, 83, 93, 10, 107, 61] ++ (120 :: P)) ++ [32]) ++ (121 :: Q)) = U10 at *
  generalize bs (([91, 83, 93, 10, 107, 61] ++ (120 :: P)) ++ [32]) = U9 at *
  generalize bs ((((((([91, 83, 93, 10, 107, 61] ++ (120 :: P)) ++ [92, 10]) ++ [32, 35, 32]) ++ Q) ++ [92, 10, 59, 10]) ++ (121 :: Q)) ++ [10, 122, 61, 49, 10]) = U8 at *
  generalize bs (((((([91, 83, 93, 10, 107, 61] ++ (120 :: P)) ++ [92, 10]) ++ [32, 35, 32]) ++ Q) ++ [92, 10, 59, 10]) ++ (121 :: Q)) = U7 at *
  generalize bs ((((([91, 83, 93, 10, 107, 61] ++ (120 :: P)) ++ [92, 10]) ++ [32, 35, 32]) ++ Q) ++ [92, 10, 59, 10]) = U6 at *
  generalize bs (((([91, 83, 93, 10, 107, 61] ++ (120 :: P)) ++ [92, 10]) ++ [32, 35, 32]) ++ Q) = U5 at *
  generalize bs ((([91, 83, 93, 10, 107, 61] ++ (120 :: P)) ++ [92, 10]) ++ [32, 35, 32]) = U4 at *
  generalize bs (([91, 83, 93, 10, 107, 61] ++ (120 :: P)) ++ [92, 10]) = U3 at *
  generalize bs ([91, 83, 93, 10, 107, 61] ++ (120 :: P)) = U2 at *
  generalize bs (121 :: Q) = U1 at *
  generalize bs (120 :: P) = U0 at *
  generalize bs P = SP at *
  generalize bs Q = SQ at *
  generalize bs a = SA at *
  generalize bs b = SB at *
  go_enter Tryd.func7, Tryd.ntmps7
  go_wp2_with (first
    | (go_at_call 11; refine (HP1.out _ Z0.out).mono ?_; clear HP1; rintro e V1 ⟨rfl, hg⟩; have Z1 := Lib.hid hg; clear hg)
    | (go_at_call 11; refine (HP2.out _ Z1.out).mono ?_; rintro e V2 ⟨rfl, hg⟩; have Z2 := Lib.hid hg; clear hg Z1)
    | (go_at_call 11; refine (HP2.out _ Z2.out).mono ?_; clear HP2; rintro e V3 ⟨rfl, hg⟩; have Z3 := Lib.hid hg; clear hg)
    | (go_at_call 9; refine (HA.out _ Z3.out).mono ?_; clear HA; rintro e V4 ⟨g1, cap1, q1, d1, rfl, ht, hg, _⟩; have Z4 := Lib.hid hg; have T4 := Lib.hid ht; clear hg ht)
    | (go_at_call 9; refine (HB.out _ Z4.out).mono ?_; clear HB; rintro e V5 ⟨g2, cap2, q2, d2, rfl, ht, hg, hb⟩; have Z5 := Lib.hid hg; have TA5 := Lib.hid (T4.out.keep hb); have TB5 := Lib.hid ht; clear hg hb ht)
    | fail)
  have KEEP := Lib.hid (show ∀ u, Below V5.heap.size V5 u → (u.cell? ⟨g1, 0, none⟩ = some (.int .i64 2) ∧ u.cell? ⟨g1, 1, none⟩ = some (.string ⟨#[83]⟩) ∧ u.cell? ⟨g1, 2, none⟩ = some (.string SK) ∧ u.cell? ⟨g1, 3, none⟩ = some (.string SV) ∧ u.cell? ⟨g1, 4, none⟩ = some (.int .i64 6) ∧ u.cell? ⟨g1, 7, none⟩ = some (.string ⟨#[49]⟩) ∧ u.cell? ⟨g2, 0, none⟩ = some (.int .i64 2) ∧ u.cell? ⟨g2, 1, none⟩ = some (.string ⟨#[83]⟩) ∧ u.cell? ⟨g2, 2, none⟩ = some (.string SK) ∧ u.cell? ⟨g2, 3, none⟩ = some (.string SV) ∧ u.cell? ⟨g2, 4, none⟩ = some (.int .i64 3) ∧ u.cell? ⟨g2, 7, none⟩ = some (.string ⟨#[49]⟩) ∧ Below V5.heap.size V5 u) from fun u hb => by
    have t := TA5.out.keep hb
    have s := TB5.out.keep hb
    exact ⟨t.c0, t.c1, t.c2, t.c3, t.c4, t.c7, s.c0, s.c1, s.c2, s.c3, s.c4, s.c7, hb⟩)
  have HWK : Hid (∀ V, Below V5.heap.size V5 V → Calls Tryd.prog 8 #[] V fun e w' => e = .returned (.bool true) ∧ Below V5.heap.size V5 w') := Lib.hid fun V hV => (HWB.out V (Z5.out.keep hV)).mono fun e w' ⟨he, hb⟩ => ⟨he, hV.trans (hb.mono hV.size)⟩
  clear a0 a1 a2 a3 a4 a5 a6 a7 hc1 hc2
  go_region_held3 (fun u => u.cell? ⟨g1, 0, none⟩ = some (.int .i64 2) ∧ u.cell? ⟨g1, 1, none⟩ = some (.string ⟨#[83]⟩) ∧ u.cell? ⟨g1, 2, none⟩ = some (.string SK) ∧ u.cell? ⟨g1, 3, none⟩ = some (.string SV) ∧ u.cell? ⟨g1, 4, none⟩ = some (.int .i64 6) ∧ u.cell? ⟨g1, 7, none⟩ = some (.string ⟨#[49]⟩) ∧ u.cell? ⟨g2, 0, none⟩ = some (.int .i64 2) ∧ u.cell? ⟨g2, 1, none⟩ = some (.string ⟨#[83]⟩) ∧ u.cell? ⟨g2, 2, none⟩ = some (.string SK) ∧ u.cell? ⟨g2, 3, none⟩ = some (.string SV) ∧ u.cell? ⟨g2, 4, none⟩ = some (.int .i64 3) ∧ u.cell? ⟨g2, 7, none⟩ = some (.string ⟨#[49]⟩) ∧ Below V5.heap.size V5 u)
    (first | exact KEEP.out _ (by assumption) | exact KEEP.out _ (Below.refl _ _).drew)
    (first
      | (go_at_call 8; (with_reducible refine (HWK.out _ (by first | assumption | exact (Below.refl _ _).drew)).mono ?_); rintro e w' ⟨rfl, hk⟩))
  go_wp2
  go_ret
  exact ⟨rfl, Z5.out.2.2.trans (hk.mono Z5.out.2.2.size)⟩
theorem linesJoined_any (m : Int) (a b : ByteArray) (c : Bool) (w : World) (hm : w.cell? ⟨0, 0, none⟩ = some (.int .i64 m)) (h0 : 0 < w.heap.size) :
    Calls Tryd.prog 7 #[.string a, .string b, .bool c] w fun e w' => e = .returned (.bool true) ∧ Below w.heap.size w w' := by
  have hj : Jw m w w := ⟨hm, h0, Below.refl _ _⟩
  rw [← bs_of a, ← bs_of b]
  generalize a.data.toList = x
  generalize b.data.toList = y
  by_cases h1 : (200 : Int) < ((bs x).size : Int)
  · exact joined_long m x y c (.inl h1) w hj
  by_cases h2 : (200 : Int) < ((bs y).size : Int)
  · exact joined_long m x y c (.inr ⟨h1, h2⟩) w hj
  rw [bs_size] at h1 h2
  cases c with
  | true => exact joined_c m x y (by omega) (by omega) w hj
  | false => exact joined_n m x y (by omega) (by omega) w hj
end Go.Proofs.YtcmkpjfngceihaaDoor.Ln
