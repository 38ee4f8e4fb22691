/-
  Layer 7 (footer): Parse of any text (written by gen_fo7p.py).
-/
import Derived.Test.YtkfhipkcnocokaaDoorFoWhole
namespace Go.Proofs.YtkfhipkcnocokaaDoor.Fo
open Go.RowKit

theorem rd_new (W : World) (s : ByteArray) (t : TypeId) : Rd (W.alloc (.cells #[.string s, .bool false] t)) W.heap.size ⟨s.data.toList, false⟩ :=
  ⟨by rw [bs_of]; exact cell_new W _ t _ 0 _ rfl rfl, cell_new W _ t _ 1 _ rfl rfl, fun i => alloc_loose W _ t i⟩
/-- What Parse keeps: its result's block, the reader's behind it. -/
structure Pk (w V : World) (s : St) : Prop where
  rd : Rd V (w.heap.size + 1) s
  r : RlAt V w.heap.size rl0
  b : Below w.heap.size w V
  er : Er V
  hi : Hi w.heap.size
section
variable {w V V' : World} {s s' : St}
theorem Pk.start (w : World) (h : Er w) (t : ByteArray) (ty ty2 : TypeId) : Pk w ((w.alloc (.cells #[.string ⟨#[]⟩, .string ⟨#[]⟩, .int .i64 0, .int .i64 0, .int .u8 0, .int .i64 0, .int .i64 0, .int .i64 0, .int .i64 0, .int .u8 0, .int .i64 0, .int .i64 0, .int .i64 0, .int .i64 0] ty)).alloc (.cells #[.string t, .bool false] ty2)) ⟨t.data.toList, false⟩ := by
  have s1 : (w.alloc (.cells #[.string ⟨#[]⟩, .string ⟨#[]⟩, .int .i64 0, .int .i64 0, .int .u8 0, .int .i64 0, .int .i64 0, .int .i64 0, .int .i64 0, .int .u8 0, .int .i64 0, .int .i64 0, .int .i64 0, .int .i64 0] ty)).heap.size = w.heap.size + 1 := by simp
  have hb := ((Below.refl w.heap.size w).alloc (Nat.le_refl _) (.cells #[.string ⟨#[]⟩, .string ⟨#[]⟩, .int .i64 0, .int .i64 0, .int .u8 0, .int .i64 0, .int .i64 0, .int .i64 0, .int .i64 0, .int .u8 0, .int .i64 0, .int .i64 0, .int .i64 0, .int .i64 0] ty)).alloc (by simp) (.cells #[.string t, .bool false] ty2)
  refine ⟨?_, ?_, hb, h.below hb h.hi, h.hi⟩
  · have := rd_new (w.alloc (.cells #[.string ⟨#[]⟩, .string ⟨#[]⟩, .int .i64 0, .int .i64 0, .int .u8 0, .int .i64 0, .int .i64 0, .int .i64 0, .int .i64 0, .int .u8 0, .int .i64 0, .int .i64 0, .int .i64 0, .int .i64 0] ty)) t ty2
    rwa [s1] at this
  · exact (RlAt.new w rl0 ty).below (G := w.heap.size + 1) ((Below.refl _ _).alloc (by simp) _) (Nat.lt_succ_self _)
theorem Pk.keep (h : Pk w V s) (hb : Below V.heap.size V V') : Pk w V' s :=
  ⟨h.rd.keep hb, h.r.below hb h.r.lt, h.b.trans (hb.mono h.b.size), h.er.below hb h.er.hi, h.hi⟩
theorem Pk.rule (h : Pk w V s) (hz : s.left.length ≤ 100000) : Calls Tryd.prog 34 #[.pointer (some ⟨w.heap.size + 1, 0, none⟩)] V fun e w' => e = .returned (rlV (ruleV s)) ∧ Pk w w' (ruleS s) :=
  (rule_any s (w.heap.size + 1) V V ⟨h.rd, World.grownBy.refl _ _, h.er, h.hi.mono (Nat.le_succ _), hz⟩ (Nat.le_refl _)).mono fun e w' ⟨he, hk⟩ =>
    ⟨he, hk.rd, h.r.gb hk.gb (by omega), h.b.trans (below_of_gb hk.gb (Nat.le_succ _) h.b.size), hk.er, h.hi⟩
theorem Pk.done (h : Pk w V s) (x0 x1 x2 x3 x4 x5 x6 x7 x8 x9 x10 x11 x12 x13 : Value) : Below w.heap.size w ((((((((((((((V.setCell ⟨w.heap.size, 0, none⟩ x0).setCell ⟨w.heap.size, 1, none⟩ x1).setCell ⟨w.heap.size, 2, none⟩ x2).setCell ⟨w.heap.size, 3, none⟩ x3).setCell ⟨w.heap.size, 4, none⟩ x4).setCell ⟨w.heap.size, 5, none⟩ x5).setCell ⟨w.heap.size, 6, none⟩ x6).setCell ⟨w.heap.size, 7, none⟩ x7).setCell ⟨w.heap.size, 8, none⟩ x8).setCell ⟨w.heap.size, 9, none⟩ x9).setCell ⟨w.heap.size, 10, none⟩ x10).setCell ⟨w.heap.size, 11, none⟩ x11).setCell ⟨w.heap.size, 12, none⟩ x12).setCell ⟨w.heap.size, 13, none⟩ x13) :=
  (((((((((((((h.b.setCell (Nat.le_refl _) _).setCell (Nat.le_refl _) _).setCell (Nat.le_refl _) _).setCell (Nat.le_refl _) _).setCell (Nat.le_refl _) _).setCell (Nat.le_refl _) _).setCell (Nat.le_refl _) _).setCell (Nat.le_refl _) _).setCell (Nat.le_refl _) _).setCell (Nat.le_refl _) _).setCell (Nat.le_refl _) _).setCell (Nat.le_refl _) _).setCell (Nat.le_refl _) _).setCell (Nat.le_refl _) _
end
set_option maxRecDepth 100000 in
set_option maxHeartbeats 800000 in
theorem parse_a (s : ByteArray) (w : World) (hs : 100 < s.size) : Calls Tryd.prog 15 #[.string s] w fun e w' => e = .returned (.tuple #[rlV rl0, .int .i64 70]) ∧ Below w.heap.size w w' := by
  have h1 : (100 : Int) < (s.size : Int) := by omega
  have R0 : Hid (RlAt (w.alloc (.cells #[.string ⟨#[]⟩, .string ⟨#[]⟩, .int .i64 0, .int .i64 0, .int .u8 0, .int .i64 0, .int .i64 0, .int .i64 0, .int .i64 0, .int .u8 0, .int .i64 0, .int .i64 0, .int .i64 0, .int .i64 0] 25)) w.heap.size rl0) := Lib.hid (RlAt.new w rl0 25)
  have hb : Below w.heap.size w (w.alloc (.cells #[.string ⟨#[]⟩, .string ⟨#[]⟩, .int .i64 0, .int .i64 0, .int .u8 0, .int .i64 0, .int .i64 0, .int .i64 0, .int .i64 0, .int .u8 0, .int .i64 0, .int .i64 0, .int .i64 0, .int .i64 0] 25)) := (Below.refl _ _).alloc (Nat.le_refl _) _
  clear hs
  go_enter Tryd.func15, Tryd.ntmps15
  go_wp2_with fail
  exact bodyPost_ret (v := .tuple #[rlV rl0, .int .i64 70]) (by simp [results, Tryd.results15, go_sem, rl0, dy0]) rfl ⟨rfl, hb⟩
set_option maxRecDepth 100000 in
set_option maxHeartbeats 4000000 in
theorem parse_b (s : ByteArray) (s1 : St) (r : Rl) (w : World) (her : Er w) (hs : ¬ 100 < s.size) (e1 : ruleS ⟨s.data.toList, false⟩ = s1) (v1 : ruleV ⟨s.data.toList, false⟩ = r) (hw1 : s1.wrong = true) : Calls Tryd.prog 15 #[.string s] w fun e w' => e = .returned (.tuple #[rlV rl0, .int .i64 70]) ∧ Below w.heap.size w w' := by
  have hz : s.data.toList.length ≤ 100000 := by rw [← Lib.size_eq]; omega
  have h1 : ¬ (100 : Int) < (s.size : Int) := by omega
  have H1 : Hid (∀ V, Pk w V ⟨s.data.toList, false⟩ → Calls Tryd.prog 34 #[.pointer (some ⟨w.heap.size + 1, 0, none⟩)] V fun e w' => e = .returned (rlV r) ∧ Pk w w' s1) := Lib.hid fun V hV => by have := hV.rule hz; rwa [e1, v1] at this
  have K0 := Lib.hid (Pk.start w her s 25 63)
  clear her hs e1 v1 hz
  go_enter Tryd.func15, Tryd.ntmps15
  go_wp2_with (first
    | (go_at_call 34; refine (H1.out _ K0.out).mono ?_; clear H1; rintro e V1 ⟨rfl, hk⟩; have K1 := Lib.hid hk; clear hk; have D1 := Lib.hid (RlAt.new V1 r 25); have K2 : Hid (Pk w (V1.alloc (.cells #[.string r.std, .string r.dst, .int .i64 r.off, .int .i64 r.dstOff, .int .u8 r.start.kind, .int .i64 r.start.month, .int .i64 r.start.week, .int .i64 r.start.day, .int .i64 r.start.time, .int .u8 r.end_.kind, .int .i64 r.end_.month, .int .i64 r.end_.week, .int .i64 r.end_.day, .int .i64 r.end_.time] 25)) s1) := Lib.hid (K1.out.keep ((Below.refl _ _).alloc (Nat.le_refl _) _)); have c0 := K2.out.rd.c0; have c1 := K2.out.rd.c1; rw [hw1] at c1; have r0 := K2.out.r.c0; have g0 := K2.out.r.fr 0; have r1 := K2.out.r.c1; have g1 := K2.out.r.fr 1; have r2 := K2.out.r.c2; have g2 := K2.out.r.fr 2; have r3 := K2.out.r.c3; have g3 := K2.out.r.fr 3; have r4 := K2.out.r.c4; have g4 := K2.out.r.fr 4; have r5 := K2.out.r.c5; have g5 := K2.out.r.fr 5; have r6 := K2.out.r.c6; have g6 := K2.out.r.fr 6; have r7 := K2.out.r.c7; have g7 := K2.out.r.fr 7; have r8 := K2.out.r.c8; have g8 := K2.out.r.fr 8; have r9 := K2.out.r.c9; have g9 := K2.out.r.fr 9; have r10 := K2.out.r.c10; have g10 := K2.out.r.fr 10; have r11 := K2.out.r.c11; have g11 := K2.out.r.fr 11; have r12 := K2.out.r.c12; have g12 := K2.out.r.fr 12; have r13 := K2.out.r.c13; have g13 := K2.out.r.fr 13)
    | fail)
  exact bodyPost_ret (v := .tuple #[rlV rl0, .int .i64 70]) (by simp [results, Tryd.results15, go_sem, rl0, dy0, r0, r1, r2, r3, r4, r5, r6, r7, r8, r9, r10, r11, r12, r13]) rfl ⟨rfl, K2.out.done _ _ _ _ _ _ _ _ _ _ _ _ _ _⟩
set_option maxRecDepth 100000 in
set_option maxHeartbeats 4000000 in
theorem parse_c (s : ByteArray) (s1 : St) (r : Rl) (w : World) (her : Er w) (hs : ¬ 100 < s.size) (e1 : ruleS ⟨s.data.toList, false⟩ = s1) (v1 : ruleV ⟨s.data.toList, false⟩ = r) (hw1 : s1.wrong = false) (hl : s1.left ≠ []) : Calls Tryd.prog 15 #[.string s] w fun e w' => e = .returned (.tuple #[rlV rl0, .int .i64 70]) ∧ Below w.heap.size w w' := by
  have hz : s.data.toList.length ≤ 100000 := by rw [← Lib.size_eq]; omega
  have h1 : ¬ (100 : Int) < (s.size : Int) := by omega
  have H1 : Hid (∀ V, Pk w V ⟨s.data.toList, false⟩ → Calls Tryd.prog 34 #[.pointer (some ⟨w.heap.size + 1, 0, none⟩)] V fun e w' => e = .returned (rlV r) ∧ Pk w w' s1) := Lib.hid fun V hV => by have := hV.rule hz; rwa [e1, v1] at this
  have K0 := Lib.hid (Pk.start w her s 25 63)
  have hn : (bs s1.left).toList.isEmpty = false := ne_empty (fun k => hl (List.eq_nil_of_length_eq_zero k))
  clear her hs e1 v1 hz
  go_enter Tryd.func15, Tryd.ntmps15
  go_wp2_with (first
    | (go_at_call 34; refine (H1.out _ K0.out).mono ?_; clear H1; rintro e V1 ⟨rfl, hk⟩; have K1 := Lib.hid hk; clear hk; have D1 := Lib.hid (RlAt.new V1 r 25); have K2 : Hid (Pk w (V1.alloc (.cells #[.string r.std, .string r.dst, .int .i64 r.off, .int .i64 r.dstOff, .int .u8 r.start.kind, .int .i64 r.start.month, .int .i64 r.start.week, .int .i64 r.start.day, .int .i64 r.start.time, .int .u8 r.end_.kind, .int .i64 r.end_.month, .int .i64 r.end_.week, .int .i64 r.end_.day, .int .i64 r.end_.time] 25)) s1) := Lib.hid (K1.out.keep ((Below.refl _ _).alloc (Nat.le_refl _) _)); have c0 := K2.out.rd.c0; have c1 := K2.out.rd.c1; rw [hw1] at c1; have r0 := K2.out.r.c0; have g0 := K2.out.r.fr 0; have r1 := K2.out.r.c1; have g1 := K2.out.r.fr 1; have r2 := K2.out.r.c2; have g2 := K2.out.r.fr 2; have r3 := K2.out.r.c3; have g3 := K2.out.r.fr 3; have r4 := K2.out.r.c4; have g4 := K2.out.r.fr 4; have r5 := K2.out.r.c5; have g5 := K2.out.r.fr 5; have r6 := K2.out.r.c6; have g6 := K2.out.r.fr 6; have r7 := K2.out.r.c7; have g7 := K2.out.r.fr 7; have r8 := K2.out.r.c8; have g8 := K2.out.r.fr 8; have r9 := K2.out.r.c9; have g9 := K2.out.r.fr 9; have r10 := K2.out.r.c10; have g10 := K2.out.r.fr 10; have r11 := K2.out.r.c11; have g11 := K2.out.r.fr 11; have r12 := K2.out.r.c12; have g12 := K2.out.r.fr 12; have r13 := K2.out.r.c13; have g13 := K2.out.r.fr 13)
    | fail)
  exact bodyPost_ret (v := .tuple #[rlV rl0, .int .i64 70]) (by simp [results, Tryd.results15, go_sem, rl0, dy0, r0, r1, r2, r3, r4, r5, r6, r7, r8, r9, r10, r11, r12, r13]) rfl ⟨rfl, K2.out.done _ _ _ _ _ _ _ _ _ _ _ _ _ _⟩
set_option maxRecDepth 100000 in
set_option maxHeartbeats 4000000 in
theorem parse_d (s : ByteArray) (s1 : St) (r : Rl) (w : World) (her : Er w) (hs : ¬ 100 < s.size) (e1 : ruleS ⟨s.data.toList, false⟩ = s1) (v1 : ruleV ⟨s.data.toList, false⟩ = r) (hw1 : s1.wrong = false) (hl : s1.left = []) (hr : rightR r = false) : Calls Tryd.prog 15 #[.string s] w fun e w' => e = .returned (.tuple #[rlV rl0, .int .i64 70]) ∧ Below w.heap.size w w' := by
  have hz : s.data.toList.length ≤ 100000 := by rw [← Lib.size_eq]; omega
  have h1 : ¬ (100 : Int) < (s.size : Int) := by omega
  have H1 : Hid (∀ V, Pk w V ⟨s.data.toList, false⟩ → Calls Tryd.prog 34 #[.pointer (some ⟨w.heap.size + 1, 0, none⟩)] V fun e w' => e = .returned (rlV r) ∧ Pk w w' s1) := Lib.hid fun V hV => by have := hV.rule hz; rwa [e1, v1] at this
  have H2 : Hid (∀ V, Calls Tryd.prog 13 #[rlV r] V fun e w' => e = .returned (.bool false) ∧ Below V.heap.size V w') := Lib.hid fun V => by have := right_any r V; rwa [hr] at this
  have K0 := Lib.hid (Pk.start w her s 25 63)
  have hl1 : bs s1.left = ⟨#[]⟩ := by rw [hl]
  clear hl
  clear her hs e1 v1 hz hr
  go_enter Tryd.func15, Tryd.ntmps15
  go_wp2_with (first
    | (go_at_call 34; refine (H1.out _ K0.out).mono ?_; clear H1; rintro e V1 ⟨rfl, hk⟩; have K1 := Lib.hid hk; clear hk; have D1 := Lib.hid (RlAt.new V1 r 25); have K2 : Hid (Pk w (V1.alloc (.cells #[.string r.std, .string r.dst, .int .i64 r.off, .int .i64 r.dstOff, .int .u8 r.start.kind, .int .i64 r.start.month, .int .i64 r.start.week, .int .i64 r.start.day, .int .i64 r.start.time, .int .u8 r.end_.kind, .int .i64 r.end_.month, .int .i64 r.end_.week, .int .i64 r.end_.day, .int .i64 r.end_.time] 25)) s1) := Lib.hid (K1.out.keep ((Below.refl _ _).alloc (Nat.le_refl _) _)); have c0 := K2.out.rd.c0; have c1 := K2.out.rd.c1; rw [hw1] at c1; rw [hl1] at c0; have p0 := D1.out.c0; have p1 := D1.out.c1; have p2 := D1.out.c2; have p3 := D1.out.c3; have p4 := D1.out.c4; have p5 := D1.out.c5; have p6 := D1.out.c6; have p7 := D1.out.c7; have p8 := D1.out.c8; have p9 := D1.out.c9; have p10 := D1.out.c10; have p11 := D1.out.c11; have p12 := D1.out.c12; have p13 := D1.out.c13)
    | (go_at_call 13; refine (H2.out _).mono ?_; clear H2; rintro e V3 ⟨rfl, hb⟩; have K3 := Lib.hid (K2.out.keep hb); have D3 := Lib.hid (D1.out.below hb D1.out.lt); clear hb c0 c1; have r0 := K3.out.r.c0; have g0 := K3.out.r.fr 0; have r1 := K3.out.r.c1; have g1 := K3.out.r.fr 1; have r2 := K3.out.r.c2; have g2 := K3.out.r.fr 2; have r3 := K3.out.r.c3; have g3 := K3.out.r.fr 3; have r4 := K3.out.r.c4; have g4 := K3.out.r.fr 4; have r5 := K3.out.r.c5; have g5 := K3.out.r.fr 5; have r6 := K3.out.r.c6; have g6 := K3.out.r.fr 6; have r7 := K3.out.r.c7; have g7 := K3.out.r.fr 7; have r8 := K3.out.r.c8; have g8 := K3.out.r.fr 8; have r9 := K3.out.r.c9; have g9 := K3.out.r.fr 9; have r10 := K3.out.r.c10; have g10 := K3.out.r.fr 10; have r11 := K3.out.r.c11; have g11 := K3.out.r.fr 11; have r12 := K3.out.r.c12; have g12 := K3.out.r.fr 12; have r13 := K3.out.r.c13; have g13 := K3.out.r.fr 13)
    | fail)
  exact bodyPost_ret (v := .tuple #[rlV rl0, .int .i64 70]) (by simp [results, Tryd.results15, go_sem, rl0, dy0, r0, r1, r2, r3, r4, r5, r6, r7, r8, r9, r10, r11, r12, r13]) rfl ⟨rfl, K3.out.done _ _ _ _ _ _ _ _ _ _ _ _ _ _⟩
set_option maxRecDepth 100000 in
set_option maxHeartbeats 4000000 in
theorem parse_e (s : ByteArray) (s1 : St) (r : Rl) (w : World) (her : Er w) (hs : ¬ 100 < s.size) (e1 : ruleS ⟨s.data.toList, false⟩ = s1) (v1 : ruleV ⟨s.data.toList, false⟩ = r) (hw1 : s1.wrong = false) (hl : s1.left = []) (hr : rightR r = true) : Calls Tryd.prog 15 #[.string s] w fun e w' => e = .returned (.tuple #[rlV r, .int .i64 0]) ∧ Below w.heap.size w w' := by
  have hz : s.data.toList.length ≤ 100000 := by rw [← Lib.size_eq]; omega
  have h1 : ¬ (100 : Int) < (s.size : Int) := by omega
  have H1 : Hid (∀ V, Pk w V ⟨s.data.toList, false⟩ → Calls Tryd.prog 34 #[.pointer (some ⟨w.heap.size + 1, 0, none⟩)] V fun e w' => e = .returned (rlV r) ∧ Pk w w' s1) := Lib.hid fun V hV => by have := hV.rule hz; rwa [e1, v1] at this
  have H2 : Hid (∀ V, Calls Tryd.prog 13 #[rlV r] V fun e w' => e = .returned (.bool true) ∧ Below V.heap.size V w') := Lib.hid fun V => by have := right_any r V; rwa [hr] at this
  have K0 := Lib.hid (Pk.start w her s 25 63)
  have hl1 : bs s1.left = ⟨#[]⟩ := by rw [hl]
  clear hl
  clear her hs e1 v1 hz hr
  go_enter Tryd.func15, Tryd.ntmps15
  go_wp2_with (first
    | (go_at_call 34; refine (H1.out _ K0.out).mono ?_; clear H1; rintro e V1 ⟨rfl, hk⟩; have K1 := Lib.hid hk; clear hk; have D1 := Lib.hid (RlAt.new V1 r 25); have K2 : Hid (Pk w (V1.alloc (.cells #[.string r.std, .string r.dst, .int .i64 r.off, .int .i64 r.dstOff, .int .u8 r.start.kind, .int .i64 r.start.month, .int .i64 r.start.week, .int .i64 r.start.day, .int .i64 r.start.time, .int .u8 r.end_.kind, .int .i64 r.end_.month, .int .i64 r.end_.week, .int .i64 r.end_.day, .int .i64 r.end_.time] 25)) s1) := Lib.hid (K1.out.keep ((Below.refl _ _).alloc (Nat.le_refl _) _)); have c0 := K2.out.rd.c0; have c1 := K2.out.rd.c1; rw [hw1] at c1; rw [hl1] at c0; have p0 := D1.out.c0; have p1 := D1.out.c1; have p2 := D1.out.c2; have p3 := D1.out.c3; have p4 := D1.out.c4; have p5 := D1.out.c5; have p6 := D1.out.c6; have p7 := D1.out.c7; have p8 := D1.out.c8; have p9 := D1.out.c9; have p10 := D1.out.c10; have p11 := D1.out.c11; have p12 := D1.out.c12; have p13 := D1.out.c13)
    | (go_at_call 13; refine (H2.out _).mono ?_; clear H2; rintro e V3 ⟨rfl, hb⟩; have K3 := Lib.hid (K2.out.keep hb); have D3 := Lib.hid (D1.out.below hb D1.out.lt); clear hb c0 c1; have r0 := K3.out.r.c0; have g0 := K3.out.r.fr 0; have r1 := K3.out.r.c1; have g1 := K3.out.r.fr 1; have r2 := K3.out.r.c2; have g2 := K3.out.r.fr 2; have r3 := K3.out.r.c3; have g3 := K3.out.r.fr 3; have r4 := K3.out.r.c4; have g4 := K3.out.r.fr 4; have r5 := K3.out.r.c5; have g5 := K3.out.r.fr 5; have r6 := K3.out.r.c6; have g6 := K3.out.r.fr 6; have r7 := K3.out.r.c7; have g7 := K3.out.r.fr 7; have r8 := K3.out.r.c8; have g8 := K3.out.r.fr 8; have r9 := K3.out.r.c9; have g9 := K3.out.r.fr 9; have r10 := K3.out.r.c10; have g10 := K3.out.r.fr 10; have r11 := K3.out.r.c11; have g11 := K3.out.r.fr 11; have r12 := K3.out.r.c12; have g12 := K3.out.r.fr 12; have r13 := K3.out.r.c13; have g13 := K3.out.r.fr 13; have p0 := D3.out.c0; have p1 := D3.out.c1; have p2 := D3.out.c2; have p3 := D3.out.c3; have p4 := D3.out.c4; have p5 := D3.out.c5; have p6 := D3.out.c6; have p7 := D3.out.c7; have p8 := D3.out.c8; have p9 := D3.out.c9; have p10 := D3.out.c10; have p11 := D3.out.c11; have p12 := D3.out.c12; have p13 := D3.out.c13)
    | fail)
  exact bodyPost_ret (v := .tuple #[rlV r, .int .i64 0]) (by simp [results, Tryd.results15, go_sem, rl0, dy0, r0, r1, r2, r3, r4, r5, r6, r7, r8, r9, r10, r11, r12, r13]) rfl ⟨rfl, K3.out.done _ _ _ _ _ _ _ _ _ _ _ _ _ _⟩
/-- Parse of any text. -/
def parseE (s : ByteArray) : Value := match parseR s with
  | some r => .tuple #[rlV r, .int .i64 0]
  | none => .tuple #[rlV rl0, .int .i64 70]
theorem parse_any (s : ByteArray) (w : World) (her : Er w) : Calls Tryd.prog 15 #[.string s] w fun e w' => e = .returned (parseE s) ∧ Below w.heap.size w w' := by
  unfold parseE parseR
  by_cases hs : 100 < s.size
  · simp only [hs, if_true]
    exact parse_a s w hs
  · simp only [hs, if_false]
    cases hw : (ruleS ⟨s.data.toList, false⟩).wrong with
    | true =>
      simp only [if_true]
      exact parse_b s _ _ w her hs rfl rfl hw
    | false =>
      simp only [Bool.false_eq_true, if_false]
      by_cases hl : (ruleS ⟨s.data.toList, false⟩).left = []
      · simp only [hl, ne_eq, not_true_eq_false, if_false]
        cases hr : rightR (ruleV ⟨s.data.toList, false⟩) with
        | false =>
          simp only [Bool.false_eq_true, if_false]
          exact parse_d s _ _ w her hs rfl rfl hw hl hr
        | true =>
          simp only [if_true]
          exact parse_e s _ _ w her hs rfl rfl hw hl hr
      · simp only [hl, ne_eq, not_false_eq_true, if_true]
        exact parse_c s _ _ w her hs rfl rfl hw hl
end Go.Proofs.YtkfhipkcnocokaaDoor.Fo
