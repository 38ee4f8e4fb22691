/-
  Layer 6 (tzif): the other ways out of parse and Parse (written by gen_ka6.py out of TzBt).
-/
import Derived.Test.YtohpdpcjhmopbaaTzBx
import Derived.RegionTactic
import Derived.ChangeAlike
namespace Go.Proofs.Ytohpdpcjhmopbaa.Tz
open Go.RowKit

set_option maxRecDepth 100000 in
set_option maxHeartbeats 1000000 in
theorem parse_v (l l4 : List Nat) (B g : Nat) (m : Int) (w : World) (h : Rd w B g l) (hB : 0 < B) (h0 : w.cell? ⟨0, 0, none⟩ = some (.int .i64 m)) (hb : ∀ b ∈ l, b < 256) (hq : hdGood l = true) (hv : l.getD 4 0 ≠ 0) (ho : HdOk (hdOf l)) (hl : longN (hdOf l) 4 ≤ (l.drop 44).length) (hq2 : hdGood ((l.drop 44).drop (longN (hdOf l) 4)) = true)
    (hv2 : (hdOf ((l.drop 44).drop (longN (hdOf l) 4))).version ≠ (hdOf l).version) (e4 : ((l.drop 44).drop (longN (hdOf l) 4)).drop 44 = l4) :
    Calls Try.prog 39 #[.pointer (some ⟨g, 0, none⟩)] w fun e w' => e = .returned (.tuple #[noZone, .bool false]) ∧ w.grownBy w' (some g) := by
  have K0 := Lib.hid (Pk.start h h0)
  obtain ⟨X, hX⟩ : ∃ X, w.alloc (.cells #[.slice none 0 0, .slice none 0 0, .slice none 0 0, .string ⟨#[]⟩] 26) = X := ⟨_, rfl⟩
  rw [hX] at K0
  have HH : Hid (Calls Try.prog 44 #[.pointer (some ⟨g, 0, none⟩)] X fun e w' => e = .returned (.tuple #[hdVal (hdOf l), .bool true]) ∧ Rd w' B g (l.drop 44) ∧ X.grownBy w' (some g)) := Lib.hid (head_yes l B g X K0.out.rd hb hq)
  have HL : Hid (∀ V, Calls Try.prog 23 #[hdVal (hdOf l), .int .i64 4] V fun e w' => e = .returned (.int .i64 (longN (hdOf l) 4)) ∧ Below V.heap.size V w') := Lib.hid fun V => blockLong_any (hdOf l) 4 (.inl rfl) ho V
  have hver : (hdOf l).version = l.getD 4 0 := rfl
  rw [← hver] at hv
  obtain ⟨h1, e1⟩ : ∃ h1, hdOf l = h1 := ⟨_, rfl⟩
  obtain ⟨l2, e2⟩ : ∃ l2, l.drop 44 = l2 := ⟨_, rfl⟩
  have hb2 : ∀ b ∈ l2, b < 256 := fun b hx => hb b (by rw [← e2] at hx; exact List.mem_of_mem_drop hx)
  rw [e1, e2] at HH
  rw [e1] at HL hv
  rw [e1, e2] at hl hq2 hv2 e4
  obtain ⟨Nn, hN⟩ : ∃ Nn, longN h1 4 = Nn := ⟨_, rfl⟩
  rw [hN] at HL hl hq2 hv2 e4
  obtain ⟨l3, e3⟩ : ∃ l3, l2.drop Nn = l3 := ⟨_, rfl⟩
  rw [e3] at hq2 hv2 e4
  obtain ⟨h2, e5⟩ : ∃ h2, hdOf l3 = h2 := ⟨_, rfl⟩
  have hb3 : ∀ b ∈ l3, b < 256 := fun b hx => hb2 b (by rw [← e3] at hx; exact List.mem_of_mem_drop hx)
  have HN : Hid (∀ V, Rd V B g l2 → Calls Try.prog 46 #[.pointer (some ⟨g, 0, none⟩), .int .i64 Nn] V fun e w' => e = .returned (.bool true) ∧ V = w') := Lib.hid fun V hr => by
    have := has_any l2 B g Nn V hr
    rwa [show decide ((Nn : Int) ≤ (l2.length : Int)) = true by simp; omega] at this
  have HL2 := HL
  have HT : Hid (∀ V, Rd V B g l2 → Calls Try.prog 47 #[.pointer (some ⟨g, 0, none⟩), .int .i64 Nn] V fun e w' => (∃ A c, e = .returned (.slice A Nn c)) ∧ Rd w' B g l3 ∧ V.grownBy w' (some g)) := Lib.hid fun V hr => by
    refine (take_any l2 B g Nn V hr hl).mono ?_
    rintro e w' ⟨A, c, he, _, h1, h2⟩
    rw [e3] at h1
    exact ⟨⟨A, c, he⟩, h1, h2⟩
  have HH2 : Hid (∀ V, Rd V B g l3 → Calls Try.prog 44 #[.pointer (some ⟨g, 0, none⟩)] V fun e w' => e = .returned (.tuple #[hdVal h2, .bool true]) ∧ Rd w' B g l4 ∧ V.grownBy w' (some g)) := Lib.hid fun V hr => by
    have := head_yes l3 B g V hr hb3 hq2
    rwa [e4, e5] at this
  rw [e5] at hv2
  have HB := Lib.hid hB
  clear hq hq2 hb hb2 hb3 hl hN e1 e2 e3 e4 e5 hB ho h h0 hver
  have v0 : decide ((h1.version : Int) = 0) = false := by simp; omega
  have v1 : ((h1.version : Int) == 0) = false := by simp; omega
  clear hv
  obtain ⟨version, uts, stds, leaps, times, types, letters⟩ := h1
  obtain ⟨version2, uts2, stds2, leaps2, times2, types2, letters2⟩ := h2
  simp only at hv2 v0 v1
  have w1 : decide ((version2 : Int) = (version : Int)) = false := by simp; omega
  have w2 : ((version2 : Int) == (version : Int)) = false := by simp; omega
  have w3 : ((version2 : Int) != (version : Int)) = true := by simp; omega
  have w4 : ¬ (version2 : Int) = (version : Int) := by omega
  clear hv2
  unfold hdVal at HH HL HL2 HH2
  simp only at HH HL HL2 HH2
  go_enter Try.func39, Try.ntmps39
  go_wp2_with (first
    | (go_at_call 44; (try rw [hX]); refine HH.out.mono ?_; clear HH; rintro e V1 ⟨rfl, hr, hg⟩; have K1 := Lib.hid (K0.out.read hg hr HB.out); have B2 := Lib.hid (HdBox.new V1 ⟨version, uts, stds, leaps, times, types, letters⟩); clear hr hg hX)
    | (go_at_call 23; refine (HL.out _).mono ?_; clear HL; rintro e V2 ⟨rfl, hb⟩; have K2 := Lib.hid ((K1.out.alloc _).step hb (by have := K1.out.rb.lt; simp; omega)); have B3 := Lib.hid (B2.out.below hb (by simp)); have hP1 := Lib.hid K1.out.rb.lt; clear hb; have q0 : V2.cell? ⟨V1.heap.size, 0, none⟩ = some (.int .u8 version) := B3.out.d0; have q1 : V2.cell? ⟨V1.heap.size, 1, none⟩ = some (.int .i64 uts) := B3.out.d1; have q2 : V2.cell? ⟨V1.heap.size, 2, none⟩ = some (.int .i64 stds) := B3.out.d2; have q3 : V2.cell? ⟨V1.heap.size, 3, none⟩ = some (.int .i64 leaps) := B3.out.d3; have q4 : V2.cell? ⟨V1.heap.size, 4, none⟩ = some (.int .i64 times) := B3.out.d4; have q5 : V2.cell? ⟨V1.heap.size, 5, none⟩ = some (.int .i64 types) := B3.out.d5; have q6 : V2.cell? ⟨V1.heap.size, 6, none⟩ = some (.int .i64 letters) := B3.out.d6)
    | (go_at_call 46; refine (HN.out _ K2.out.rd).mono ?_; clear HN; rintro e V3 ⟨rfl, rfl⟩)
    | (go_at_call 23; refine (HL2.out _).mono ?_; clear HL2; rintro e V3 ⟨rfl, hb⟩; have K3 := Lib.hid (K2.out.step hb K2.out.rb.lt); have B4 := Lib.hid (B3.out.below hb B3.out.lt); clear hb q0 q1 q2 q3 q4 q5 q6)
    | (go_at_call 47; refine (HT.out _ K3.out.rd).mono ?_; clear HT; rintro e V4 ⟨⟨A4, c4, rfl⟩, hr, hg⟩; have K4 := Lib.hid (K3.out.read hg hr HB.out); have B5 := Lib.hid (B4.out.gb hg (by have := K3.out.lt; have := hP1.out; omega)); clear hr hg)
    | (go_at_call 44; refine (HH2.out _ K4.out.rd).mono ?_; clear HH2; rintro e V5 ⟨rfl, hr, hg⟩; have K5 := Lib.hid (K4.out.read hg hr HB.out); have B6 := Lib.hid (B5.out.gb hg (by have := K3.out.lt; have := hP1.out; omega)); have C5 := Lib.hid (HdBox.new V5 ⟨version2, uts2, stds2, leaps2, times2, types2, letters2⟩); clear hr hg; have q0 : ∀ o, (V5.alloc o).cell? ⟨V1.heap.size, 0, none⟩ = some (.int .u8 version) := (fun o => cell_old V5 o _ _ _ B6.out.lt B6.out.d0); have k0 := K5.out.rb.c0; have k1 := K5.out.rb.c1; have k2 := K5.out.rb.c2; have k3 := K5.out.rb.c3; have f0 := K5.out.rb.fr 0; have f1 := K5.out.rb.fr 1; have f2 := K5.out.rb.fr 2; have f3 := K5.out.rb.fr 3; have HS1 := K5.out.rb.lt)
    | fail)
  exact bodyPost_ret (v := .tuple #[noZone, .bool false]) (by simp [results, Try.results39, go_sem, noZone, k0, k1, k2, k3, HS1]) rfl ⟨rfl, gb_below K5.out.gb ((((((Below.refl w.heap.size V5).setCell (Nat.le_refl _) _).setCell (Nat.le_refl _) _).setCell (Nat.le_refl _) _).setCell (Nat.le_refl _) _).alloc (by have := Nat.le_of_lt HS1; simpa using this) _)⟩
set_option maxRecDepth 100000 in
set_option maxHeartbeats 1000000 in
theorem parse_g (l l2 : List Nat) (B g : Nat) (m : Int) (w : World) (h : Rd w B g l) (hB : 0 < B) (h0 : w.cell? ⟨0, 0, none⟩ = some (.int .i64 m)) (hb : ∀ b ∈ l, b < 256) (hq : hdGood l = true) (hv : l.getD 4 0 = 0) (e2 : l.drop 44 = l2)
    (hblk : ∀ V, Rd V B g l2 → V.cell? ⟨0, 0, none⟩ = some (.int .i64 m) → Calls Try.prog 45 #[.pointer (some ⟨g, 0, none⟩), hdVal (hdOf l), .int .i64 4] V fun e w' => e = .returned (.tuple #[noZone, .bool false]) ∧ V.grownBy w' (some g)) :
    Calls Try.prog 39 #[.pointer (some ⟨g, 0, none⟩)] w fun e w' => e = .returned (.tuple #[noZone, .bool false]) ∧ w.grownBy w' (some g) := by
  have K0 := Lib.hid (Pk.start h h0)
  obtain ⟨X, hX⟩ : ∃ X, w.alloc (.cells #[.slice none 0 0, .slice none 0 0, .slice none 0 0, .string ⟨#[]⟩] 26) = X := ⟨_, rfl⟩
  rw [hX] at K0
  have HH : Hid (Calls Try.prog 44 #[.pointer (some ⟨g, 0, none⟩)] X fun e w' => e = .returned (.tuple #[hdVal (hdOf l), .bool true]) ∧ Rd w' B g (l.drop 44) ∧ X.grownBy w' (some g)) := Lib.hid (head_yes l B g X K0.out.rd hb hq)
  have hver : (hdOf l).version = l.getD 4 0 := rfl
  rw [← hver] at hv
  obtain ⟨h1, e1⟩ : ∃ h1, hdOf l = h1 := ⟨_, rfl⟩
  rw [e1, e2] at HH
  rw [e1] at hv hblk
  have HBK := Lib.hid hblk
  have HB := Lib.hid hB
  clear hq hb e1 e2 hblk hB h h0 hver
  obtain ⟨version, uts, stds, leaps, times, types, letters⟩ := h1
  simp only at hv
  subst hv
  unfold hdVal at HH HBK
  simp only at HH HBK
  unfold noZone at HBK
  go_enter Try.func39, Try.ntmps39
  go_wp2_with (first
    | (go_at_call 44; (try rw [hX]); refine HH.out.mono ?_; clear HH; rintro e V1 ⟨rfl, hr, hg⟩; have K1 := Lib.hid (K0.out.read hg hr HB.out); clear hr hg hX)
    | (go_at_call 45; refine (HBK.out _ (K1.out.alloc _).rd (K1.out.alloc _).gl).mono ?_; clear HBK; rintro e V6 ⟨rfl, hg⟩; have HG6 := Lib.hid ((K1.out.alloc _).gb.trans hg); have ZR := Lib.hid ((K1.out.alloc _).rb.gb hg (by have := K1.out.lt; omega)); clear hg)
    | fail)
  obtain ⟨Q, hQ⟩ : ∃ Q, V6.heap.size = Q := ⟨_, rfl⟩
  rw [hQ]
  have hPQ : w.heap.size < Q := by have := ZR.out.lt; omega
  refine wp_world (fun U => ZnBox U w.heap.size (.slice none 0 0) (.slice none 0 0) (.slice none 0 0) (.string ⟨#[]⟩) ∧ ZnBox U Q (.slice none 0 0) (.slice none 0 0) (.slice none 0 0) (.string ⟨#[]⟩) ∧ w.grownBy U (some g)) ⟨ZR.out.below ((Below.refl V6.heap.size V6).alloc (Nat.le_refl _) _) ZR.out.lt, ZnBox.new _ _ hQ _ _ _ _ _, gb_below HG6.out ((Below.refl w.heap.size V6).alloc (Nat.le_of_lt ZR.out.lt) _)⟩ ?_
  rintro U ⟨hp, hq, hg⟩
  have HG := Lib.hid hg
  have k0 := hp.c0
  have k1 := hp.c1
  have k2 := hp.c2
  have k3 := hp.c3
  have f0 := hp.fr 0
  have f1 := hp.fr 1
  have f2 := hp.fr 2
  have f3 := hp.fr 3
  have z0 := hq.c0
  have z1 := hq.c1
  have z2 := hq.c2
  have z3 := hq.c3
  clear hp hq hg hQ K1 K0 HG6 ZR
  go_region
  go_wp2_with fail
  exact bodyPost_ret (v := .tuple #[noZone, .bool false]) (by simp [results, Try.results39, go_sem, noZone, k0, k1, k2, k3]) rfl ⟨rfl, gb_below HG.out (((((Below.refl w.heap.size U).setCell (Nat.le_refl _) _).setCell (Nat.le_refl _) _).setCell (Nat.le_refl _) _).setCell (Nat.le_refl _) _).drew⟩
set_option maxRecDepth 100000 in
set_option maxHeartbeats 1000000 in
theorem Parse_bad (l : List Nat) (B : Nat) (A : Option Addr) (n c : Nat) (m : Int) (w : World) (h : SB w B A n c l) (hB : B ≤ w.heap.size) (h1 : 0 < B) (h0 : w.cell? ⟨0, 0, none⟩ = some (.int .i64 m)) (z : Zn) (ho : ZnOk z) (hr : rightZ z = false)
    (hp : ∀ V g, Rd V B g l → V.cell? ⟨0, 0, none⟩ = some (.int .i64 m) → Calls Try.prog 39 #[.pointer (some ⟨g, 0, none⟩)] V fun e w' => ∃ vt vs vi, e = .returned (.tuple #[.agg #[vt, vs, vi, .string z.footer], .bool true]) ∧ ZnOwn w' (V.heap.size + 1) z vt vs vi ∧ V.grownBy w' (some g)) :
    Calls Try.prog 19 #[.slice A n c] w fun e w' => e = .returned (.tuple #[noZone, .int .i64 60]) ∧ Below w.heap.size w w' := by
  obtain ⟨X, hX⟩ : ∃ X, (w.alloc (.cells #[.slice none 0 0, .slice none 0 0, .slice none 0 0, .string ⟨#[]⟩] 26)).alloc (.cells #[.slice A n c] 83) = X := ⟨_, rfl⟩
  have hb0 : Below w.heap.size w X := by rw [← hX]; exact ((Below.refl _ _).alloc (Nat.le_refl _) _).alloc (by simp) _
  have hs : X.heap.size = w.heap.size + 2 := by rw [← hX]; simp
  have HSX := Lib.hid hs
  have HB0 := Lib.hid hb0
  have HR : Hid (Rd X B (w.heap.size + 1) l) := Lib.hid ⟨⟨A, n, c, by rw [← hX]; exact cell_new _ _ _ _ 0 _ (by simp) rfl, h.below hb0 hB⟩, by rw [← hX]; exact frozen_of_row _ _ 0 _ _ (by have := heap_alloc_new (w.alloc (.cells #[.slice none 0 0, .slice none 0 0, .slice none 0 0, .string ⟨#[]⟩] 26)) (.cells #[.slice A n c] 83); simpa using this), by omega, by omega⟩
  have HZ : Hid (ZnBox X w.heap.size (.slice none 0 0) (.slice none 0 0) (.slice none 0 0) (.string ⟨#[]⟩)) := Lib.hid (by rw [← hX]; exact (ZnBox.new w w.heap.size rfl _ _ _ _ _).below ((Below.refl (w.heap.size + 1) _).alloc (by simp) _) (Nat.lt_succ_self _))
  have HP := Lib.hid (hp X _ HR.out (cells_at 0 hb0 (by omega) h0))
  have HRT : Hid (∀ V vt vs vi, ZnAt V V.heap.size z vt vs vi → Calls Try.prog 13 #[.agg #[vt, vs, vi, .string z.footer]] V fun e w' => e = .returned (.bool false) ∧ Below V.heap.size V w') := Lib.hid fun V vt vs vi hz => by
    have := right_any z vt vs vi _ V hz ho (Nat.le_refl _)
    rwa [hr] at this
  clear h hb0 hs hp h0 hB h1
  go_enter Try.func19, Try.ntmps19
  go_wp2_with (first
    | (go_at_call 39; (try rw [hX]); refine HP.out.mono ?_; clear HP; rintro e V1 ⟨vt, vs, vi, rfl, hz, hg⟩; obtain ⟨At, ct, rfl⟩ := hz.types.form; obtain ⟨As, cs, rfl⟩ := hz.times.form; obtain ⟨Ai, ci, rfl⟩ := hz.index.form; have OZ := Lib.hid (hz.lower (b := w.heap.size + 1) (by have := HSX.out; omega)); have Z1 := Lib.hid (HZ.out.gb hg (by omega)); have HG := Lib.hid (HB0.out.trans (below_of_gb hg (Nat.le_succ w.heap.size) (by have := HZ.out.lt; omega))); clear hX hg hz)
    | (go_at_call 13; refine (HRT.out _ _ _ _ (OZ.out.keep ((Below.refl _ _).alloc (Nat.le_refl _) _)).at_).mono ?_; clear HRT; rintro e V2 ⟨rfl, hb⟩; have HX2 := Lib.hid ((ZnBox.new V1 V1.heap.size rfl (.slice At z.types.length ct) (.slice As z.times.length cs) (.slice Ai z.index.length ci) (.string z.footer) 26).below hb (by simp)); have Z2 := Lib.hid ((Z1.out.below ((Below.refl V1.heap.size V1).alloc (Nat.le_refl _) _) Z1.out.lt).below hb (by have := Z1.out.lt; simp; omega)); have O2 := Lib.hid ((OZ.out.keep ((Below.refl V1.heap.size V1).alloc (Nat.le_refl _) _)).keep hb); have HG2 := Lib.hid ((HG.out.alloc HG.out.size _).trans (hb.mono (by have := HG.out.size; simp; omega))); clear hb; have z0 := HX2.out.c0; have z1 := HX2.out.c1; have z2 := HX2.out.c2; have z3 := HX2.out.c3; have k0 := Z2.out.c0; have k1 := Z2.out.c1; have k2 := Z2.out.c2; have k3 := Z2.out.c3; have f0 := Z2.out.fr 0; have f1 := Z2.out.fr 1; have f2 := Z2.out.fr 2; have f3 := Z2.out.fr 3; have HS1 := Z2.out.lt)
    | fail)
  exact bodyPost_ret (v := .tuple #[noZone, .int .i64 60]) (by simp [results, Try.results19, go_sem, noZone, k0, k1, k2, k3]) rfl ⟨rfl, HG2.out.trans (((((Below.refl w.heap.size V2).setCell (Nat.le_refl _) _).setCell (Nat.le_refl _) _).setCell (Nat.le_refl _) _).setCell (Nat.le_refl _) _)⟩
end Go.Proofs.Ytohpdpcjhmopbaa.Tz
