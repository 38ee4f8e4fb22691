/-
  Layer 6 (tzif): Parse, by what parse reads.
-/
import Derived.Test.YtljkcnoicdhchaaTzBt
namespace Go.Proofs.Ytljkcnoicdhchaa.Tz
open Go.RowKit

set_option maxRecDepth 100000 in
set_option maxHeartbeats 1000000 in
theorem Parse_no (l : List Nat) (B : Nat) (A : Option Addr) (n c : Nat) (m : Int) (w : World) (h : SB w B A n c l) (hB : B ≤ w.heap.size) (h1 : 0 < B) (h0 : w.cell? ⟨0, 0, none⟩ = some (.int .i64 m))
    (hp : ∀ V g, Rd V B g l → V.cell? ⟨0, 0, none⟩ = some (.int .i64 m) → Calls Try.prog 39 #[.pointer (some ⟨g, 0, none⟩)] V fun e w' => ∃ A1 n1 c1 A2 n2 c2 A3 n3 c3 F, e = .returned (.tuple #[.agg #[.slice A1 n1 c1, .slice A2 n2 c2, .slice A3 n3 c3, .string F], .bool false]) ∧ V.grownBy w' (some g)) :
    Calls Try.prog 19 #[.slice A n c] w fun e w' => e = .returned (.tuple #[noZone, .int .i64 60]) ∧ Below w.heap.size w w' := by
  obtain ⟨X, hX⟩ : ∃ X, (w.alloc (.cells #[.slice none 0 0, .slice none 0 0, .slice none 0 0, .string ⟨#[]⟩] 26)).alloc (.cells #[.slice A n c] 83) = X := ⟨_, rfl⟩
  have hb0 : Below w.heap.size w X := by rw [← hX]; exact ((Below.refl _ _).alloc (Nat.le_refl _) _).alloc (by simp) _
  have hs : X.heap.size = w.heap.size + 2 := by rw [← hX]; simp
  have HB0 := Lib.hid hb0
  have HR : Hid (Rd X B (w.heap.size + 1) l) := Lib.hid ⟨⟨A, n, c, by rw [← hX]; exact cell_new _ _ _ _ 0 _ (by simp) rfl, h.below hb0 hB⟩, by rw [← hX]; exact frozen_of_row _ _ 0 _ _ (by have := heap_alloc_new (w.alloc (.cells #[.slice none 0 0, .slice none 0 0, .slice none 0 0, .string ⟨#[]⟩] 26)) (.cells #[.slice A n c] 83); simpa using this), by omega, by omega⟩
  have HZ : Hid (ZnBox X w.heap.size (.slice none 0 0) (.slice none 0 0) (.slice none 0 0) (.string ⟨#[]⟩)) := Lib.hid (by rw [← hX]; exact (ZnBox.new w w.heap.size rfl _ _ _ _ _).below ((Below.refl (w.heap.size + 1) _).alloc (by simp) _) (Nat.lt_succ_self _))
  have HP : Hid (Calls Try.prog 39 #[.pointer (some ⟨w.heap.size + 1, 0, none⟩)] X fun e w' => ∃ A1 n1 c1 A2 n2 c2 A3 n3 c3 F, e = .returned (.tuple #[.agg #[.slice A1 n1 c1, .slice A2 n2 c2, .slice A3 n3 c3, .string F], .bool false]) ∧ X.grownBy w' (some (w.heap.size + 1))) := Lib.hid (hp X _ HR.out (cells_at 0 hb0 (by omega) h0))
  clear h hb0 hs hp h0 hB h1
  go_enter Try.func19, Try.ntmps19
  go_wp2_with (first
    | (go_at_call 39; (try rw [hX]); refine HP.out.mono ?_; clear HP; rintro e V1 ⟨A1, n1, c1, A2, n2, c2, A3, n3, c3, F, rfl, hg⟩; have Z1 := Lib.hid (HZ.out.gb hg (by omega)); have HG := Lib.hid (HB0.out.trans (below_of_gb hg (Nat.le_succ w.heap.size) (by have := HZ.out.lt; omega))); clear hX hg; have k0 := Z1.out.c0; have k1 := Z1.out.c1; have k2 := Z1.out.c2; have k3 := Z1.out.c3; have f0 := Z1.out.fr 0; have f1 := Z1.out.fr 1; have f2 := Z1.out.fr 2; have f3 := Z1.out.fr 3; have HS1 := Z1.out.lt)
    | fail)
  exact bodyPost_ret (v := .tuple #[noZone, .int .i64 60]) (by simp [results, Try.results19, go_sem, noZone, k0, k1, k2, k3, HS1]) rfl ⟨rfl, HG.out.trans ((((((Below.refl w.heap.size V1).setCell (Nat.le_refl _) _).setCell (Nat.le_refl _) _).setCell (Nat.le_refl _) _).setCell (Nat.le_refl _) _).alloc (by have := Nat.le_of_lt HS1; simpa using this) _)⟩
set_option maxRecDepth 100000 in
set_option maxHeartbeats 1000000 in
theorem Parse_yes (l : List Nat) (B : Nat) (A : Option Addr) (n c : Nat) (m : Int) (w : World) (h : SB w B A n c l) (hB : B ≤ w.heap.size) (h1 : 0 < B) (h0 : w.cell? ⟨0, 0, none⟩ = some (.int .i64 m)) (z : Zn) (ho : ZnOk z) (hr : rightZ z = true)
    (hp : ∀ V g, Rd V B g l → V.cell? ⟨0, 0, none⟩ = some (.int .i64 m) → Calls Try.prog 39 #[.pointer (some ⟨g, 0, none⟩)] V fun e w' => ∃ vt vs vi, e = .returned (.tuple #[.agg #[vt, vs, vi, .string z.footer], .bool true]) ∧ ZnOwn w' (V.heap.size + 1) z vt vs vi ∧ V.grownBy w' (some g)) :
    Calls Try.prog 19 #[.slice A n c] w fun e w' => ∃ vt vs vi, e = .returned (.tuple #[.agg #[vt, vs, vi, .string z.footer], .int .i64 0]) ∧ ZnOwn w' (w.heap.size + 1) z vt vs vi ∧ Below w.heap.size w w' := by
  obtain ⟨X, hX⟩ : ∃ X, (w.alloc (.cells #[.slice none 0 0, .slice none 0 0, .slice none 0 0, .string ⟨#[]⟩] 26)).alloc (.cells #[.slice A n c] 83) = X := ⟨_, rfl⟩
  have hb0 : Below w.heap.size w X := by rw [← hX]; exact ((Below.refl _ _).alloc (Nat.le_refl _) _).alloc (by simp) _
  have hs : X.heap.size = w.heap.size + 2 := by rw [← hX]; simp
  have HSX := Lib.hid hs
  have HB0 := Lib.hid hb0
  have HR : Hid (Rd X B (w.heap.size + 1) l) := Lib.hid ⟨⟨A, n, c, by rw [← hX]; exact cell_new _ _ _ _ 0 _ (by simp) rfl, h.below hb0 hB⟩, by rw [← hX]; exact frozen_of_row _ _ 0 _ _ (by have := heap_alloc_new (w.alloc (.cells #[.slice none 0 0, .slice none 0 0, .slice none 0 0, .string ⟨#[]⟩] 26)) (.cells #[.slice A n c] 83); simpa using this), by omega, by omega⟩
  have HZ : Hid (ZnBox X w.heap.size (.slice none 0 0) (.slice none 0 0) (.slice none 0 0) (.string ⟨#[]⟩)) := Lib.hid (by rw [← hX]; exact (ZnBox.new w w.heap.size rfl _ _ _ _ _).below ((Below.refl (w.heap.size + 1) _).alloc (by simp) _) (Nat.lt_succ_self _))
  have HP := Lib.hid (hp X _ HR.out (cells_at 0 hb0 (by omega) h0))
  have HRT : Hid (∀ V vt vs vi, ZnAt V V.heap.size z vt vs vi → Calls Try.prog 13 #[.agg #[vt, vs, vi, .string z.footer]] V fun e w' => e = .returned (.bool true) ∧ Below V.heap.size V w') := Lib.hid fun V vt vs vi hz => by
    have := right_any z vt vs vi _ V hz ho (Nat.le_refl _)
    rwa [hr] at this
  clear h hb0 hs hp h0 hB h1
  go_enter Try.func19, Try.ntmps19
  go_wp2_with (first
    | (go_at_call 39; (try rw [hX]); refine HP.out.mono ?_; clear HP; rintro e V1 ⟨vt, vs, vi, rfl, hz, hg⟩; obtain ⟨At, ct, rfl⟩ := hz.types.form; obtain ⟨As, cs, rfl⟩ := hz.times.form; obtain ⟨Ai, ci, rfl⟩ := hz.index.form; have OZ := Lib.hid (hz.lower (b := w.heap.size + 1) (by have := HSX.out; omega)); have Z1 := Lib.hid (HZ.out.gb hg (by omega)); have HG := Lib.hid (HB0.out.trans (below_of_gb hg (Nat.le_succ w.heap.size) (by have := HZ.out.lt; omega))); clear hX hg hz)
    | (go_at_call 13; refine (HRT.out _ _ _ _ (OZ.out.keep ((Below.refl _ _).alloc (Nat.le_refl _) _)).at_).mono ?_; clear HRT; rintro e V2 ⟨rfl, hb⟩; have HX2 := Lib.hid ((ZnBox.new V1 V1.heap.size rfl (.slice At z.types.length ct) (.slice As z.times.length cs) (.slice Ai z.index.length ci) (.string z.footer) 26).below hb (by simp)); have Z2 := Lib.hid ((Z1.out.below ((Below.refl V1.heap.size V1).alloc (Nat.le_refl _) _) Z1.out.lt).below hb (by have := Z1.out.lt; simp; omega)); have O2 := Lib.hid ((OZ.out.keep ((Below.refl V1.heap.size V1).alloc (Nat.le_refl _) _)).keep hb); have HG2 := Lib.hid ((HG.out.alloc HG.out.size _).trans (hb.mono (by have := HG.out.size; simp; omega))); clear hb; have z0 := HX2.out.c0; have z1 := HX2.out.c1; have z2 := HX2.out.c2; have z3 := HX2.out.c3; have k0 := Z2.out.c0; have k1 := Z2.out.c1; have k2 := Z2.out.c2; have k3 := Z2.out.c3; have f0 := Z2.out.fr 0; have f1 := Z2.out.fr 1; have f2 := Z2.out.fr 2; have f3 := Z2.out.fr 3; have HS1 := Z2.out.lt)
    | fail)
  exact bodyPost_ret (v := .tuple #[.agg #[.slice At z.types.length ct, .slice As z.times.length cs, .slice Ai z.index.length ci, .string z.footer], .int .i64 0]) (by simp [results, Try.results19, go_sem, k0, k1, k2, k3]) rfl ⟨_, _, _, rfl, ((((O2.out.set (Nat.lt_succ_self _) 0 _).set (Nat.lt_succ_self _) 1 _).set (Nat.lt_succ_self _) 2 _).set (Nat.lt_succ_self _) 3 _), HG2.out.trans (((((Below.refl w.heap.size V2).setCell (Nat.le_refl _) _).setCell (Nat.le_refl _) _).setCell (Nat.le_refl _) _).setCell (Nat.le_refl _) _)⟩
end Go.Proofs.Ytljkcnoicdhchaa.Tz
