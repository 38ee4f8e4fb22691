/-
  Layer 6 (tzif): Parse of bytes that are too few for a head.
-/
import Derived.Test.YtljkcnoicdhchaaTzP
import Derived.Handy
namespace Go.Proofs.Ytljkcnoicdhchaa.Tz
open Go.RowKit

def noZone : Value := .agg #[.slice none 0 0, .slice none 0 0, .slice none 0 0, .string ⟨#[]⟩]
def noHead : Value := .agg #[.int .u8 0, .int .i64 0, .int .i64 0, .int .i64 0, .int .i64 0, .int .i64 0, .int .i64 0]
set_option maxRecDepth 100000 in
theorem has_yes (g : Nat) (A : Option Addr) (n c : Nat) (m : Int) (w : World) (hc : w.cell? ⟨g, 0, none⟩ = some (.slice A n c)) (hm : m ≤ n) :
    Calls Try.prog 46 #[.pointer (some ⟨g, 0, none⟩), .int .i64 m] w fun e w' => e = .returned (.bool true) ∧ w = w' := by
  go_enter Try.func46, Try.ntmps46
  go_wp2_with fail
  go_ret
  exact ⟨rfl, rfl⟩
set_option maxRecDepth 100000 in
theorem has_no (g : Nat) (A : Option Addr) (n c : Nat) (m : Int) (w : World) (hc : w.cell? ⟨g, 0, none⟩ = some (.slice A n c)) (hm : ¬ m ≤ n) :
    Calls Try.prog 46 #[.pointer (some ⟨g, 0, none⟩), .int .i64 m] w fun e w' => e = .returned (.bool false) ∧ w = w' := by
  go_enter Try.func46, Try.ntmps46
  go_wp2_with fail
  go_ret
  exact ⟨rfl, rfl⟩
set_option maxRecDepth 100000 in
set_option maxHeartbeats 1000000 in
theorem head_short (g : Nat) (A : Option Addr) (n c : Nat) (w : World) (hc : w.cell? ⟨g, 0, none⟩ = some (.slice A n c)) (hg : g < w.heap.size) (hn : n < 44) :
    Calls Try.prog 44 #[.pointer (some ⟨g, 0, none⟩)] w fun e w' => e = .returned (.tuple #[noHead, .bool false]) ∧ Below w.heap.size w w' := by
  have HH : Hid (∀ V, Below w.heap.size w V → Calls Try.prog 46 #[.pointer (some ⟨g, 0, none⟩), .int .i64 44] V fun e w' => e = .returned (.bool false) ∧ V = w') := Lib.hid fun V hb => has_no g A n c 44 V (cells_at g hb hg hc) (by omega)
  have HB0 : Hid (Below w.heap.size w (w.alloc (.cells #[.int .u8 0, .int .i64 0, .int .i64 0, .int .i64 0, .int .i64 0, .int .i64 0, .int .i64 0] 60))) := Lib.hid ((Below.refl _ _).alloc (Nat.le_refl _) _)
  clear hc hn hg
  go_enter Try.func44, Try.ntmps44
  go_wp2_with (first
    | (go_at_call 46; refine (HH.out _ HB0.out).mono ?_; clear HH; rintro e V ⟨rfl, rfl⟩)
    | fail)
  exact bodyPost_ret (v := .tuple #[noHead, .bool false]) (by simp [results, Try.results44, go_sem, noHead]) rfl ⟨rfl, HB0.out⟩
set_option maxRecDepth 100000 in
set_option maxHeartbeats 1000000 in
theorem parse_short (g : Nat) (A : Option Addr) (n c : Nat) (w : World) (hc : w.cell? ⟨g, 0, none⟩ = some (.slice A n c)) (hg : g < w.heap.size) (hn : n < 44) :
    Calls Try.prog 39 #[.pointer (some ⟨g, 0, none⟩)] w fun e w' => e = .returned (.tuple #[noZone, .bool false]) ∧ Below w.heap.size w w' := by
  have HH : Hid (∀ V, Below w.heap.size w V → Calls Try.prog 44 #[.pointer (some ⟨g, 0, none⟩)] V fun e w' => e = .returned (.tuple #[noHead, .bool false]) ∧ Below V.heap.size V w') := Lib.hid fun V hb => head_short g A n c V (cells_at g hb hg hc) (Nat.lt_of_lt_of_le hg hb.size) hn
  obtain ⟨X, hX⟩ : ∃ X, w.alloc (.cells #[.slice none 0 0, .slice none 0 0, .slice none 0 0, .string ⟨#[]⟩] 26) = X := ⟨_, rfl⟩
  have HB0 : Hid (Below w.heap.size w X) := Lib.hid (by rw [← hX]; exact (Below.refl _ _).alloc (Nat.le_refl _) _)
  have HS : Hid (w.heap.size < X.heap.size) := Lib.hid (by rw [← hX]; simp)
  clear hc hn hg
  unfold noHead at HH
  go_enter Try.func39, Try.ntmps39
  go_wp2_with (first
    | (go_at_call 44; refine (HH.out _ HB0.out).mono ?_; clear HH; rintro e V ⟨rfl, hb⟩; have HB1 := Lib.hid (HB0.out.trans (hb.mono HB0.out.size)); have k0 := cells_at w.heap.size hb HS.out (show X.cell? ⟨w.heap.size, 0, none⟩ = some (.slice none 0 0) by rw [← hX]; exact World.cell?_alloc_mark w _ _ (0, 0) 0); have k1 := cells_at w.heap.size hb HS.out (show X.cell? ⟨w.heap.size, 1, none⟩ = some (.slice none 0 0) by rw [← hX]; exact World.cell?_alloc_mark w _ _ (0, 0) 1); have k2 := cells_at w.heap.size hb HS.out (show X.cell? ⟨w.heap.size, 2, none⟩ = some (.slice none 0 0) by rw [← hX]; exact World.cell?_alloc_mark w _ _ (0, 0) 2); have k3 := cells_at w.heap.size hb HS.out (show X.cell? ⟨w.heap.size, 3, none⟩ = some (.string ⟨#[]⟩) by rw [← hX]; exact World.cell?_alloc_mark w _ _ (0, 0) 3); have HS1 := (Nat.lt_of_lt_of_le HS.out hb.size); have hf : ∀ o, V.frozen? ⟨w.heap.size, o, none⟩ = false := (fun o => by rw [hb.frozen (p := ⟨w.heap.size, o, none⟩) HS.out, ← hX]; simp [go_sem]); have f0 := hf 0; have f1 := hf 1; have f2 := hf 2; have f3 := hf 3; clear hb hX hf)
    | fail)
  exact bodyPost_ret (v := .tuple #[noZone, .bool false]) (by simp [results, Try.results39, go_sem, noZone, k0, k1, k2, k3, HS1]) rfl ⟨rfl, ((((HB1.out.setCell (Nat.le_refl _) _).setCell (Nat.le_refl _) _).setCell (Nat.le_refl _) _).setCell (Nat.le_refl _) _).alloc (by have := HB1.out.size; simpa using this) _⟩
set_option maxRecDepth 100000 in
set_option maxHeartbeats 1000000 in
theorem Parse_short (A : Option Addr) (n c : Nat) (w : World) (hn : n < 44) :
    Calls Try.prog 19 #[.slice A n c] w fun e w' => e = .returned (.tuple #[noZone, .int .i64 60]) ∧ Below w.heap.size w w' := by
  obtain ⟨X, hX⟩ : ∃ X, (w.alloc (.cells #[.slice none 0 0, .slice none 0 0, .slice none 0 0, .string ⟨#[]⟩] 26)).alloc (.cells #[.slice A n c] 83) = X := ⟨_, rfl⟩
  have hsx : X.heap.size = w.heap.size + 1 + 1 := by rw [← hX]; simp
  have HSX := Lib.hid hsx
  have HX1 : Hid (X.cell? ⟨w.heap.size + 1, 0, none⟩ = some (.slice A n c)) := Lib.hid (by rw [← hX]; simp [go_sem])
  have HPS : Hid (Calls Try.prog 39 #[.pointer (some ⟨w.heap.size + 1, 0, none⟩)] X fun e w' => e = .returned (.tuple #[noZone, .bool false]) ∧ Below X.heap.size X w') := Lib.hid (parse_short (w.heap.size + 1) A n c X HX1.out (by rw [hsx]; omega) hn)
  have HB0 : Hid (Below w.heap.size w X) := Lib.hid (by rw [← hX]; exact ((Below.refl _ _).alloc (Nat.le_refl _) _).alloc (by simp) _)
  have HZ : Hid (∀ i, X.cell? ⟨w.heap.size, i, none⟩ = (#[.slice none 0 0, .slice none 0 0, .slice none 0 0, .string ⟨#[]⟩] : Array Value)[i]?) := Lib.hid fun i => by
    rw [← hX]
    have h1 : Below (w.heap.size + 1) (w.alloc (.cells #[.slice none 0 0, .slice none 0 0, .slice none 0 0, .string ⟨#[]⟩] 26)) ((w.alloc (.cells #[.slice none 0 0, .slice none 0 0, .slice none 0 0, .string ⟨#[]⟩] 26)).alloc (.cells #[.slice A n c] 83)) := (Below.refl _ _).alloc (by simp) _
    exact (h1.cell (p := ⟨w.heap.size, i, none⟩) (Nat.lt_succ_self _)).trans (World.cell?_alloc_mark w _ _ (0, 0) i)
  have HF : Hid (∀ i, X.frozen? ⟨w.heap.size, i, none⟩ = false) := Lib.hid fun i => by rw [← hX]; simp [go_sem]
  clear hsx hn
  unfold noZone at HPS
  go_enter Try.func19, Try.ntmps19
  go_wp2_with (first
    | (go_at_call 39; refine HPS.out.mono ?_; clear HPS; rintro e V ⟨rfl, hb⟩; have HS := Lib.hid (show w.heap.size < X.heap.size by rw [HSX.out]; omega); have HB1 := Lib.hid (HB0.out.trans (hb.mono HB0.out.size)); have k0 := cells_at w.heap.size hb HS.out (HZ.out 0); have k1 := cells_at w.heap.size hb HS.out (HZ.out 1); have k2 := cells_at w.heap.size hb HS.out (HZ.out 2); have k3 := cells_at w.heap.size hb HS.out (HZ.out 3); have HS1 := (Nat.lt_of_lt_of_le HS.out hb.size); have hf : ∀ o, V.frozen? ⟨w.heap.size, o, none⟩ = false := (fun o => by rw [hb.frozen (p := ⟨w.heap.size, o, none⟩) HS.out]; exact HF.out o); have f0 := hf 0; have f1 := hf 1; have f2 := hf 2; have f3 := hf 3; clear hb hX hf)
    | fail)
  exact bodyPost_ret (v := .tuple #[noZone, .int .i64 60]) (by simp [results, Try.results19, go_sem, noZone, k0, k1, k2, k3, HS1]) rfl ⟨rfl, ((((HB1.out.setCell (Nat.le_refl _) _).setCell (Nat.le_refl _) _).setCell (Nat.le_refl _) _).setCell (Nat.le_refl _) _).alloc (by have := HB1.out.size; simpa using this) _⟩
end Go.Proofs.Ytljkcnoicdhchaa.Tz
