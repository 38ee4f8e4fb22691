/-
  Layer 6 (tzif): letters at a place.
-/
import Derived.Test.YtljkcnoicdhchaaTzBi
import Derived.Test.YtljkcnoicdhchaaShelf
namespace Go.Proofs.Ytljkcnoicdhchaa.Tz
open Go.RowKit

set_option maxRecDepth 100000 in
set_option maxHeartbeats 400000 in
theorem letters_a (p : Nat) (A : Option Addr) (n c : Nat) (w : World) (hp : n ≤ p) :
    Calls Try.prog 61 #[.slice A n c, .int .i64 p] w fun e w' => e = .returned (.tuple #[.string ⟨#[]⟩, .bool false]) ∧ w = w' := by
  have h1 : (n : Int) ≤ (p : Int) := by omega
  have h2 : ¬ (p : Int) < (n : Int) := by omega
  clear hp
  go_enter Try.func61, Try.ntmps61
  go_wp2_with fail
  go_ret2
  exact ⟨rfl, rfl⟩
theorem SB.bytesIn {w : World} {B n c g off : Nat} {l : List Nat} (h : SB w B (some ⟨g, off, none⟩) n c l) : Lib.BytesIn w (some ⟨g, off, none⟩) n (natsI l) := by
  have hc := h.cells
  have h1 := h.1
  refine fun _ => ⟨g, off, rfl, fun i hi => ?_⟩
  rw [hc i (l[i]'(by omega)) (List.getElem?_eq_getElem (by omega))]
  unfold natsI
  simp [List.getD_eq_getElem?_getD, List.getElem?_map, List.getElem?_eq_getElem (show i < l.length by omega), by8]
/-- Where the first 0 is. -/
def zeroAt (l : List Nat) : Int := Lib.index (Lib.bytesOf (natsI l)) (Lib.bytesOf [0])
theorem cut_any (l : List Nat) (B gb off n c : Nat) (m : Int) (w X : World) (h : SB w B (some ⟨gb, off, none⟩) n c l) (hB : B ≤ w.heap.size) (hb : ∀ b ∈ l, b < 256) (hs : n < 4294967281) (h0 : 0 < w.heap.size) (hm : w.cell? ⟨0, 0, none⟩ = some (.int .i64 m)) (hX : w.alloc (.cells #[.int .u8 0] 5) = X) :
    Calls Try.prog 67 #[.slice (some ⟨gb, off, none⟩) n c, .slice (some ⟨w.heap.size, 0, none⟩) 1 1] X fun e w' => e = .returned (Lib.cutV (some ⟨gb, off, none⟩) n c 1 (zeroAt l)) ∧ ∃ q, w' = X.drewN q := by
  have hbw : Below w.heap.size w X := by rw [← hX]; exact (Below.refl _ _).alloc (Nat.le_refl _) _
  have hX1 := h.below hbw hB
  have k0 : X.cell? ⟨w.heap.size, 0, none⟩ = some (.int .u8 0) := by rw [← hX]; exact World.cell?_alloc_mark w _ _ (0, 0) 0
  exact Try.bytes_Cut_all (some ⟨gb, off, none⟩) (some ⟨w.heap.size, 0, none⟩) n c 1 1 (natsI l) [0] m X (by unfold natsI; simpa using h.1) rfl (fun x hx => by
    obtain ⟨y, hy, rfl⟩ := List.mem_map.1 hx
    have := hb y hy
    omega) (fun y hy => by rw [List.mem_singleton.1 hy]; decide) hX1.bytesIn (fun _ => ⟨_, 0, rfl, fun i hi => by
      obtain rfl : i = 0 := by omega
      exact k0⟩) (fun e => by simp at e) h.2.1 hs (by omega) (cells_at 0 hbw h0 hm)
set_option maxRecDepth 100000 in
set_option maxHeartbeats 400000 in
theorem letters_b (p : Nat) (l : List Nat) (B gb off n c : Nat) (m : Int) (w : World) (h : SB w B (some ⟨gb, off, none⟩) n c l) (hp : p < n) (hB : B ≤ w.heap.size) (hb : ∀ b ∈ l, b < 256) (hs : n < 4294967281) (h0 : 0 < w.heap.size) (hm : w.cell? ⟨0, 0, none⟩ = some (.int .i64 m)) (k : Nat) (hz : zeroAt (l.drop p) = (k : Int)) (hk : k ≤ n - p) :
    Calls Try.prog 61 #[.slice (some ⟨gb, off, none⟩) n c, .int .i64 p] w fun e w' => e = .returned (.tuple #[.string (strOfNums (natsI ((l.drop p).take k))), .bool true]) ∧ Below w.heap.size w w' := by
  have hnc := h.2.1
  have hcm := h.2.2.1
  have h1 : ¬ (n : Int) ≤ (p : Int) := by omega
  have h2 : (p : Int) < (n : Int) := by omega
  have h3 : (p : Int) ≤ (n : Int) := by omega
  have h4 : (0 : Int) ≤ (p : Int) := by omega
  have h5 : ¬ c - p = 0 := by omega
  obtain ⟨X, hX⟩ : ∃ X, w.alloc (.cells #[.int .u8 0] 5) = X := ⟨_, rfl⟩
  have hbw : Below w.heap.size w X := by rw [← hX]; exact (Below.refl _ _).alloc (Nat.le_refl _) _
  have hd := h.drop (k := p) (by omega)
  have HT : Hid (∀ q, (convert 33 9 (.slice (some ⟨gb, off + p, none⟩) k (c - p))).run Try.prog (X.drewN q) = .ok (.string (strOfNums (natsI ((l.drop p).take k)))) (X.drewN q)) := Lib.hid fun q => by
    have hd2 : SB (X.drewN q) B (some ⟨gb, off + p, none⟩) (n - p) (c - p) (l.drop p) := hd.below (C := w.heap.size) (drewN_below hbw q) hB
    exact (hd2.take hk).texts
  have HBW : Hid (∀ q, Below w.heap.size w (X.drewN q)) := Lib.hid fun q => drewN_below hbw q
  obtain ⟨r, hr⟩ : ∃ r, Lib.fromV (some ⟨gb, off + p, none⟩) (n - p) (c - p) (k + 1) = r := ⟨_, rfl⟩
  have HC : Hid (Calls Try.prog 67 #[.slice (some ⟨gb, off + p, none⟩) (n - p) (c - p), .slice (some ⟨w.heap.size, 0, none⟩) 1 1] X fun e w' => e = .returned (.tuple #[.slice (some ⟨gb, off + p, none⟩) k (c - p), r, .bool true]) ∧ ∃ q, w' = X.drewN q) := Lib.hid (by
    have hc := cut_any (l.drop p) B gb (off + p) (n - p) (c - p) m w X hd hB (fun b hx => hb b (List.mem_of_mem_drop hx)) (by omega) h0 hm hX
    rw [hz] at hc
    unfold Lib.cutV at hc
    rw [if_pos (by omega)] at hc
    rw [← hr]
    exact hc)
  obtain ⟨S, hS⟩ : ∃ S, strOfNums (natsI ((l.drop p).take k)) = S := ⟨_, rfl⟩
  rw [hS] at HT ⊢
  clear hp h hnc hcm hz hk hd hbw hS hr hb hs h0 hm hB
  go_enter Try.func61, Try.ntmps61
  go_wp2_with (first
    | (go_at_call 67; (try rw [hX]); refine HC.out.mono ?_; clear HC; rintro e V ⟨rfl, q, rfl⟩; have ht := HT.out q)
    | fail)
  go_ret2
  exact ⟨rfl, HBW.out q⟩
set_option maxRecDepth 100000 in
set_option maxHeartbeats 400000 in
theorem letters_c (p : Nat) (l : List Nat) (B gb off n c : Nat) (m : Int) (w : World) (h : SB w B (some ⟨gb, off, none⟩) n c l) (hp : p < n) (hB : B ≤ w.heap.size) (hb : ∀ b ∈ l, b < 256) (hs : n < 4294967281) (h0 : 0 < w.heap.size) (hm : w.cell? ⟨0, 0, none⟩ = some (.int .i64 m)) (hz : zeroAt (l.drop p) = -1) :
    Calls Try.prog 61 #[.slice (some ⟨gb, off, none⟩) n c, .int .i64 p] w fun e w' => e = .returned (.tuple #[.string (strOfNums (natsI (l.drop p))), .bool false]) ∧ Below w.heap.size w w' := by
  have hnc := h.2.1
  have hcm := h.2.2.1
  have h1 : ¬ (n : Int) ≤ (p : Int) := by omega
  have h2 : (p : Int) < (n : Int) := by omega
  have h3 : (p : Int) ≤ (n : Int) := by omega
  have h4 : (0 : Int) ≤ (p : Int) := by omega
  have h5 : ¬ c - p = 0 := by omega
  obtain ⟨X, hX⟩ : ∃ X, w.alloc (.cells #[.int .u8 0] 5) = X := ⟨_, rfl⟩
  have hbw : Below w.heap.size w X := by rw [← hX]; exact (Below.refl _ _).alloc (Nat.le_refl _) _
  have hd := h.drop (k := p) (by omega)
  have HT : Hid (∀ q, (convert 33 9 (.slice (some ⟨gb, off + p, none⟩) (n - p) (c - p))).run Try.prog (X.drewN q) = .ok (.string (strOfNums (natsI (l.drop p)))) (X.drewN q)) := Lib.hid fun q => by
    have hd2 : SB (X.drewN q) B (some ⟨gb, off + p, none⟩) (n - p) (c - p) (l.drop p) := hd.below (C := w.heap.size) (drewN_below hbw q) hB
    exact hd2.texts
  have HBW : Hid (∀ q, Below w.heap.size w (X.drewN q)) := Lib.hid fun q => drewN_below hbw q
  obtain ⟨r, hr⟩ : ∃ r, Value.slice none 0 0 = r := ⟨_, rfl⟩
  have HC : Hid (Calls Try.prog 67 #[.slice (some ⟨gb, off + p, none⟩) (n - p) (c - p), .slice (some ⟨w.heap.size, 0, none⟩) 1 1] X fun e w' => e = .returned (.tuple #[.slice (some ⟨gb, off + p, none⟩) (n - p) (c - p), r, .bool false]) ∧ ∃ q, w' = X.drewN q) := Lib.hid (by
    have hc := cut_any (l.drop p) B gb (off + p) (n - p) (c - p) m w X hd hB (fun b hx => hb b (List.mem_of_mem_drop hx)) (by omega) h0 hm hX
    rw [hz] at hc
    unfold Lib.cutV at hc
    rw [if_neg (by omega)] at hc
    rw [← hr]
    exact hc)
  obtain ⟨S, hS⟩ : ∃ S, strOfNums (natsI (l.drop p)) = S := ⟨_, rfl⟩
  rw [hS] at HT ⊢
  clear hp h hnc hcm hz hd hbw hS hr hb hs h0 hm hB
  go_enter Try.func61, Try.ntmps61
  go_wp2_with (first
    | (go_at_call 67; (try rw [hX]); refine HC.out.mono ?_; clear HC; rintro e V ⟨rfl, q, rfl⟩; have ht := HT.out q)
    | fail)
  go_ret2
  exact ⟨rfl, HBW.out q⟩
end Go.Proofs.Ytljkcnoicdhchaa.Tz
