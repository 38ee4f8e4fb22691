/-
  Layer 6 (tzif): the footer, read.
-/
import Derived.Test.YtljkcnoicdhchaaTzBg
namespace Go.Proofs.Ytljkcnoicdhchaa.Tz
open Go.RowKit

theorem SB.cells {w : World} {B n c g off : Nat} {l : List Nat} (h : SB w B (some ⟨g, off, none⟩) n c l) : ∀ (j b : Nat), l[j]? = some b → w.cell? ⟨g, off + j, none⟩ = some (by8 b) := by
  obtain ⟨h1, h2, _, h4⟩ := h
  rcases h4 with ⟨e, _⟩ | ⟨g', off', e, _, hc⟩
  · cases e
  · injection e with e; injection e with e1 e2 _; subst e1; subst e2
    exact hc
theorem SB.texts {w : World} {B n c g off : Nat} {l : List Nat} (h : SB w B (some ⟨g, off, none⟩) n c l) : (convert 33 9 (.slice (some ⟨g, off, none⟩) n c)).run Try.prog w = .ok (.string (strOfNums (natsI l))) w := by
  have hc := h.cells
  have h1 := h.1
  exact run_convert_bytes_arg w 33 5 Try.underlying33 Try.underlying5 g off n c (natsI l) (by unfold natsI; simpa using h1) (fun i hi => by
      have h3 := hc i (l[i]'(by omega)) (List.getElem?_eq_getElem (by omega))
      rw [h3]
      unfold natsI
      simp [List.getD_eq_getElem?_getD, List.getElem?_map, List.getElem?_eq_getElem (show i < l.length by omega), by8]) 9 Try.underlying9
set_option maxRecDepth 100000 in
set_option maxHeartbeats 400000 in
theorem foot_a (l : List Nat) (B g : Nat) (w : World) (h : Rd w B g l) (hl : l.length < 2) :
    Calls Try.prog 48 #[.pointer (some ⟨g, 0, none⟩)] w fun e w' => e = .returned (.tuple #[.string ⟨#[]⟩, .bool false]) ∧ w = w' := by
  obtain ⟨⟨A, n, c, h1, h2, _⟩, _⟩ := h
  have hn : n = 0 ∨ n = 1 := by omega
  clear h2 hl
  rcases hn with rfl | rfl
  all_goals
    go_enter Try.func48, Try.ntmps48
    go_wp2_with fail
    go_ret2
    exact ⟨rfl, rfl⟩
end Go.Proofs.Ytljkcnoicdhchaa.Tz
