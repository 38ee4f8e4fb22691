/-
  Layer 11 (lines): the loop over whole lines, once its round is walked.
-/
import Derived.Test.YtokeepmlibolfaaDoorLnPs
namespace Go.Proofs.YtokeepmlibolfaaDoor.Ln
open Go.RowKit
attribute [local go_sem] Oper.semAt_some
set_option maxRecDepth 100000

theorem pfold_nil : pfold [] = ⟨[], [], []⟩ := rfl
set_option maxHeartbeats 2000000 in
theorem wpIn_lines (w : World) (B : Nat) (hB : w.heap.size = B) (hB0 : 0 < B) (text : List UInt8) (m : Int) (hm : w.cell? ⟨0, 0, none⟩ = some (.int .i64 m)) (hl0 : text.length < 4294967281) (ht : tot (linesL text) ≤ 1000000) {g : Operand} {assign body : Code} {Q : Exit → Act → World → Prop} {a : Act}
    (hg : a.eval g = .func (.func 21) #[] #[.pointer (some ⟨B + 3, 0, none⟩)])
    (hround : ∀ (fn : FuncId) (rec : LoopState → Option Code → Loop), (rec .ready none).state = .ready → (∀ st pe, { rec .ready none with state := st, pending := pe } = rec st pe) → ∀ (pre : List (Nat × List UInt8)) (bl : List Nat) (x : Nat × List UInt8) (W : World), Ps w B text rec pre bl W → x.2.length ≤ 1000000 → pre.length ≤ 1000001 → RoundIn Fence.wide 4 Tryd.prog (B + 5) fn ((a.tmps.setIfInBounds 20 (.int .i64 x.1)).setIfInBounds 21 (.string (bs x.2))) assign body W fun e W' =>
      e = .returned (.bool true) ∧ ∃ bl', Ps w B text rec (pre ++ [x]) bl' W' ∧ ∀ b, B + 6 ≤ b → b < W.heap.size → b ∉ bl → W'.heap[b]? = W.heap[b]?)
    (hdone : ∀ W, Pe w B (pfold (wholesL (linesL text) 0 0 [])) W → Q .normal { a with defers := { target := .collected (B + 4), args := #[] } :: a.defers } W) :
    (Code.rangeFunc g #[20, 21] assign body).wpIn Fence.wide 6 Tryd.prog Q a ((((w.alloc (.cells #[.slice none 0 0] 24)).alloc (.cells #[.slice none 0 0] 25)).alloc (.cells #[.string ⟨#[]⟩] 9)).alloc (.cells #[.string (bs text)] 9)) := by
  obtain ⟨W0, hW0⟩ : ∃ W0, (((w.alloc (.cells #[.slice none 0 0] 24)).alloc (.cells #[.slice none 0 0] 25)).alloc (.cells #[.string ⟨#[]⟩] 9)).alloc (.cells #[.string (bs text)] 9) = W0 := ⟨_, rfl⟩
  have hs0 : W0.heap.size = B + 4 := by rw [← hW0, ← hB]; simp
  have hg0 : ∀ k : Nat, W0.heap[k]? = ((((w.heap.push (.cells #[.slice none 0 0] 24 (0, 0))).push (.cells #[.slice none 0 0] 25 (0, 0))).push (.cells #[.string ⟨#[]⟩] 9 (0, 0))).push (.cells #[.string (bs text)] 9 (0, 0)))[k]? := fun k => by rw [← hW0]; rfl
  have hb0 : Below B w W0 := by rw [← hW0, ← hB]; exact ((((Below.refl _ w).alloc (Nat.le_refl _) _).alloc (by simp) _).alloc (by simp; omega) _).alloc (by simp; omega) _
  rw [hW0]
  refine wpIn_rangeFunc ?_
  intro fn hfn
  obtain ⟨W1, hW1⟩ : ∃ W1, (W0.alloc (.deferred (some []))).alloc (.loop (recL fn a.tmps assign body (B + 4) .ready none)) = W1 := ⟨_, rfl⟩
  have hst : Ps w B text (recL fn a.tmps assign body (B + 4)) [] [] W1 := by
    have hold : ∀ k, k < B + 4 → W1.heap[k]? = W0.heap[k]? := fun k hk => by rw [← hW1]; exact (Below.heap_alloc _ _ k (by simp; omega)).trans (Below.heap_alloc _ _ k (by omega))
    refine ⟨⟨.slice none 0 0, .slice none 0 0, (hold B (by omega)).trans ?_, (hold _ (by omega)).trans ?_, World.ownsRow_nil _ _ _ _, World.ownsRow_nil _ _ _ _, fun b => by simp [Value.ownBlock]⟩, (hold _ (by omega)).trans ?_, (hold _ (by omega)).trans ?_, ?_, ?_, ?_⟩
    · rw [hg0, Array.getElem?_push, if_neg (by simp; omega), Array.getElem?_push, if_neg (by simp; omega), Array.getElem?_push, if_neg (by simp; omega), Array.getElem?_push, if_pos (by omega)]
    · rw [hg0, Array.getElem?_push, if_neg (by simp; omega), Array.getElem?_push, if_neg (by simp; omega), Array.getElem?_push, if_pos (by simp; omega)]
    · rw [hg0, Array.getElem?_push, if_neg (by simp; omega), Array.getElem?_push, if_pos (by simp; omega)]; rfl
    · rw [hg0, Array.getElem?_push, if_pos (by simp; omega)]
    · rw [← hW1]
      have := World.alloc_heap_new W0 (.deferred (some []))
      rw [hs0] at this
      exact (Below.heap_alloc _ _ _ (by simp; omega)).trans this
    · rw [← hW1]
      have := World.alloc_heap_new (W0.alloc (.deferred (some []))) (.loop (recL fn a.tmps assign body (B + 4) .ready none))
      rwa [World.size_alloc, hs0] at this
    · rw [← hW1]; exact (hb0.alloc (by omega) _).alloc (by simp; omega) _
  refine ⟨B + 5, [{ target := .collected (B + 4), args := #[] }], W1, { target := .fn (.func 21) #[.pointer (some ⟨B + 3, 0, none⟩)], args := #[.func (.yield (B + 5)) #[] #[]] }, W1, 21,
    #[.func (.yield (B + 5)) #[] #[], .pointer (some ⟨B + 3, 0, none⟩)], W1, ?_, ?_, fun _ _ => trivial, ?_, fun _ => by omega, ?_⟩
  · have := run_enterLoop_outer (P := Tryd.prog) (w := W0) fn a.tmps #[20, 21] assign body
    rw [hs0] at this
    rw [← hW1]
    exact this
  · simp only [resolve, hg]
    simp [go_sem]
  · have eg : ∀ args w, (callFunc 21 args).run Tryd.prog w = .ok (.enter 21 args) w := enters_of Tryd.func21 (by kernel_rfl) rfl
    simp [invoke, go_sem, eg]
  · refine (wholes_walk (L := B + 5) (ps_bd hm hB0) 5 (by omega) hl0 ht (fun pre bl x W h hx hy => ?_) [] W1 hst).mono ?_
    · refine ⟨fn, (a.tmps.setIfInBounds 20 (.int .i64 x.1)).setIfInBounds 21 (.string (bs x.2)), assign, body, ?_, hround fn _ rfl (fun _ _ => rfl) pre bl x W h hx hy⟩
      have hyy := run_yield (P := Tryd.prog) (args := #[.int .i64 x.1, .string (bs x.2)]) h.L rfl
      simpa [recL] using hyy
    · rintro e W2 ⟨⟨v, rfl⟩, bl, h2⟩
      exact ⟨none, _, run_endLoop h2.L (by simp [recL]), hdone _ (pe_put h2 _)⟩
end Go.Proofs.YtokeepmlibolfaaDoor.Ln
