/-
  Whole numbers of five digits to the base 2^32, as package clepsydraref01 keeps them: what a value reads as, and which worlds a call may leave.
-/
import Derived.Test.YtkdedagilaaldaaUsecCalls
import Derived.ProofKit
namespace Go.Proofs.Ytkdedagilaaldaa.Us
open Go.RowKit

/-- The world has new blocks at most; nothing that was there has turned, and nothing is frozen that was not. -/
structure Keeps (w w' : World) : Prop where
  below : Below w.heap.size w w'
  frozen : ∀ a, w'.frozen? a = w.frozen? a
theorem Keeps.refl (w : World) : Keeps w w := ⟨Below.refl _ _, fun _ => rfl⟩
theorem Keeps.trans {a b c : World} (h : Keeps a b) (k : Keeps b c) : Keeps a c :=
  ⟨h.below.trans (k.below.mono h.below.size), fun x => (k.frozen x).trans (h.frozen x)⟩
theorem Keeps.alloc {w w' : World} (h : Keeps w w') (c : Array Value) (t : TypeId) : Keeps w (w'.alloc (.cells c t)) :=
  ⟨h.below.alloc h.below.size _, fun a => ((Grown.alloc (Grown.refl w') c t).2.1 a).trans (h.frozen a)⟩
theorem Keeps.drew {w w' : World} (h : Keeps w w') : Keeps w w'.drew := ⟨h.below.drew, h.frozen⟩
theorem Keeps.drewN {w w' : World} (h : Keeps w w') : ∀ n, Keeps w (w'.drewN n)
  | 0 => h
  | n + 1 => (h.drewN n).drew
theorem Keeps.setCell {w w' : World} (h : Keeps w w') {a : Addr} (ha : w.heap.size ≤ a.block) (v : Value) : Keeps w (w'.setCell a v) :=
  ⟨h.below.setCell ha v, fun x => by simp [h.frozen x]⟩
theorem Keeps.grown {w w' : World} (h : Keeps w w') : Grown w w' := ⟨h.below.frame _, h.frozen, h.below.size⟩

/-- A digit. -/
def Dg (d : Int) : Prop := 0 ≤ d ∧ d ≤ 4294967295
/-- The value is the whole number n without its sign, with the mark m. -/
def IsBig (m : Bool) (n : Int) (v : Value) : Prop := ∃ d0 d1 d2 d3 d4 : Int, (Dg d0 ∧ Dg d1 ∧ Dg d2 ∧ Dg d3 ∧ Dg d4) ∧
  d0 + 4294967296 * d1 + 18446744073709551616 * d2 + 79228162514264337593543950336 * d3 + 340282366920938463463374607431768211456 * d4 = n ∧
  v = .agg #[.bool m, .int .u64 d0, .int .u64 d1, .int .u64 d2, .int .u64 d3, .int .u64 d4]

/-- A call that answers the whole number n, with the mark m. -/
def GivesBig (m : Bool) (n : Int) (w : World) (e : Ending) (w' : World) : Prop := ∃ v, IsBig m n v ∧ e = .returned v ∧ Keeps w w'

end Go.Proofs.Ytkdedagilaaldaa.Us
