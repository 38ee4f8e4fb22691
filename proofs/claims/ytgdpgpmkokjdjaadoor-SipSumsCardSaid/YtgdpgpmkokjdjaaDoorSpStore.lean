/-
  A whole array laid into a variable that is known; a key told by a text.
-/
import Derived.Test.YtgdpgpmkokjdjaaDoorSpRows
import Derived.Test.YtgdpgpmkokjdjaaDoorSpDig
import Derived.Test.YtgdpgpmkokjdjaaDoorShelf
import Derived.Deep.MidRow
namespace Go.Proofs.YtgdpgpmkokjdjaaDoor.Sp
open Go.RowKit

theorem hold_cells {g : Nat} {t : TypeId} : ∀ (cs : List Value) (o : Nat) (pre old : List Value) (w : World), pre.length = o → old.length = cs.length → Hold w g t (pre ++ old) → Hold (w.setCells g o cs) g t (pre ++ cs)
  | [], _, _, old, _, _, hl, h => by
    obtain rfl : old = [] := List.eq_nil_of_length_eq_zero (by simpa using hl)
    exact h
  | v :: r, o, pre, old, w, hp, hl, h => by
    match old, hl with
    | u :: old, hl =>
      have h2 := h.set o v
      rw [List.set_append, if_neg (by omega), hp, Nat.sub_self, List.set_cons_zero] at h2
      have h3 := hold_cells r (o + 1) (pre ++ [v]) old _ (by simp [hp]) (by simpa using hl) (by simpa using h2)
      rw [List.append_assoc] at h3; exact h3
theorem gb_cells {g : Nat} {w0 : World} : ∀ (cs : List Value) (o : Nat) (w : World), w0.grownBy w (some g) → w0.grownBy (w.setCells g o cs) (some g)
  | [], _, _, h => h
  | v :: r, o, _, h => gb_cells r (o + 1) _ (gb_set h o v)
theorem plain_store_arr {P : Program} {ops : Array Oper} {rest : List Oper} {o : Oper} {a : Act} {w : World} {Q : Exit → Act → World → Prop} (ty t : TypeId) (x y : Operand) (g : Nat) (old cs : List Value) (hgd : o.guard = none) (ho : o.op = .store ty x y)
    (hx : a.eval x = .pointer (some ⟨g, 0, none⟩)) (hy : a.eval y = .agg cs.toArray) (hi : (P.info? ty).map (·.size) = some cs.length) (h1 : ∀ v ∈ cs, v.oneCell' = true) (hg : Hold w g t old) (hl : old.length = cs.length)
    (h : ∀ w', Hold w' g t cs → w.grownBy w' (some g) → wpList P ops Q rest (a.put o.dst undef) w') : wpList P ops Q (o :: rest) a w := by
  refine wpList_store_mid hgd ty x y ho g 0 cs.toArray hx hy (fun j hj => ⟨?_, hg.frozen _⟩) (by simpa using hi) (all_oneCell_toArray h1) ?_
  · rw [show 0 + j = j by omega, hg.cell]
    simp at hj
    rw [List.getElem?_eq_getElem (by omega)]; rfl
  · exact h _ (by simpa using hold_cells cs 0 [] old w rfl hl (by simpa using hg)) (gb_cells cs 0 w (World.grownBy.refl _ _))
theorem by8_one (k : List Int) : ∀ v ∈ k.map by8, v.oneCell' = true := fun v hv => by obtain ⟨z, _, rfl⟩ := List.mem_map.1 hv; rfl

def zeros : List Int := List.replicate 16 0
/-- What the digit at place i tells. -/
def dg (l : List UInt8) (i : Nat) : Int := dig ((l.getD i 0).toNat : Int)
/-- The bytes that digits tell, two for each. -/
def pairs (l : List UInt8) (n : Nat) : List Int := (List.range n).map fun i => dg l (2 * i) * 16 + dg l (2 * i + 1)
def trimmed (l : List UInt8) : List UInt8 := Lib.trimRightS l [9, 10, 13, 32]
/-- A text that tells a key: 32 digits. -/
def isKey (t : List UInt8) : Prop := t.length = 32 ∧ ∀ i, i < 32 → 0 ≤ dg t i
instance (t : List UInt8) : Decidable (isKey t) := by unfold isKey; infer_instance
/-- The key that a text tells, or noughts; does it tell one? -/
def keyOf (l : List UInt8) : List Int := if isKey (trimmed l) then pairs (trimmed l) 16 else zeros
def keyIs (l : List UInt8) : Bool := decide (isKey (trimmed l))
theorem pairs_len (l : List UInt8) (n : Nat) : (pairs l n).length = n := by simp [pairs]
theorem pairs_succ (l : List UInt8) (n : Nat) : pairs l (n + 1) = pairs l n ++ [dg l (2 * n) * 16 + dg l (2 * n + 1)] := by simp [pairs, List.range_succ]
theorem keyOf_len (l : List UInt8) : (keyOf l).length = 16 := by
  unfold keyOf
  split
  · exact pairs_len _ _
  · rfl
theorem keyOf_bytes (l : List UInt8) : Bytes (keyOf l) := by
  unfold keyOf
  split
  · rename_i h
    intro z hz
    obtain ⟨i, hi, rfl⟩ := List.mem_map.1 hz
    rw [List.mem_range] at hi
    have h1 := h.2 (2 * i) (by omega)
    have h2 := h.2 (2 * i + 1) (by omega)
    have h3 := (dig_rng ((trimmed l).getD (2 * i) 0).toNat).2
    have h4 := (dig_rng ((trimmed l).getD (2 * i + 1) 0).toNat).2
    unfold dg at h1 h2 ⊢
    omega
  · intro z hz; rw [(List.mem_replicate.1 hz).2]; omega
theorem trim_any (s : ByteArray) (w : World) (hs : s.size ≤ 9223372036854775807) :
    Calls Tryd.prog 22 #[.string s, .string ⟨#[9, 10, 13, 32]⟩] w fun e w' => e = .returned (.string ⟨(trimmed s.data.toList).toArray⟩) ∧ Below w.heap.size w w' :=
  Any.strings_TrimRight_laid Tryd.lays162 (by kernel_rfl) s ⟨#[9, 10, 13, 32]⟩ w hs (by decide) (ascii_of_all (by decide))
end Go.Proofs.YtgdpgpmkokjdjaaDoor.Sp
