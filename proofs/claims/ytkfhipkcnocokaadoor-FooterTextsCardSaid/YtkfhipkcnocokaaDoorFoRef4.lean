/-
  Layer 7 (footer): the document's own numbers, as they are put.
-/
import Derived.Test.YtkfhipkcnocokaaDoorFoRef3
import Derived.Test.YtkfhipkcnocokaaDoorFoBack
namespace Go.Proofs.YtkfhipkcnocokaaDoor.Fo
open Go.RowKit
set_option maxRecDepth 100000

theorem nums_dig : ∀ d : Fin 10, strOfNums [48 + ((d : Nat) : Int)] = bs [dig d] := by
  intro d
  match d with
  | 0 => rfl
  | 1 => rfl
  | 2 => rfl
  | 3 => rfl
  | 4 => rfl
  | 5 => rfl
  | 6 => rfl
  | 7 => rfl
  | 8 => rfl
  | 9 => rfl
theorem conv_dig (d : Nat) (hd : d < 10) (W : World) : Sem.run Tryd.prog (convert 100 9 (.slice (some ⟨W.heap.size, 0, none⟩) 1 1)) (W.alloc (.cells #[.int .u8 (48 + (d : Int))] 5)) = .ok (.string (bs [dig d])) (W.alloc (.cells #[.int .u8 (48 + (d : Int))] 5)) := by
  have := run_convert_bytes_arg (W.alloc (.cells #[.int .u8 (48 + (d : Int))] 5)) 100 5 Tryd.underlying100 Tryd.underlying5 W.heap.size 0 1 1 [48 + (d : Int)] rfl (fun i hi => by
    have h0 : i = 0 := by simpa using hi
    subst h0
    exact cell_new W _ _ _ 0 _ rfl rfl) 9 Tryd.underlying9
  rw [this, nums_dig ⟨d, hd⟩]
theorem u8_dig (d : Nat) (hd : d < 10) : IntKind.wrap .u8 (48 + (d : Int)) = 48 + (d : Int) := by
  have h1 : (2 : Int) ^ IntKind.u8.bits = 256 := by decide
  have h2 : IntKind.u8.signed = false := rfl
  simp [IntKind.wrap, h1, h2]
  omega
/-- What one round knows. -/
structure Dgr (q q2 d : Int) (D S S2 : ByteArray) : Prop where
  t1 : q.tmod 10 = d
  t2 : q.tdiv 10 = q2
  w1 : wrap64 (48 + d) = 48 + d
  w2 : wrap64 q2 = q2
  ud : IntKind.wrap .u8 (48 + d) = 48 + d
  cv : ∀ W : World, Sem.run Tryd.prog (convert 100 9 (.slice (some ⟨W.heap.size, 0, none⟩) 1 1)) (W.alloc (.cells #[.int .u8 (48 + d)] 5)) = .ok (.string D) (W.alloc (.cells #[.int .u8 (48 + d)] 5))
  a1 : ∀ W, (Op.stringOp .add D S).run Tryd.prog W = .ok (.string S2) W
set_option maxHeartbeats 1600000 in
theorem rdigits_walk (many : Int) (r : Nat) (q d : Nat → Int) (D S : Nat → ByteArray)
    (hgo : ∀ j, j < r → 0 < q j ∨ (j : Int) < many) (hend : ¬ 0 < q r ∧ ¬ (r : Int) < many)
    (hS : ∀ j, j ≤ r → (S j).size = j) (h0 : S 0 = ⟨#[]⟩) (hR : ∀ j, j < r → Dgr (q j) (q (j + 1)) (d j) (D j) (S j) (S (j + 1))) (w : World) :
    Calls Tryd.prog 56 #[.int .i64 (q 0), .int .i64 many] w fun e w' => e = .returned (.string (S r)) ∧ Below w.heap.size w w' := by
  have HG := Lib.hid hgo
  have HE := Lib.hid hend
  have HS := Lib.hid hS
  have HR := Lib.hid hR
  have H0 := Lib.hid h0
  clear hgo hend hS hR h0
  go_enter Tryd.func56, Tryd.ntmps56
  go_wp2
  go_loopw [0, 5] (fun x s wr => ∃ j : Nat, j ≤ r ∧ x = .int .i64 (q j) ∧ s = .string (S j) ∧ Below w.heap.size w wr) (fun _ s _ => r - (match s with | .string b => b.size | _ => 0))
  case atStart => exact ⟨0, Nat.zero_le _, rfl, by rw [H0.out], Below.refl _ _⟩
  case round =>
    obtain ⟨j, hj, rfl, rfl, hb⟩ := hrel
    have HB := Lib.hid hb
    have hsz : ((S j).size : Int) = (j : Int) := by rw [HS.out j hj]
    by_cases hlt : j < r
    · obtain ⟨t1, t2, w1, w2, ud, cv, a1⟩ := HR.out j hlt
      have hcase := HG.out j hlt
      have HM : Hid (r - (S (j + 1)).size < r - (S j).size) := Lib.hid (by rw [HS.out j hj, HS.out (j + 1) hlt]; omega)
      have cw := cv wr
      have HX : Hid (∀ V : World, Below w.heap.size w V → (∃ j' : Nat, j' ≤ r ∧ Value.int .i64 (q (j + 1)) = .int .i64 (q j') ∧ Value.string (S (j + 1)) = .string (S j') ∧ Below w.heap.size w V)) := Lib.hid fun V h => ⟨j + 1, hlt, rfl, rfl, h⟩
      clear HS HR HG H0
      by_cases hq : 0 < q j
      · clear hcase hsz
        generalize q (j + 1) = q2 at *
        generalize S (j + 1) = S2 at *
        generalize q j = q1 at *
        generalize S j = S1 at *
        generalize D j = D1 at *
        generalize d j = d1 at *
        go_wp2
        go_round
        case rel => rw [w2]; exact HX.out _ (HB.out.alloc HB.out.size _)
        case measure => exact HM.out
      · have c2 : ((S j).size : Int) < many := by rw [hsz]; rcases hcase with h | h; exact absurd h hq; exact h
        clear hcase hsz
        generalize q (j + 1) = q2 at *
        generalize S (j + 1) = S2 at *
        generalize q j = q1 at *
        generalize S j = S1 at *
        generalize D j = D1 at *
        generalize d j = d1 at *
        go_wp2
        go_round
        case rel => rw [w2]; exact HX.out _ (HB.out.alloc HB.out.size _)
        case measure => exact HM.out
    · obtain rfl : j = r := by omega
      obtain ⟨c1, c2⟩ := HE.out
      have c3 : ¬ ((S j).size : Int) < many := by rw [hsz]; omega
      clear HS HR HG H0 HE c2 hsz hlt hj
      generalize q j = q1 at *
      generalize hS1 : S j = S1 at *
      have HS1 := Lib.hid hS1
      clear hS1
      go_wp2
      go_ret
      exact ⟨by rw [HS1.out]; rfl, HB.out⟩
end Go.Proofs.YtkfhipkcnocokaaDoor.Fo
