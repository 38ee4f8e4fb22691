/-
  Layer 12 (words): what stands behind a backslash.
-/
import Derived.Test.YtffmchbcpihjhaaWdDig
namespace Go.Proofs.Ytffmchbcpihjhaa.Wd
open Go.RowKit
set_option maxRecDepth 100000

theorem hex_lt {a : UInt8} {d : Nat} (h : hexN a = some d) : d < 16 := by
  unfold hexN at h
  repeat' split at h
  all_goals first
    | (injection h with h; omega)
    | cases h
theorem bits_all : ∀ d f : Fin 16, bits BinOp.or IntKind.u8 (((d.val : Nat) : Int) * 16 % 256) ((f.val : Nat) : Int) = ((UInt8.ofNat (d.val * 16 + f.val)).toNat : Int) := by decide
theorem bits_or (d f : Nat) (hd : d < 16) (hf : f < 16) : bits BinOp.or IntKind.u8 ((d : Int) * 16 % 256) (f : Int) = ((UInt8.ofNat (d * 16 + f)).toNat : Int) := bits_all ⟨d, hd⟩ ⟨f, hf⟩
set_option maxHeartbeats 1600000 in
theorem two_short (r : List UInt8) (rb mb : Nat) (V : World) (h : Rd V rb mb r) (hr : r.length < 2) : Calls Try.prog 32 #[.pointer (some ⟨rb, 0, none⟩)] V fun e V' => e = .returned (.tuple #[.int .u8 0, .bool false]) ∧ V' = V := by
  have c0 := h.c0
  have hz : (bs r).size < 2 := hr
  have hz2 : ((bs r).size : Int) < 2 := by omega
  clear h hr hz
  generalize bs r = S at *
  go_enter Try.func32, Try.ntmps32
  go_wp2
  go_ret2
  exact ⟨rfl, rfl⟩
set_option maxHeartbeats 1600000 in
theorem two_yes (a b : UInt8) (t : List UInt8) (d f : Nat) (ha : hexN a = some d) (hb : hexN b = some f) (rb mb : Nat) (V : World) (h : Rd V rb mb (a :: b :: t)) : Calls Try.prog 32 #[.pointer (some ⟨rb, 0, none⟩)] V fun e V' => e = .returned (.tuple #[.int .u8 ((UInt8.ofNat (d * 16 + f)).toNat : Int), .bool true]) ∧ Rd V' rb mb t ∧ V.grownBy V' (some rb) := by
  have c0 := h.c0
  have hz2 : ¬ ((bs (a :: b :: t)).size : Int) < 2 := by have : (bs (a :: b :: t)).size = (a :: b :: t).length := rfl; rw [List.length_cons, List.length_cons] at this; omega
  have HDA := Lib.hid (digit_at a)
  have HDB := Lib.hid (digit_at b)
  have ea : hexV a = .tuple #[.int .u8 d, .bool true] := by unfold hexV; rw [ha]
  have eb : hexV b = .tuple #[.int .u8 f, .bool true] := by unfold hexV; rw [hb]
  rw [ea] at HDA
  rw [eb] at HDB
  have H := Lib.hid h
  have HBO := Lib.hid (bits_or d f (hex_lt ha) (hex_lt hb))
  clear h ea eb ha hb
  generalize bs (a :: b :: t) = S at *
  go_enter Try.func32, Try.ntmps32
  go_wp2_with (first
    | (go_at_call 26; refine (next_at a (b :: t) rb mb V H.out).mono ?_; rintro e W1 ⟨rfl, hR, hG⟩; have H1 := Lib.hid hR; have G1 := Lib.hid hG; clear hR hG H)
    | (go_at_call 34; refine (HDA.out _).mono ?_; clear HDA; rintro e W ⟨rfl, rfl⟩)
    | (go_at_call 26; refine (next_at b t rb mb W1 H1.out).mono ?_; rintro e W2 ⟨rfl, hR, hG⟩; have H2 := Lib.hid hR; have G2 := Lib.hid (grown_trans G1.out hG); clear hR hG H1)
    | (go_at_call 34; refine (HDB.out _).mono ?_; clear HDB; rintro e W ⟨rfl, rfl⟩)
    | fail)
  go_ret2
  refine ⟨?_, H2.out, G2.out⟩
  show Ending.returned (.tuple #[.int .u8 (bits BinOp.or IntKind.u8 ((d : Int) * 16 % 256) (f : Int)), .bool true]) = _
  rw [HBO.out]
set_option maxHeartbeats 1600000 in
theorem two_no (a b : UInt8) (t : List UInt8) (hab : hexN a = none ∨ hexN b = none) (rb mb : Nat) (V : World) (h : Rd V rb mb (a :: b :: t)) : Calls Try.prog 32 #[.pointer (some ⟨rb, 0, none⟩)] V fun e V' => ∃ v, e = .returned (.tuple #[.int .u8 v, .bool false]) ∧ Rd V' rb mb t ∧ V.grownBy V' (some rb) := by
  have c0 := h.c0
  have hz2 : ¬ ((bs (a :: b :: t)).size : Int) < 2 := by have : (bs (a :: b :: t)).size = (a :: b :: t).length := rfl; rw [List.length_cons, List.length_cons] at this; omega
  have HDA := Lib.hid (digit_at a)
  have HDB := Lib.hid (digit_at b)
  obtain ⟨d, oa, ea⟩ : ∃ (d : Nat) (o : Bool), hexV a = .tuple #[.int .u8 d, .bool o] ∧ o = (hexN a).isSome := by unfold hexV; cases hexN a with
    | none => exact ⟨0, false, rfl, rfl⟩
    | some d => exact ⟨d, true, rfl, rfl⟩
  obtain ⟨f, ob, eb⟩ : ∃ (d : Nat) (o : Bool), hexV b = .tuple #[.int .u8 d, .bool o] ∧ o = (hexN b).isSome := by unfold hexV; cases hexN b with
    | none => exact ⟨0, false, rfl, rfl⟩
    | some d => exact ⟨d, true, rfl, rfl⟩
  obtain ⟨ea, ha⟩ := ea
  obtain ⟨eb, hb⟩ := eb
  rw [ea] at HDA
  rw [eb] at HDB
  have H := Lib.hid h
  have HO : Hid ((oa = false) ∨ (oa = true ∧ ob = false)) := Lib.hid (by
    rcases hab with e | e
    · rw [e] at ha; exact .inl ha
    · rw [e] at hb
      cases oa with
      | false => exact .inl rfl
      | true => exact .inr ⟨rfl, hb⟩)
  clear h ea eb ha hb hab
  generalize bs (a :: b :: t) = S at *
  rcases HO.out with rfl | ⟨rfl, rfl⟩
  all_goals
    go_enter Try.func32, Try.ntmps32
    go_wp2_with (first
      | (go_at_call 26; refine (next_at a (b :: t) rb mb V H.out).mono ?_; rintro e W1 ⟨rfl, hR, hG⟩; have H1 := Lib.hid hR; have G1 := Lib.hid hG; clear hR hG H)
      | (go_at_call 34; refine (HDA.out _).mono ?_; clear HDA; rintro e W ⟨rfl, rfl⟩)
      | (go_at_call 26; refine (next_at b t rb mb W1 H1.out).mono ?_; rintro e W2 ⟨rfl, hR, hG⟩; have H2 := Lib.hid hR; have G2 := Lib.hid (grown_trans G1.out hG); clear hR hG H1)
      | (go_at_call 34; refine (HDB.out _).mono ?_; clear HDB; rintro e W ⟨rfl, rfl⟩)
      | fail)
    go_ret2
    exact ⟨_, rfl, H2.out, G2.out⟩
end Go.Proofs.Ytffmchbcpihjhaa.Wd
