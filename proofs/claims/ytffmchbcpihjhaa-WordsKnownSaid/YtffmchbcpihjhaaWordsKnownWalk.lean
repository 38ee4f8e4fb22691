/-
  Layer 12 (words): the law WordsKnown, walked.
-/
import Derived.Test.YtffmchbcpihjhaaWordsBackWalk
import Derived.Test.YtffmchbcpihjhaaWordsMoreWalk
import Derived.Test.YtffmchbcpihjhaaWordsPlainWalk
namespace Go.Proofs.Ytffmchbcpihjhaa.Wd
open Go.RowKit
set_option maxRecDepth 100000

theorem split_free (a : ByteArray) (w : World) : Calls Try.prog 3 #[.string a] w fun e w' => e = .returned (.bool true) ∧ Below w.heap.size w w' := by
  rcases Nat.lt_or_ge 9223372036854775807 a.size with h | h
  · have HWK : Hid (Calls Try.prog 9 #[] w fun e w' => e = .returned (.bool true) ∧ Below w.heap.size w w') := Lib.hid (works_any w)
    have h1 : (1000 : Int) < (a.size : Int) := by omega
    clear h
    go_enter Try.func3, Try.ntmps3
    go_wp2_with (first
      | (go_at_call 9; refine (HWK.out).mono ?_; clear HWK; rintro e V ⟨rfl, hb⟩; have HB := Lib.hid hb; clear hb)
      | fail)
    go_ret
    exact ⟨rfl, HB.out⟩
  · exact wordsSplit_any a h w
def kL : List (List UInt8) := [[], [32], [34], [39], [34, 34], [39, 39], [97, 34, 34, 98], [34, 97, 34, 39, 98, 39, 99], [97, 92], [92], [92, 113], [92, 120, 52], [92, 120, 52, 103], [92, 120, 102, 70], [39, 92, 39], [39, 97, 92, 110, 39], [34, 92, 34, 34], [34, 39, 34], [39, 34, 39], [97, 92, 32, 98], [97, 92, 115, 98], [34, 97, 32, 98, 34, 32, 99, 9, 100], [34, 97, 10, 98, 34], [127], [92, 120, 48, 48], [97, 92, 116, 98, 92, 110, 92, 92, 92, 39], [34, 32, 92, 120, 50, 48, 32, 34]]
theorem kL_len : ∀ x ∈ kL, x.length ≤ 20 := by decide
theorem new_rowN (W : World) (g : Nat) (hg : W.heap.size = g) (l : List (List UInt8)) (cs : Array Value) (hcs : cs = (l.map fun x => Value.string (bs x)).toArray) (t : TypeId) : StrRow (W.alloc (.cells cs t)) (some ⟨g, 0, none⟩) l := by
  subst hg; exact new_row W l cs hcs t
theorem three_run (c : UInt8) (X : Int) (hX : (c.toNat : Int) = X) (O : ByteArray) (hO : bs [97, c, 98] = O) (W : World) (o : Obj) : (convert 35 9 (.slice (some ⟨W.heap.size + 1, 0, none⟩) 3 3)).run Try.prog ((W.alloc o).alloc (.cells #[.int .u8 97, .int .u8 X, .int .u8 98] 5)) = .ok (.string O) ((W.alloc o).alloc (.cells #[.int .u8 97, .int .u8 X, .int .u8 98] 5)) := by
  subst hX
  subst hO
  exact conv_any ((W.alloc o).alloc (.cells #[.int .u8 97, .int .u8 (c.toNat : Int), .int .u8 98] 5)) ⟨W.heap.size + 1, 0, none⟩ 3 3 [97, c, 98] rfl (fun i b hi => new_cells (W.alloc o) _ (by simp) [.int .u8 97, .int .u8 (c.toNat : Int), .int .u8 98] 5 i _ (by
    match i, hi with
    | 0, hi => cases hi; rfl
    | 1, hi => cases hi; rfl
    | 2, hi => cases hi; rfl
    | i + 3, hi => simp at hi))
set_option maxHeartbeats 8000000 in
theorem wordsKnown_any (w : World) : Calls Try.prog 7 #[] w fun e w' => e = .returned (.bool true) ∧ Below w.heap.size w w' := by
  have HSP : Hid (∀ a V, Below w.heap.size w V → Calls Try.prog 3 #[.string a] V fun e w' => e = .returned (.bool true) ∧ Below V.heap.size V w') := Lib.hid fun a V _ => split_free a V
  have HPL : Hid (∀ a V, Below w.heap.size w V → Calls Try.prog 6 #[.string a] V fun e w' => e = .returned (.bool true) ∧ Below V.heap.size V w') := Lib.hid fun a V _ => wordsPlain_any a V
  have HMO : Hid (∀ a b V, Below w.heap.size w V → Calls Try.prog 5 #[.string a, .string b] V fun e w' => e = .returned (.bool true) ∧ Below V.heap.size V w') := Lib.hid fun a b V _ => wordsMore_any a b V
  have HBA : Hid (∀ A n c os V, os.length = n → StrRow V A os → Calls Try.prog 4 #[.slice A n c] V fun e w' => e = .returned (.bool true) ∧ Below V.heap.size V w') := Lib.hid fun A n c os V h1 h2 => wordsBack_any A n c os V h1 h2
  have HJO : Hid (∀ V, Calls Try.prog 13 #[.slice none 0 0] V fun e w' => e = .returned (.string ⟨#[]⟩) ∧ Below V.heap.size V w') := Lib.hid fun V => join_any none 0 [] (by decide) (by decide) V (StrRow.nil _ _)
  have HWK : Hid (∀ V, Below w.heap.size w V → Calls Try.prog 9 #[] V fun e w' => e = .returned (.bool true) ∧ Below w.heap.size w w') := Lib.hid fun V h => works_then h
  have HR0 := Lib.hid (new_row w kL #[.string ⟨#[]⟩, .string ⟨#[32]⟩, .string ⟨#[34]⟩, .string ⟨#[39]⟩, .string ⟨#[34, 34]⟩, .string ⟨#[39, 39]⟩, .string ⟨#[97, 34, 34, 98]⟩, .string ⟨#[34, 97, 34, 39, 98, 39, 99]⟩, .string ⟨#[97, 92]⟩, .string ⟨#[92]⟩, .string ⟨#[92, 113]⟩, .string ⟨#[92, 120, 52]⟩, .string ⟨#[92, 120, 52, 103]⟩, .string ⟨#[92, 120, 102, 70]⟩, .string ⟨#[39, 92, 39]⟩, .string ⟨#[39, 97, 92, 110, 39]⟩, .string ⟨#[34, 92, 34, 34]⟩, .string ⟨#[34, 39, 34]⟩, .string ⟨#[39, 34, 39]⟩, .string ⟨#[97, 92, 32, 98]⟩, .string ⟨#[97, 92, 115, 98]⟩, .string ⟨#[34, 97, 32, 98, 34, 32, 99, 9, 100]⟩, .string ⟨#[34, 97, 10, 98, 34]⟩, .string ⟨#[127]⟩, .string ⟨#[92, 120, 48, 48]⟩, .string ⟨#[97, 92, 116, 98, 92, 110, 92, 92, 92, 39]⟩, .string ⟨#[34, 32, 92, 120, 50, 48, 32, 34]⟩] rfl 9)
  have HK0 := Lib.hid ((Below.refl w.heap.size w).alloc (Nat.le_refl _) (.cells #[.string ⟨#[]⟩, .string ⟨#[32]⟩, .string ⟨#[34]⟩, .string ⟨#[39]⟩, .string ⟨#[34, 34]⟩, .string ⟨#[39, 39]⟩, .string ⟨#[97, 34, 34, 98]⟩, .string ⟨#[34, 97, 34, 39, 98, 39, 99]⟩, .string ⟨#[97, 92]⟩, .string ⟨#[92]⟩, .string ⟨#[92, 113]⟩, .string ⟨#[92, 120, 52]⟩, .string ⟨#[92, 120, 52, 103]⟩, .string ⟨#[92, 120, 102, 70]⟩, .string ⟨#[39, 92, 39]⟩, .string ⟨#[39, 97, 92, 110, 39]⟩, .string ⟨#[34, 92, 34, 34]⟩, .string ⟨#[34, 39, 34]⟩, .string ⟨#[39, 34, 39]⟩, .string ⟨#[97, 92, 32, 98]⟩, .string ⟨#[97, 92, 115, 98]⟩, .string ⟨#[34, 97, 32, 98, 34, 32, 99, 9, 100]⟩, .string ⟨#[34, 97, 10, 98, 34]⟩, .string ⟨#[127]⟩, .string ⟨#[92, 120, 48, 48]⟩, .string ⟨#[97, 92, 116, 98, 92, 110, 92, 92, 92, 39]⟩, .string ⟨#[34, 32, 92, 120, 50, 48, 32, 34]⟩] 9))
  obtain ⟨W0, hW0⟩ : ∃ W0, w.alloc (.cells #[.string ⟨#[]⟩, .string ⟨#[32]⟩, .string ⟨#[34]⟩, .string ⟨#[39]⟩, .string ⟨#[34, 34]⟩, .string ⟨#[39, 39]⟩, .string ⟨#[97, 34, 34, 98]⟩, .string ⟨#[34, 97, 34, 39, 98, 39, 99]⟩, .string ⟨#[97, 92]⟩, .string ⟨#[92]⟩, .string ⟨#[92, 113]⟩, .string ⟨#[92, 120, 52]⟩, .string ⟨#[92, 120, 52, 103]⟩, .string ⟨#[92, 120, 102, 70]⟩, .string ⟨#[39, 92, 39]⟩, .string ⟨#[39, 97, 92, 110, 39]⟩, .string ⟨#[34, 92, 34, 34]⟩, .string ⟨#[34, 39, 34]⟩, .string ⟨#[39, 34, 39]⟩, .string ⟨#[97, 92, 32, 98]⟩, .string ⟨#[97, 92, 115, 98]⟩, .string ⟨#[34, 97, 32, 98, 34, 32, 99, 9, 100]⟩, .string ⟨#[34, 97, 10, 98, 34]⟩, .string ⟨#[127]⟩, .string ⟨#[92, 120, 48, 48]⟩, .string ⟨#[97, 92, 116, 98, 92, 110, 92, 92, 92, 39]⟩, .string ⟨#[34, 32, 92, 120, 50, 48, 32, 34]⟩] 9) = W0 := ⟨_, rfl⟩
  rw [hW0] at HR0 HK0
  have HCE : Hid (∀ k x, kL[k]? = some x → ∀ V, Below W0.heap.size W0 V → V.cell? ⟨w.heap.size, k, none⟩ = some (.string (bs x))) := Lib.hid fun k x hx V hV => by
    obtain ⟨a, e, h1, h2⟩ := (HR0.out.keep hV) k x hx
    cases e
    have hadd : (⟨w.heap.size, 0, none⟩ : Addr).add k = ⟨w.heap.size, k, none⟩ := by unfold Addr.add; split <;> simp_all
    rw [hadd] at h2
    exact h2
  go_enter Try.func7, Try.ntmps7
  go_wp2_with fail
  clear hW0
  go_loopw [8] (fun i wr => ∃ k : Nat, k ≤ 27 ∧ i = .int .i64 k ∧ Below W0.heap.size W0 wr) (fun i _ => 27 - (intOf i).toNat)
  case atStart => exact ⟨0, by decide, rfl, Below.refl _ _⟩
  case round =>
    obtain ⟨k, hk, rfl, hb0⟩ := hrel
    have HB0 := Lib.hid hb0
    have HBW : Hid (Below w.heap.size w wr) := Lib.hid (HK0.out.trans (hb0.mono HK0.out.size))
    by_cases hlt : k < 27
    · obtain ⟨x, hx⟩ : ∃ x, kL[k]? = some x := ⟨_, List.getElem?_eq_getElem (show k < kL.length from hlt)⟩
      have a1 := HCE.out k x hx wr hb0
      have hxl := kL_len x (List.mem_of_getElem? hx)
      have HROW : Hid (∀ V : World, StrRow (V.alloc (.cells #[.string (bs x), .string ⟨#[]⟩, .string (bs x ++ ⟨#[32]⟩)] 9)) (some ⟨V.heap.size, 0, none⟩) [x, [], x ++ [32]]) := Lib.hid fun V => new_row V _ _ (by rw [show (⟨#[32]⟩ : ByteArray) = bs [32] from rfl, bs_app]; rfl) _
      have hxs : (bs x).size ≤ 20 := hxl
      clear hx hxl hb0
      obtain ⟨X, hX⟩ : ∃ X, bs x = X := ⟨_, rfl⟩
      rw [hX] at a1 HROW hxs
      clear hX
      have hs1 : X.size + 1 ≤ 9223372036854775807 := by omega
      have hki : (k : Int) < 27 := by omega
      go_wp2_with (first
        | (go_at_call 3; refine (HSP.out _ _ HBW.out).mono ?_; rintro e V1 ⟨rfl, hb⟩; have HB1 := Lib.hid (HBW.out.trans (hb.mono HBW.out.size)); have HC1 := Lib.hid (HB0.out.trans (hb.mono HB0.out.size)); clear hb)
        | (go_at_call 4; refine (HBA.out _ _ _ _ _ rfl (HROW.out V1)).mono ?_; clear HROW; rintro e V2 ⟨rfl, hb⟩; have hb2 := ((Below.refl _ V1).alloc (Nat.le_refl _) _).trans (hb.mono (by simp)); have HB2 := Lib.hid (HB1.out.trans (hb2.mono HB1.out.size)); have HC2 := Lib.hid (HC1.out.trans (hb2.mono HC1.out.size)); clear hb hb2)
        | (go_at_call 5; refine (HMO.out _ _ V2 HB2.out).mono ?_; rintro e V3 ⟨rfl, hb⟩; have HB3 := Lib.hid (HB2.out.trans (hb.mono HB2.out.size)); have HC3 := Lib.hid (HC2.out.trans (hb.mono HC2.out.size)); clear hb HB2)
        | (go_at_call 5; refine (HMO.out _ _ V3 HB3.out).mono ?_; rintro e V4 ⟨rfl, hb⟩; have HB4 := Lib.hid (HB3.out.trans (hb.mono HB3.out.size)); have HC4 := Lib.hid (HC3.out.trans (hb.mono HC3.out.size)); clear hb)
        | (go_at_call 6; refine (HPL.out _ _ HB4.out).mono ?_; rintro e V5 ⟨rfl, hb⟩; have HC5 := Lib.hid (HC4.out.trans (hb.mono HC4.out.size)); clear hb)
        | fail)
      go_roundw
      case rel => exact ⟨k + 1, by omega, by go_num, HC5.out⟩
      case measure => exact meas _ _ _ (by go_num) hlt
    · obtain rfl : k = 27 := by omega
      clear hb0
      go_wp2_with fail
      obtain ⟨wA, hwA⟩ : ∃ wo : World, wo = wr := ⟨_, rfl⟩
      rw [← hwA] at HBW
      subst hwA
      go_loopw [3, 4] (fun t i wx => ∃ (k : Nat) (M : ByteArray), k ≤ 64 ∧ i = .int .i64 k ∧ t = .string M ∧ M.size = 2 * k ∧ wx = wA) (fun _ i _ => 64 - (intOf i).toNat)
      case atStart => exact ⟨0, ⟨#[]⟩, by decide, rfl, rfl, rfl, rfl⟩
      case round =>
        obtain ⟨k, M, hk, rfl, rfl, hM, rfl⟩ := hrel
        by_cases hlt : k < 64
        · have hs1 : M.size + 2 ≤ 9223372036854775807 := by omega
          have HM2 : Hid ((M ++ ⟨#[97, 32]⟩).size = 2 * (k + 1)) := Lib.hid (by rw [ByteArray.size_append, hM]; show 2 * k + 2 = _; omega)
          have hki : (k : Int) < 64 := by omega
          clear hM
          go_wp2_with fail
          go_roundw
          case rel => exact ⟨k + 1, _, by omega, by go_num, rfl, HM2.out, by first | rfl | trivial⟩
          case measure => exact meas _ _ _ (by go_num) hlt
        · have hms : M.size ≤ 128 := by omega
          have hkk : ¬ (k : Int) < 64 := by omega
          clear hM
          have hs1 : M.size + 1 ≤ 9223372036854775807 := by omega
          obtain ⟨wB, hwB⟩ : ∃ wo : World, wo = wr := ⟨_, rfl⟩
          go_wp2_with fail
          go_loopw [5] (fun i wx => ∃ k : Nat, k ≤ 256 ∧ i = .int .i64 k ∧ Below w.heap.size w wx) (fun i _ => 256 - (intOf i).toNat)
          case atStart => exact ⟨0, by decide, rfl, HBW.out⟩
          case round =>
            obtain ⟨j, hj, rfl, hbx⟩ := hrel
            have HBX := Lib.hid hbx
            clear hbx
            by_cases hlt : j < 256
            · have hX : ((UInt8.ofNat j).toNat : Int) = (j : Int) := by rw [UInt8.toNat_ofNat']; omega
              obtain ⟨O, hO⟩ : ∃ O, bs [UInt8.ofNat j] = O := ⟨_, rfl⟩
              obtain ⟨O3, hO3⟩ : ∃ O, bs [97, UInt8.ofNat j, 98] = O := ⟨_, rfl⟩
              have hconv := one_run (UInt8.ofNat j) (j : Int) hX O hO
              have hconv3 := three_run (UInt8.ofNat j) (j : Int) hX O3 hO3
              have HROW : Hid (∀ (V : World) (g : Nat) (_ : V.heap.size = g), StrRow (V.alloc (.cells #[.string O, .string O3] 9)) (some ⟨g, 0, none⟩) [[UInt8.ofNat j], [97, UInt8.ofNat j, 98]]) := Lib.hid fun V g hg => new_rowN V g hg _ _ (by rw [← hO, ← hO3]; rfl) _
              have hos : O.size = 1 := by rw [← hO]; rfl
              have hs2 : 1 + O.size ≤ 9223372036854775807 := by omega
              have hs3 : 1 + O.size + 1 ≤ 9223372036854775807 := by omega
              have hji : (j : Int) < 256 := by omega
              have hjp : (0 : Int) ≤ (j : Int) := by omega
              clear hX hO hO3
              go_wp2_with (first
                | (go_at_call 4; refine (HBA.out _ _ _ _ _ rfl (HROW.out _ _ (by simp))).mono ?_; clear HROW; rintro e V2 ⟨rfl, hb⟩; have HB2 := Lib.hid ((((HBX.out.alloc HBX.out.size _).alloc (by have := HBX.out.size; simp; omega) _).alloc (by have := HBX.out.size; simp; omega) _).trans (hb.mono (by have := HBX.out.size; simp; omega))); clear hb)
                | (go_at_call 3; refine (HSP.out _ _ (HB2.out.alloc HB2.out.size _)).mono ?_; rintro e V3 ⟨rfl, hb⟩; have HB3 := Lib.hid ((HB2.out.alloc HB2.out.size _).trans (hb.mono (by have := HB2.out.size; simp; omega))); clear hb HB2)
                | (go_at_call 3; refine (HSP.out _ _ (HB3.out.alloc HB3.out.size _)).mono ?_; rintro e V4 ⟨rfl, hb⟩; have HB4 := Lib.hid ((HB3.out.alloc HB3.out.size _).trans (hb.mono (by have := HB3.out.size; simp; omega))); clear hb)
                | fail)
              go_roundw
              case rel => exact ⟨j + 1, by omega, by go_num, HB4.out⟩
              case measure => exact meas _ _ _ (by go_num) hlt
            · obtain rfl : j = 256 := by omega
              have hn0 : ([] : List (List UInt8)).length = 0 := rfl
              go_wp2_with (first
                | (go_at_call 3; refine (HSP.out _ _ HBX.out).mono ?_; rintro e V1 ⟨rfl, hb⟩; have HB1 := Lib.hid (HBX.out.trans (hb.mono HBX.out.size)); clear hb HBX)
                | (go_at_call 3; refine (HSP.out _ _ HB1.out).mono ?_; rintro e V2 ⟨rfl, hb⟩; have HB2 := Lib.hid (HB1.out.trans (hb.mono HB1.out.size)); clear hb)
                | (go_at_call 6; refine (HPL.out _ _ HB2.out).mono ?_; rintro e V3 ⟨rfl, hb⟩; have HB3 := Lib.hid (HB2.out.trans (hb.mono HB2.out.size)); clear hb HB2)
                | (go_at_call 6; refine (HPL.out _ _ HB3.out).mono ?_; rintro e V4 ⟨rfl, hb⟩; have HB4 := Lib.hid (HB3.out.trans (hb.mono HB3.out.size)); clear hb)
                | (go_at_call 4; refine (HBA.out none 0 0 [] _ rfl (StrRow.nil _ _)).mono ?_; rintro e V5 ⟨rfl, hb⟩; have HB5 := Lib.hid (HB4.out.trans (hb.mono HB4.out.size)); clear hb)
                | (go_at_call 13; refine (HJO.out _).mono ?_; rintro e V6 ⟨rfl, hb⟩; have HB6 := Lib.hid (HB5.out.trans (hb.mono HB5.out.size)); clear hb)
                | (go_at_call 9; refine (HWK.out _ HB6.out).mono ?_; rintro e V ⟨rfl, hb⟩; have HB := Lib.hid hb; clear hb)
                | fail)
              go_ret
              exact ⟨rfl, HB.out⟩
end Go.Proofs.Ytffmchbcpihjhaa.Wd
