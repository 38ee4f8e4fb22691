/-
  A part of a span, all parts, and a text: what the methods of what is left to be read, and Parse, answer.
-/
import Derived.Test.YtcllimfaoajapaaDoorTsPart
import Derived.Shelf.Strings.SlTrimAscii
namespace Go.Proofs.YtcllimfaoajapaaDoor.Ts
open Go.RowKit

theorem tw_all {α : Type} (p : α → Bool) (l : List α) : ∀ c ∈ l.takeWhile p, p c = true := fun c hc => (List.all_eq_true.mp List.all_takeWhile) c hc
theorem dw_le {α : Type} (p : α → Bool) (l : List α) : (l.dropWhile p).length ≤ l.length := (List.dropWhile_sublist p).length_le
theorem tw_dw {α : Type} (p : α → Bool) (l : List α) : (l.takeWhile p).length + (l.dropWhile p).length = l.length := by
  rw [← List.length_append, List.takeWhile_append_dropWhile]

theorem fracOf_len {l r : List UInt8} {f : Nat} (h : fracOf l = some (f, r)) : r.length ≤ l.length ∧ f ≤ 999999 := by
  unfold fracOf at h
  split at h
  · split at h
    · cases h
    · rename_i hd
      simp only [Option.some.injEq, Prod.mk.injEq] at h
      obtain ⟨h1, h2⟩ := h
      subst h2
      have a1 := dw_le dg l.tail
      have a2 : l.tail.length ≤ l.length := by simp
      have a3 : (l.tail.takeWhile dg).length ≤ 6 := by
        by_cases g : 6 < (l.tail.takeWhile dg).length
        · exact absurd (Or.inr g) hd
        · omega
      have a4 := six_dec 6 (l.tail.takeWhile dg ++ List.replicate (6 - (l.tail.takeWhile dg).length) 48) (by simp; omega) (by
        intro c hc
        rw [List.mem_append] at hc
        rcases hc with hc | hc
        · exact tw_all dg _ c hc
        · rw [List.eq_of_mem_replicate hc]; rfl)
      exact ⟨by omega, by rw [h1] at a4; omega⟩
  · simp only [Option.some.injEq, Prod.mk.injEq] at h
    exact ⟨by rw [h.2]; exact Nat.le_refl _, by omega⟩

theorem head_cons {l : List UInt8} (h : l.head? = some 46) : l = 46 :: l.tail := by
  cases l with
  | nil => cases h
  | cons a l => simp at h; rw [h]; rfl

theorem frac_some (base B : Nat) (w0 w : World) (s r : ByteArray) (f : Nat) (hs : s.size ≤ 9223372036854775807) (h : Left base B w0 w s) (hf : fracOf s.data.toList = some (f, r.data.toList)) :
    Calls Tryd.prog 44 #[.pointer (some ⟨B, 0, none⟩)] w fun e w' => e = .returned (.tuple #[.int .i64 (f : Int), .bool true]) ∧ Left base B w0 w' r := by
  unfold fracOf at hf
  split at hf
  · rename_i hh
    split at hf
    · cases hf
    · rename_i hd
      simp only [Option.some.injEq, Prod.mk.injEq] at hf
      have hne : s.data.toList.tail.takeWhile dg ≠ [] := fun g => hd (.inl g)
      have h6 : (s.data.toList.tail.takeWhile dg).length ≤ 6 := by
        by_cases g : 6 < (s.data.toList.tail.takeWhile dg).length
        · exact absurd (Or.inr g) hd
        · omega
      have h1 := List.length_pos_iff.mpr hne
      exact frac_yes base B w0 w s ⟨s.data.toList.tail.toArray⟩ ⟨(s.data.toList.tail.takeWhile dg).toArray⟩ r ⟨(List.replicate (6 - (s.data.toList.tail.takeWhile dg).length) 48).toArray⟩ f hs h (head_cons hh) rfl hf.2.symm (by rw [size_of]; exact h6) (by rw [size_of]; exact h1) rfl hf.1
  · rename_i hh
    simp only [Option.some.injEq, Prod.mk.injEq] at hf
    have hr : s = r := by rw [mk_of s _ rfl, mk_of r _ rfl, hf.2]
    subst hr
    rw [← hf.1]
    exact frac_no base B w0 w s h hh
theorem frac_none (base B : Nat) (w0 w : World) (s : ByteArray) (hs : s.size ≤ 9223372036854775807) (h : Left base B w0 w s) (hf : fracOf s.data.toList = none) :
    Calls Tryd.prog 44 #[.pointer (some ⟨B, 0, none⟩)] w fun e w' => e = .returned (.tuple #[.int .i64 0, .bool false]) ∧ Below base w0 w' := by
  unfold fracOf at hf
  split at hf
  · rename_i hh
    split at hf
    · rename_i hd
      rcases hd with hd | hd
      · exact frac_empty base B w0 w s ⟨s.data.toList.tail.toArray⟩ hs h (head_cons hh) hd
      · exact frac_long base B w0 w s ⟨s.data.toList.tail.toArray⟩ ⟨(s.data.toList.tail.takeWhile dg).toArray⟩ hs h (head_cons hh) rfl (by rw [size_of]; exact hd)
    · cases hf
  · cases hf

theorem unit_yes (s : ByteArray) (u : Nat) (w : World) (hu : unitOf s.data.toList = u) (h0 : u ≠ 0) :
    Calls Tryd.prog 45 #[.string s] w fun e w' => e = .returned (.tuple #[.int .i64 (u : Int), .bool true]) ∧ w = w' := by
  have H := u_any s w
  rw [hu, show (u != 0) = true by simpa using h0] at H
  exact H
theorem unit_no (s : ByteArray) (w : World) (hu : unitOf s.data.toList = 0) :
    Calls Tryd.prog 45 #[.string s] w fun e w' => e = .returned (.tuple #[.int .i64 0, .bool false]) ∧ w = w' := by
  have H := u_any s w
  rw [hu] at H
  exact H

set_option maxHeartbeats 400000 in
theorem part_bare (base B : Nat) (w0 w : World) (s : ByteArray) (hs : s.size ≤ 9223372036854775807) (h : Left base B w0 w s) (hd : s.data.toList.takeWhile dg = []) :
    Calls Tryd.prog 29 #[.pointer (some ⟨B, 0, none⟩)] w fun e w' => e = .returned (.tuple #[.int .i64 0, .bool false]) ∧ Below base w0 w' := by
  have H := Lib.hid h
  have HD := Lib.hid hd
  clear h hd
  go_enter Tryd.func29, Tryd.ntmps29
  go_wp2_with fail
  refine (take_dg_v base B w0 _ s ⟨#[]⟩ ⟨(s.data.toList.dropWhile dg).toArray⟩ hs H.out (by rw [HD.out]) rfl).mono ?_
  rintro e w' ⟨rfl, hL⟩
  have HL := Lib.hid hL
  clear hL
  go_wp2
  go_ret2
  exact ⟨rfl, HL.out.below⟩

set_option maxHeartbeats 400000 in
theorem part_nofrac (base B : Nat) (w0 w : World) (s d q : ByteArray) (hs : s.size ≤ 9223372036854775807) (h : Left base B w0 w s) (hd : d.data.toList = s.data.toList.takeWhile dg) (hq : q.data.toList = s.data.toList.dropWhile dg) (hqs : q.size ≤ 9223372036854775807) (hne : d.toList.isEmpty = false) (hf : fracOf q.data.toList = none) :
    Calls Tryd.prog 29 #[.pointer (some ⟨B, 0, none⟩)] w fun e w' => e = .returned (.tuple #[.int .i64 0, .bool false]) ∧ Below base w0 w' := by
  have H := Lib.hid h
  have HD := Lib.hid hd
  have HQ := Lib.hid hq
  have HF := Lib.hid hf
  clear h hd hq hf
  go_enter Tryd.func29, Tryd.ntmps29
  go_wp2_with fail
  refine (take_dg_v base B w0 _ s d q hs H.out HD.out HQ.out).mono ?_
  rintro e w' ⟨rfl, hL⟩
  have HL := Lib.hid hL
  clear hL
  go_wp2_with fail
  refine (frac_none base B w0 _ q hqs HL.out HF.out).mono ?_
  rintro e w' ⟨rfl, hB⟩
  have HB := Lib.hid hB
  clear hB
  go_wp2
  go_ret2
  exact ⟨rfl, HB.out⟩

set_option maxHeartbeats 400000 in
theorem part_nounit (base B : Nat) (w0 w : World) (s d q r b r2 u r3 : ByteArray) (f : Nat) (hs : s.size ≤ 9223372036854775807) (h : Left base B w0 w s) (hd : d.data.toList = s.data.toList.takeWhile dg) (hq : q.data.toList = s.data.toList.dropWhile dg) (hqs : q.size ≤ 9223372036854775807) (hne : d.toList.isEmpty = false) (hf : fracOf q.data.toList = some (f, r.data.toList)) (hrs : r.size ≤ 9223372036854775807)
    (hb : b.data.toList = r.data.toList.takeWhile bl) (hr2 : r2.data.toList = r.data.toList.dropWhile bl) (hr2s : r2.size ≤ 9223372036854775807) (hu : u.data.toList = r2.data.toList.takeWhile lt) (hr3 : r3.data.toList = r2.data.toList.dropWhile lt) (hz : unitOf u.data.toList = 0) :
    Calls Tryd.prog 29 #[.pointer (some ⟨B, 0, none⟩)] w fun e w' => e = .returned (.tuple #[.int .i64 0, .bool false]) ∧ Below base w0 w' := by
  have H := Lib.hid h
  have HD := Lib.hid hd
  have HQ := Lib.hid hq
  have HF := Lib.hid hf
  have HB := Lib.hid hb
  have HR2 := Lib.hid hr2
  have HU := Lib.hid hu
  have HR3 := Lib.hid hr3
  have HZ := Lib.hid hz
  clear h hd hq hf hb hr2 hu hr3 hz
  go_enter Tryd.func29, Tryd.ntmps29
  go_wp2_with fail
  refine (take_dg_v base B w0 _ s d q hs H.out HD.out HQ.out).mono ?_
  rintro e w' ⟨rfl, hL⟩
  have HL := Lib.hid hL
  clear hL
  go_wp2_with fail
  refine (frac_some base B w0 _ q r f hqs HL.out HF.out).mono ?_
  rintro e w1 ⟨rfl, hL⟩
  have HL1 := Lib.hid hL
  clear hL
  go_wp2_with fail
  refine (take_bl_v base B w0 _ r b r2 hrs HL1.out HB.out HR2.out).mono ?_
  rintro e w2 ⟨rfl, hL⟩
  have HL2 := Lib.hid hL
  clear hL
  go_wp2_with fail
  refine (take_lt_v base B w0 _ r2 u r3 hr2s HL2.out HU.out HR3.out).mono ?_
  rintro e w3 ⟨rfl, hL⟩
  have HL3 := Lib.hid hL
  clear hL
  go_wp2_with fail
  refine (unit_no u _ HZ.out).mono ?_
  rintro e w4 ⟨rfl, rfl⟩
  go_wp2
  go_ret2
  exact ⟨rfl, HL3.out.below⟩

set_option maxHeartbeats 400000 in
theorem part_yes (base B : Nat) (w0 w : World) (s d q r b r2 u r3 : ByteArray) (f U v : Nat) (hs : s.size ≤ 9223372036854775807) (h : Left base B w0 w s) (hd : d.data.toList = s.data.toList.takeWhile dg) (hq : q.data.toList = s.data.toList.dropWhile dg) (hqs : q.size ≤ 9223372036854775807) (hds : d.size ≤ 9223372036854775807) (hne : d.toList.isEmpty = false) (hf : fracOf q.data.toList = some (f, r.data.toList)) (hrs : r.size ≤ 9223372036854775807) (hf9 : f ≤ 999999)
    (hb : b.data.toList = r.data.toList.takeWhile bl) (hr2 : r2.data.toList = r.data.toList.dropWhile bl) (hr2s : r2.size ≤ 9223372036854775807) (hu : u.data.toList = r2.data.toList.takeWhile lt) (hr3 : r3.data.toList = r2.data.toList.dropWhile lt) (hU : unitOf u.data.toList = U) (hU0 : U ≠ 0) (hUs : U ≤ 31557600000000) (hv : dec d.data.toList * U + share f U = v) :
    Calls Tryd.prog 29 #[.pointer (some ⟨B, 0, none⟩)] w fun e w' => e = .returned (.tuple #[.int .i64 (cap v : Nat), .bool true]) ∧ Left base B w0 w' r3 := by
  have hdig : ∀ c ∈ d.data.toList, dg c = true := by rw [hd]; exact tw_all dg _
  have hsh := share_bd f U hf9 hUs
  have hcv : cap (cap (cap (dec d.data.toList) * U) + share f U) = cap v := by
    rw [cap_mul _ _ (by omega), cap_add, hv]
  have H := Lib.hid h
  have HD := Lib.hid hd
  have HQ := Lib.hid hq
  have HF := Lib.hid hf
  have HB := Lib.hid hb
  have HR2 := Lib.hid hr2
  have HU := Lib.hid hu
  have HR3 := Lib.hid hr3
  have HUU := Lib.hid hU
  have HU0 := Lib.hid hU0
  have HG := Lib.hid hdig
  have HSH := Lib.hid hsh
  have HCV := Lib.hid hcv
  clear h hd hq hf hb hr2 hu hr3 hU hU0 hdig hsh hcv hv
  go_enter Tryd.func29, Tryd.ntmps29
  go_wp2_with fail
  refine (take_dg_v base B w0 _ s d q hs H.out HD.out HQ.out).mono ?_
  rintro e w' ⟨rfl, hL⟩
  have HL := Lib.hid hL
  clear hL
  go_wp2_with fail
  refine (frac_some base B w0 _ q r f hqs HL.out HF.out).mono ?_
  rintro e w1 ⟨rfl, hL⟩
  have HL1 := Lib.hid hL
  clear hL
  go_wp2_with fail
  refine (take_bl_v base B w0 _ r b r2 hrs HL1.out HB.out HR2.out).mono ?_
  rintro e w2 ⟨rfl, hL⟩
  have HL2 := Lib.hid hL
  clear hL
  go_wp2_with fail
  refine (take_lt_v base B w0 _ r2 u r3 hr2s HL2.out HU.out HR3.out).mono ?_
  rintro e w3 ⟨rfl, hL⟩
  have HL3 := Lib.hid hL
  clear hL
  go_wp2_with fail
  refine (unit_yes u U _ HUU.out HU0.out).mono ?_
  rintro e w4 ⟨rfl, rfl⟩
  go_wp2_with fail
  refine (number_any d _ hds HG.out).mono ?_
  rintro e w5 ⟨rfl, m, hw⟩
  have HW := Lib.hid hw
  clear hw
  go_wp2_with fail
  refine (times_cap (cap (dec d.data.toList)) U _ (cap_le _) (by omega)).mono ?_
  rintro e w6 ⟨rfl, rfl⟩
  go_wp2_with fail
  refine (share_any f U _ hf9 hUs).mono ?_
  rintro e w7 ⟨rfl, rfl⟩
  go_wp2_with fail
  refine (later_cap (cap (cap (dec d.data.toList) * U)) (share f U) _ (cap_le _) (by have := HSH.out; omega)).mono ?_
  rintro e w8 ⟨rfl, rfl⟩
  go_wp2
  go_ret2
  exact ⟨by rw [HCV.out]; rfl, by rw [HW.out]; exact HL3.out.drewN m⟩

end Go.Proofs.YtcllimfaoajapaaDoor.Ts
