/-
  A fraction, and a part of a span: what the methods of what is left to be read answer.
-/
import Derived.Test.YtcllimfaoajapaaDoorTsNum
import Derived.Test.YtcllimfaoajapaaDoorTsUnit
namespace Go.Proofs.YtcllimfaoajapaaDoor.Ts
open Go.RowKit

theorem Left.drewN {base B : Nat} {w0 w : World} {s : ByteArray} (h : Left base B w0 w s) : ∀ m, Left base B w0 (w.drewN m) s
  | 0 => h
  | m + 1 => by
    have k := h.drewN m
    exact ⟨k.low, k.in', k.cell, k.free, k.below.drew⟩
theorem Left.grow {base B : Nat} {w0 w w' : World} {s : ByteArray} (h : Left base B w0 w s) (hb : Below w.heap.size w w') : Left base B w0 w' s where
  low := h.low
  in' := Nat.lt_of_lt_of_le h.in' hb.size
  cell := by rw [hb.cell (p := ⟨B, 0, none⟩) h.in']; exact h.cell
  free := by rw [hb.frozen (p := ⟨B, 0, none⟩) h.in']; exact h.free
  below := h.below.trans (hb.mono (Nat.le_of_lt (Nat.lt_of_le_of_lt h.low h.in')))

theorem take_dg_v (base B : Nat) (w0 w : World) (s ds qs : ByteArray) (hs : s.size ≤ 9223372036854775807) (h : Left base B w0 w s) (hd : ds.data.toList = s.data.toList.takeWhile dg) (hq : qs.data.toList = s.data.toList.dropWhile dg) :
    Calls Tryd.prog 31 #[.pointer (some ⟨B, 0, none⟩), .func (.func 43) #[] #[]] w fun e w' => e = .returned (.string ds) ∧ Left base B w0 w' qs := by
  rw [mk_of ds _ hd, mk_of qs _ hq]; exact take_dg base B w0 w s hs h
theorem take_lt_v (base B : Nat) (w0 w : World) (s ds qs : ByteArray) (hs : s.size ≤ 9223372036854775807) (h : Left base B w0 w s) (hd : ds.data.toList = s.data.toList.takeWhile lt) (hq : qs.data.toList = s.data.toList.dropWhile lt) :
    Calls Tryd.prog 31 #[.pointer (some ⟨B, 0, none⟩), .func (.func 46) #[] #[]] w fun e w' => e = .returned (.string ds) ∧ Left base B w0 w' qs := by
  rw [mk_of ds _ hd, mk_of qs _ hq]; exact take_lt base B w0 w s hs h
theorem take_bl_v (base B : Nat) (w0 w : World) (s ds qs : ByteArray) (hs : s.size ≤ 9223372036854775807) (h : Left base B w0 w s) (hd : ds.data.toList = s.data.toList.takeWhile bl) (hq : qs.data.toList = s.data.toList.dropWhile bl) :
    Calls Tryd.prog 31 #[.pointer (some ⟨B, 0, none⟩), .func (.func 32) #[] #[]] w fun e w' => e = .returned (.string ds) ∧ Left base B w0 w' qs := by
  rw [mk_of ds _ hd, mk_of qs _ hq]; exact take_bl base B w0 w s hs h

theorem cut_yes (s r : ByteArray) (w : World) (h : s.data.toList = 46 :: r.data.toList) :
    Calls Tryd.prog 61 #[.string s, .string ⟨#[46]⟩] w fun e w' => e = .returned (.tuple #[.string r, .bool true]) ∧ w = w' := by
  refine (Tryd.strings_CutPrefix s ⟨#[46]⟩ w).mono ?_
  rintro e w' ⟨rfl, rfl⟩
  refine ⟨?_, rfl⟩
  rw [h, mk_of r _ rfl]
  simp [Lib.trimPrefix, Lib.hasPrefix]
theorem cut_no (s : ByteArray) (w : World) (h : s.data.toList.head? ≠ some 46) :
    Calls Tryd.prog 61 #[.string s, .string ⟨#[46]⟩] w fun e w' => e = .returned (.tuple #[.string s, .bool false]) ∧ w = w' := by
  refine (Tryd.strings_CutPrefix s ⟨#[46]⟩ w).mono ?_
  rintro e w' ⟨rfl, rfl⟩
  refine ⟨?_, rfl⟩
  have e : Lib.hasPrefix s.data.toList [46] = false := by
    cases hl : s.data.toList with
    | nil => rfl
    | cons a l => rw [hl] at h; simp at h; simp [Lib.hasPrefix, List.isPrefixOf, Ne.symm h]
  have e' : Lib.trimPrefix s.data.toList [46] = s.data.toList := by simp [Lib.trimPrefix, e]
  rw [show (⟨#[46]⟩ : ByteArray).data.toList = [46] from rfl, e, e', ← mk_of s _ rfl]

/-- What a call for a fraction leaves. -/
def FracPost (base B : Nat) (w0 : World) (o : Option (Nat × List UInt8)) (e : Ending) (w' : World) : Prop := match o with
  | none => e = .returned (.tuple #[.int .i64 0, .bool false]) ∧ Below base w0 w'
  | some (f, r) => e = .returned (.tuple #[.int .i64 (f : Int), .bool true]) ∧ Left base B w0 w' ⟨r.toArray⟩

set_option maxHeartbeats 400000 in
theorem frac_no (base B : Nat) (w0 w : World) (s : ByteArray) (h : Left base B w0 w s) (hn : s.data.toList.head? ≠ some 46) :
    Calls Tryd.prog 44 #[.pointer (some ⟨B, 0, none⟩)] w fun e w' => e = .returned (.tuple #[.int .i64 0, .bool true]) ∧ Left base B w0 w' s := by
  have hc := h.cell
  have H := Lib.hid h
  have HN := Lib.hid hn
  clear h hn
  go_enter Tryd.func44, Tryd.ntmps44
  go_wp2_with (go_at_call 61; refine (cut_no s _ HN.out).mono ?_; rintro e w' ⟨rfl, rfl⟩)
  go_ret2
  exact ⟨rfl, H.out⟩

set_option maxHeartbeats 400000 in
theorem frac_empty (base B : Nat) (w0 w : World) (s r : ByteArray) (hs : s.size ≤ 9223372036854775807) (h : Left base B w0 w s) (hr : s.data.toList = 46 :: r.data.toList) (hd : r.data.toList.takeWhile dg = []) :
    Calls Tryd.prog 44 #[.pointer (some ⟨B, 0, none⟩)] w fun e w' => e = .returned (.tuple #[.int .i64 0, .bool false]) ∧ Below base w0 w' := by
  have hc := h.cell
  have hf := h.free
  have hrs : r.size ≤ 9223372036854775807 := by rw [size_of, hr] at hs; rw [size_of]; exact Nat.le_of_succ_le hs
  have H := Lib.hid (h.set r)
  have HR := Lib.hid hr
  have HD := Lib.hid hd
  clear h hr hd hs
  go_enter Tryd.func44, Tryd.ntmps44
  go_wp2_with (go_at_call 61; refine (cut_yes s r _ HR.out).mono ?_; rintro e w' ⟨rfl, rfl⟩)
  refine (take_dg_v base B w0 _ r ⟨#[]⟩ ⟨(r.data.toList.dropWhile dg).toArray⟩ hrs H.out (by rw [HD.out]) rfl).mono ?_
  rintro e w' ⟨rfl, hL⟩
  have HL := Lib.hid hL
  clear hL
  go_wp2
  go_ret2
  exact ⟨rfl, HL.out.below⟩

set_option maxHeartbeats 400000 in
theorem frac_long (base B : Nat) (w0 w : World) (s r d : ByteArray) (hs : s.size ≤ 9223372036854775807) (h : Left base B w0 w s) (hr : s.data.toList = 46 :: r.data.toList) (hd : d.data.toList = r.data.toList.takeWhile dg) (hn : 6 < d.size) :
    Calls Tryd.prog 44 #[.pointer (some ⟨B, 0, none⟩)] w fun e w' => e = .returned (.tuple #[.int .i64 0, .bool false]) ∧ Below base w0 w' := by
  have hc := h.cell
  have hf := h.free
  have hrs : r.size ≤ 9223372036854775807 := by rw [size_of, hr] at hs; rw [size_of]; exact Nat.le_of_succ_le hs
  have hne : d.toList.isEmpty = false := by
    rw [Lib.toList_data]; rw [size_of] at hn
    cases hl : d.data.toList with
    | nil => rw [hl] at hn; simp at hn
    | cons _ _ => rfl
  have hds : d.size ≤ 9223372036854775807 := by
    have := tw_le dg r.data.toList; rw [← hd, ← size_of, ← size_of] at this; omega
  have H := Lib.hid (h.set r)
  have HR := Lib.hid hr
  have HD := Lib.hid hd
  clear h hr hd hs
  go_enter Tryd.func44, Tryd.ntmps44
  go_wp2_with (go_at_call 61; refine (cut_yes s r _ HR.out).mono ?_; rintro e w' ⟨rfl, rfl⟩)
  refine (take_dg_v base B w0 _ r d ⟨(r.data.toList.dropWhile dg).toArray⟩ hrs H.out HD.out rfl).mono ?_
  rintro e w' ⟨rfl, hL⟩
  have HL := Lib.hid hL
  clear hL
  go_wp2
  go_ret2
  exact ⟨rfl, HL.out.below⟩

theorem zeros (n : Nat) : Lib.repeatL (⟨#[48]⟩ : ByteArray).data.toList n = List.replicate n 48 := by
  have : ∀ m, Lib.repeatL [48] m = List.replicate m 48 := by
    intro m; induction m with
    | zero => rfl
    | succ m ih => simp [Lib.repeatL, ih, List.replicate_succ]
  exact this n

theorem six_dec : ∀ (n : Nat) (l : List UInt8), l.length = n → (∀ c ∈ l, dg c = true) → dec l < 10 ^ n
  | 0, l, h, _ => by rw [List.length_eq_zero_iff.mp h]; decide
  | n + 1, l, h, hd => by
    have hne : l ≠ [] := by intro e; rw [e] at h; simp at h
    rw [← List.dropLast_concat_getLast hne, dec_snoc]
    have ih := six_dec n l.dropLast (by simp [h]) (fun c hc => hd c ((List.dropLast_sublist l).subset hc))
    have hl := hd _ (List.getLast_mem hne)
    have hb : 48 ≤ ((l.getLast hne).toNat : Int) ∧ ((l.getLast hne).toNat : Int) ≤ 57 := by simpa [dg] using hl
    rw [Nat.pow_succ]
    omega

set_option maxHeartbeats 400000 in
theorem frac_yes (base B : Nat) (w0 w : World) (s r d q z : ByteArray) (n : Nat) (hs : s.size ≤ 9223372036854775807) (h : Left base B w0 w s) (hr : s.data.toList = 46 :: r.data.toList) (hd : d.data.toList = r.data.toList.takeWhile dg) (hq : q.data.toList = r.data.toList.dropWhile dg) (hn : d.size ≤ 6) (hn0 : 1 ≤ d.size) (hz : z.data.toList = List.replicate (6 - d.size) 48) (hv : dec (d.data.toList ++ z.data.toList) = n) :
    Calls Tryd.prog 44 #[.pointer (some ⟨B, 0, none⟩)] w fun e w' => e = .returned (.tuple #[.int .i64 (n : Int), .bool true]) ∧ Left base B w0 w' q := by
  have hc := h.cell
  have hf := h.free
  have hrs : r.size ≤ 9223372036854775807 := by rw [size_of, hr] at hs; rw [size_of]; exact Nat.le_of_succ_le hs
  have hne : d.toList.isEmpty = false := by
    rw [Lib.toList_data]; rw [size_of] at hn0
    cases hl : d.data.toList with
    | nil => rw [hl] at hn0; simp at hn0
    | cons _ _ => rfl
  have hall : ∀ c ∈ (d ++ z).data.toList, dg c = true := by
    intro c hc
    have : (d ++ z).data.toList = d.data.toList ++ z.data.toList := by simp
    rw [this, List.mem_append, hd, hz] at hc
    rcases hc with hc | hc
    · exact List.all_takeWhile |> List.all_eq_true.mp |> fun f => f c hc
    · rw [List.eq_of_mem_replicate hc]; rfl
  have hsz : (d ++ z).size = 6 := by
    have hzs : z.size = 6 - d.size := by rw [size_of z, hz]; exact List.length_replicate
    rw [ByteArray.size_append, hzs]; omega
  have hcat : d.size + z.size ≤ 9223372036854775807 := by rw [ByteArray.size_append] at hsz; omega
  have hdz : dec (d ++ z).data.toList = n := by rw [← hv]; simp
  have hlt : n < 10 ^ 6 := by rw [← hdz]; exact six_dec 6 _ (by rw [← size_of]; exact hsz) hall
  have hcap : cap n = n := by unfold cap; omega
  have H := Lib.hid (h.set r)
  have HR := Lib.hid hr
  have HD := Lib.hid hd
  have HQ := Lib.hid hq
  have HZ := Lib.hid hz
  have HA := Lib.hid hall
  have HS := Lib.hid hsz
  have HV := Lib.hid (show cap (dec (d ++ z).data.toList) = n by rw [hdz, hcap])
  clear h hr hd hs hq hz hall hsz hdz hlt hcap hv
  have e6 : (6 : Int) - (d.size : Int) = ((6 - d.size : Nat) : Int) := by omega
  have E6 := Lib.hid e6
  clear e6
  go_enter Tryd.func44, Tryd.ntmps44
  go_wp2_with (go_at_call 61; refine (cut_yes s r _ HR.out).mono ?_; rintro e w' ⟨rfl, rfl⟩)
  refine (take_dg_v base B w0 _ r d q hrs H.out HD.out HQ.out).mono ?_
  rintro e w' ⟨rfl, hL⟩
  have HL := Lib.hid hL
  clear hL
  go_wp2_with fail
  rw [E6.out]
  refine (Tryd.strings_Repeat ⟨#[48]⟩ (6 - d.size) _ (by omega) (by show 1 * (6 - d.size) ≤ 140737488355328; omega)).mono ?_
  rw [zeros _, ← mk_of z _ HZ.out]
  rintro e w1 ⟨rfl, hB⟩
  have HB := Lib.hid hB
  clear hB
  go_wp2_with fail
  refine (number_any (d ++ z) _ (by rw [HS.out]; omega) HA.out).mono ?_
  rw [HV.out]
  rintro e w2 ⟨rfl, m, rfl⟩
  go_wp2
  go_ret2
  exact ⟨rfl, (HL.out.grow HB.out).drewN m⟩

end Go.Proofs.YtcllimfaoajapaaDoor.Ts
