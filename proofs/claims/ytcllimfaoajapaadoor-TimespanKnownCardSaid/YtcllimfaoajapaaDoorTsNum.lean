/-
  Numbers of package timespan: products and sums that stop at Infinity, what digits tell, and a fraction of a unit.
-/
import Derived.Test.YtcllimfaoajapaaDoorTsKinds
import Derived.Test.YtcllimfaoajapaaDoorUsecFew
import Derived.LoopTactic
import Derived.IntWalk
namespace Go.Proofs.YtcllimfaoajapaaDoor.Ts
open Go.RowKit

theorem quiet_mine {P : Program} {f : FuncId} {args : Array Value} {w : World} {n : Nat} {v : Value}
    (h : Calls P f args (w.drewN n) fun e w' => e = .returned v ∧ w.drewN n = w') : Calls P f args (w.drewN n) fun e w'' => e = .returned v ∧ ∃ m, w'' = w.drewN m :=
  h.mono fun _ _ ⟨he, hm⟩ => ⟨he, n, hm.symm⟩

theorem later_cap (a b : Nat) (w : World) (ha : a ≤ 9223372036854775807) (hb : b ≤ 9223372036854775807) :
    Calls Tryd.prog 30 #[.int .i64 (a : Int), .int .i64 (b : Int)] w fun e w' => e = .returned (.int .i64 (cap (a + b) : Nat)) ∧ w = w' := by
  have H := Us.later_any (a : Int) (b : Int) w (by omega) (by omega)
  have e : Us.laterV (a : Int) (b : Int) = ((cap (a + b) : Nat) : Int) := by
    unfold Us.laterV Us.fits cap
    split
    · omega
    · by_cases h : (a : Int) + max (b : Int) 0 ≤ 9223372036854775807
      · rw [if_pos (decide_eq_true (by omega))]; omega
      · rw [if_neg (by simp; omega)]; omega
  rw [e] at H
  exact H

theorem mul_cap (a b : Nat) (w : World) (ha : a ≤ 9223372036854775807) (hb : b ≤ 9223372036854775807) (h : a * b ≤ 9223372036854775807) :
    Calls Tryd.prog 63 #[.int .i64 (a : Int), .int .i64 (b : Int)] w fun e w' => e = .returned (.tuple #[.int .i64 ((a * b : Nat) : Int), .bool true]) ∧ w = w' := by
  have H := Us.mul_any (a : Int) (b : Int) w (by omega) (by omega)
  have hi : ((a : Int) * (b : Int)) = ((a * b : Nat) : Int) := by simp
  have hf : Us.fits ((a : Int) * (b : Int)) = true := Us.fits_yes (by rw [hi]; omega)
  have he : Us.fit ((a : Int) * (b : Int)) = ((a * b : Nat) : Int) := by unfold Us.fit; rw [hf, hi]; rfl
  rw [hf, he] at H
  exact H
theorem mul_great (a b : Nat) (w : World) (ha : a ≤ 9223372036854775807) (hb : b ≤ 9223372036854775807) (h : 9223372036854775807 < a * b) :
    Calls Tryd.prog 63 #[.int .i64 (a : Int), .int .i64 (b : Int)] w fun e w' => e = .returned (.tuple #[.int .i64 0, .bool false]) ∧ w = w' := by
  have H := Us.mul_any (a : Int) (b : Int) w (by omega) (by omega)
  have hi : ((a : Int) * (b : Int)) = ((a * b : Nat) : Int) := by simp
  have hf : Us.fits ((a : Int) * (b : Int)) = false := Us.fits_no (by rw [hi]; omega)
  have he : Us.fit ((a : Int) * (b : Int)) = 0 := by unfold Us.fit; rw [hf]; rfl
  rw [hf, he] at H
  exact H

set_option maxHeartbeats 400000 in
theorem times_cap (a b : Nat) (w : World) (ha : a ≤ 9223372036854775807) (hb : b ≤ 9223372036854775807) :
    Calls Tryd.prog 47 #[.int .i64 (a : Int), .int .i64 (b : Int)] w fun e w' => e = .returned (.int .i64 (cap (a * b) : Nat)) ∧ w = w' := by
  by_cases h : a * b ≤ 9223372036854775807
  · have H := Lib.hid h
    rw [show cap (a * b) = a * b by unfold cap; omega]
    generalize hp : a * b = p
    have P := Lib.hid hp
    clear h hp
    go_enter Tryd.func47, Tryd.ntmps47
    go_wp2_with (go_at_call 63; refine (mul_cap a b _ ha hb H.out).mono ?_; rintro e w' ⟨rfl, rfl⟩)
    go_ret
    exact ⟨Us.ret_int (by rw [← P.out]; simp), rfl⟩
  · have H := Lib.hid h
    rw [show cap (a * b) = 9223372036854775807 by unfold cap; omega]
    clear h
    go_enter Tryd.func47, Tryd.ntmps47
    go_wp2_with (go_at_call 63; refine (mul_great a b _ ha hb (by have := H.out; omega)).mono ?_; rintro e w' ⟨rfl, rfl⟩)
    go_ret
    exact ⟨rfl, rfl⟩

theorem share_bd (f u : Nat) (hf : f ≤ 999999) (hu : u ≤ 31557600000000) : f * (u / 1000000) ≤ 31557600000000 ∧ f * (u % 1000000) ≤ 1000000000000 ∧ share f u ≤ 31557601000000 := by
  have h1 : f * (u / 1000000) ≤ 999999 * 31557600 := Nat.mul_le_mul hf (by omega)
  have h2 : f * (u % 1000000) ≤ 999999 * 999999 := Nat.mul_le_mul hf (by omega)
  refine ⟨by omega, by omega, ?_⟩
  unfold share
  have h3 : f * (u % 1000000) / 1000000 ≤ 999999 := by omega
  omega
set_option maxHeartbeats 400000 in
theorem share_any (f u : Nat) (w : World) (hf : f ≤ 999999) (hu : u ≤ 31557600000000) :
    Calls Tryd.prog 49 #[.int .i64 (f : Int), .int .i64 (u : Int)] w fun e w' => e = .returned (.int .i64 (share f u : Nat)) ∧ w = w' := by
  have hb := share_bd f u hf hu
  have h1 : 0 ≤ (f : Int) * ((u : Int) / 1000000) ∧ (f : Int) * ((u : Int) / 1000000) ≤ 31557600000000 := by
    have e : (f : Int) * ((u : Int) / 1000000) = ((f * (u / 1000000) : Nat) : Int) := by simp
    rw [e]; omega
  have h2 : 0 ≤ (f : Int) * ((u : Int) % 1000000) ∧ (f : Int) * ((u : Int) % 1000000) ≤ 1000000000000 := by
    have e : (f : Int) * ((u : Int) % 1000000) = ((f * (u % 1000000) : Nat) : Int) := by simp
    rw [e]; omega
  obtain ⟨h11, h12⟩ := h1
  obtain ⟨h21, h22⟩ := h2
  clear hb
  go_enter Tryd.func49, Tryd.ntmps49
  go_wp2
  go_ret
  exact ⟨Us.ret_int (by unfold share; simp), rfl⟩

theorem dec_take (s : ByteArray) (k : Nat) (h : k < s.size) : dec (s.data.toList.take (k + 1)) = dec (s.data.toList.take k) * 10 + (s[k].toNat - 48) := by
  rw [List.take_succ_eq_append_getElem (by rw [← size_of]; exact h), dec_snoc, at_byte s k h]
theorem cap_step (n d : Nat) : cap (cap (cap n * 10) + d) = cap (n * 10 + d) := by
  rw [cap_add, ← cap_add, cap_mul n 10 (by omega), cap_add]

set_option maxHeartbeats 1000000 in
theorem number_any (s : ByteArray) (w : World) (hs : s.size ≤ 9223372036854775807) (hd : ∀ c ∈ s.data.toList, dg c = true) :
    Calls Tryd.prog 48 #[.string s] w fun e w' => e = .returned (.int .i64 (cap (dec s.data.toList) : Nat)) ∧ ∃ m, w' = w.drewN m := by
  have HD := Lib.hid hd
  clear hd
  go_enter Tryd.func48, Tryd.ntmps48
  go_wp2
  go_loopw [3, 7] (fun n i wr => ∃ k m : Nat, k ≤ s.size ∧ i = .int .i64 k ∧ n = .int .i64 (cap (dec (s.data.toList.take k)) : Nat) ∧ wr = w.drewN m) (fun _ i _ => s.size - (intOf i).toNat)
  case atStart => exact ⟨0, 0, Nat.zero_le _, rfl, rfl, rfl⟩
  case round =>
    obtain ⟨k, m, hk, rfl, rfl, hw⟩ := hrel
    have HW := Lib.hid hw
    clear hw
    by_cases hlt : k < s.size
    · have hdk : dg s[k] = true := HD.out _ (by rw [at_byte s k hlt]; exact List.getElem_mem _)
      have hb : 48 ≤ (s[k].toNat : Int) ∧ (s[k].toNat : Int) ≤ 57 := by simpa [dg] using hdk
      have DT := Lib.hid (dec_take s k hlt)
      clear hdk
      have hcap := cap_le (dec (s.data.toList.take k))
      generalize hc : cap (dec (s.data.toList.take k)) = c at hcap ⊢
      have C := Lib.hid hc
      clear hc
      have e1 : IntKind.u8.wrap ((s[k].toNat : Int) - 48) = ((s[k].toNat - 48 : Nat) : Int) := by
        simp only [IntKind.wrap, IntKind.bits, IntKind.signed]; simp; omega
      have hd9 : s[k].toNat - 48 ≤ 9 := by omega
      generalize hdd : s[k].toNat - 48 = d at hd9 e1 DT
      clear hdd
      have hcl : cap (c * 10) ≤ 9223372036854775807 := cap_le _
      have hk0 : 0 ≤ (k : Int) := by omega
      have hki : (k : Int) < (s.size : Int) := by omega
      have e2 : IntKind.i64.wrap (d : Int) = (d : Int) := IntWalk.i64_in _ (by omega)
      go_wp2
      go_quiet (first | (go_at_call 47; exact quiet_mine (times_cap c 10 _ hcap (by omega))) | (go_at_call 30; exact quiet_mine (later_cap (cap (c * 10)) d _ hcl (by omega))))
      go_wp2
      go_roundw
      case rel => exact ⟨k + 1, _, by omega, by go_num, by rw [DT.out, ← C.out, cap_step], by rw [HW.out, World.drewN_drewN]⟩
      case measure => simp [intOf]; omega
    · go_wp2
      go_ret
      exact ⟨Us.ret_int (by rw [List.take_of_length_le (by rw [← size_of]; omega)]), m, HW.out⟩
end Go.Proofs.YtcllimfaoajapaaDoor.Ts
