/-
  Bytes as a number: the plain facts, and what sip.number and clepsydraref04.number answer.
-/
import Derived.Test.YtgdpgpmkokjdjaaDoorChecked
import Derived.Test.YtgdpgpmkokjdjaaDoorSpRot
import Derived.LoopTactic
import Derived.Outline
import Derived.Lib.Hide
namespace Go.Proofs.YtgdpgpmkokjdjaaDoor.Sp
open Go.RowKit

def Bytes (bs : List Int) : Prop := ∀ z ∈ bs, 0 ≤ z ∧ z ≤ 255
theorem Bytes.get {bs : List Int} (h : Bytes bs) (k : Nat) : 0 ≤ bs.getD k 0 ∧ bs.getD k 0 ≤ 255 := by
  by_cases hk : k < bs.length
  · have : bs.getD k 0 = bs[k] := by simp [List.getD, List.getElem?_eq_getElem hk]
    rw [this]; exact h _ (List.getElem_mem hk)
  · have : bs.getD k 0 = 0 := by simp [List.getD, List.getElem?_eq_none (Nat.le_of_not_lt hk)]
    omega
theorem Bytes.take {bs : List Int} (h : Bytes bs) (k : Nat) : Bytes (bs.take k) := fun z hz => h z (List.mem_of_mem_take hz)
theorem Bytes.drop {bs : List Int} (h : Bytes bs) (k : Nat) : Bytes (bs.drop k) := fun z hz => h z (List.mem_of_mem_drop hz)
theorem Bytes.app {bs cs : List Int} (h : Bytes bs) (h' : Bytes cs) : Bytes (bs ++ cs) := fun z hz => by
  rcases List.mem_append.1 hz with a | a
  · exact h z a
  · exact h' z a
theorem num_lt : ∀ {l : List Int}, Bytes l → 0 ≤ num l ∧ num l < (256 : Int) ^ l.length
  | [], _ => ⟨by simp [num], by simp [num]⟩
  | b :: l, h => by
    have ⟨h0, h1⟩ := h b (by simp)
    have ⟨i0, i1⟩ := num_lt (l := l) (fun z hz => h z (List.mem_cons_of_mem _ hz))
    simp only [num, List.length_cons, Int.pow_succ]
    constructor <;> omega
theorem num_app (l : List Int) (z : Int) : num (l ++ [z]) = num l + z * 256 ^ l.length := by
  induction l with
  | nil => simp [num]
  | cons b l ih =>
    simp only [List.cons_append, num, ih, List.length_cons, Int.pow_succ]
    rw [show (256 : Int) * (num l + z * 256 ^ l.length) = 256 * num l + z * (256 ^ l.length * 256) by rw [Int.mul_add, ← Int.mul_assoc, Int.mul_comm 256 z, Int.mul_assoc, Int.mul_comm 256 (256 ^ l.length)]]
    omega
theorem num_take (bs : List Int) (k : Nat) (hk : k < bs.length) : num (bs.take (k + 1)) = num (bs.take k) + bs.getD k 0 * 256 ^ k := by
  rw [List.take_succ_eq_append_getElem hk, num_app, List.length_take, Nat.min_eq_left (by omega)]
  simp [List.getD, List.getElem?_eq_getElem hk]
theorem num_drop (bs : List Int) (k : Nat) (hk : k < bs.length) : num (bs.drop k) = bs.getD k 0 + 256 * num (bs.drop (k + 1)) := by
  rw [List.drop_eq_getElem_cons hk]
  simp [num, List.getD, List.getElem?_eq_getElem hk]
theorem ofInt_u64 (a : Nat) (ha : a < 18446744073709551616) : (BitVec.ofInt 64 (a : Int)).toNat = a := by
  rw [BitVec.ofInt_natCast, BitVec.toNat_ofNat]; exact Nat.mod_eq_of_lt (by omega)
theorem or_add (k x y : Nat) (hk : k < 8) (hx : x < 256 ^ k) (hy : y ≤ 255) :
    bits .or .u64 (x : Int) (IntKind.u64.wrap ((y : Int) * 2 ^ (8 * k))) = (x : Int) + y * 256 ^ k := by
  have e8 : (256 : Nat) ^ k = 2 ^ (8 * k) := by rw [Nat.pow_mul]
  have hp : 2 ^ (8 * k) ≤ 2 ^ 56 := Nat.pow_le_pow_right (by omega) (by omega)
  have hyp : y * 2 ^ (8 * k) ≤ 255 * 2 ^ 56 := Nat.mul_le_mul hy hp
  have hs : x + y * 2 ^ (8 * k) < 18446744073709551616 := by omega
  have e1 : IntKind.u64.wrap ((y : Int) * 2 ^ (8 * k)) = ((y * 2 ^ (8 * k) : Nat) : Int) := by
    rw [IntKind.wrap_u64]
    have : ((y * 2 ^ (8 * k) : Nat) : Int) = (y : Int) * 2 ^ (8 * k) := by simp
    rw [← this]; omega
  rw [e1]
  show IntKind.u64.wrap ((BitVec.ofInt 64 (x : Int) ||| BitVec.ofInt 64 ((y * 2 ^ (8 * k) : Nat) : Int)).toNat : Int) = _
  rw [BitVec.toNat_or, ofInt_u64 x (by omega), ofInt_u64 _ (by omega)]
  have e2 : x ||| y * 2 ^ (8 * k) = x + y * 2 ^ (8 * k) := by
    have := Nat.two_pow_add_eq_or_of_lt (i := 8 * k) (b := x) (by omega) y
    rw [Nat.or_comm, Nat.mul_comm y, ← this]; omega
  rw [e2, IntKind.wrap_u64]
  have e3 : ((x + y * 2 ^ (8 * k) : Nat) : Int) = (x : Int) + y * 256 ^ k := by
    have : ((256 : Int)) ^ k = ((2 ^ (8 * k) : Nat) : Int) := by rw [← e8]; simp
    rw [this]; simp
  rw [← e3]; omega
theorem num_or {bs : List Int} (h : Bytes bs) (k : Nat) (hk : k < bs.length) (h8 : bs.length ≤ 8) :
    bits .or .u64 (num (bs.take k)) (IntKind.u64.wrap (bs.getD k 0 * 2 ^ (8 * k))) = num (bs.take (k + 1)) := by
  obtain ⟨h0, h1⟩ := num_lt (h.take k)
  rw [List.length_take, Nat.min_eq_left (by omega)] at h1
  obtain ⟨x, hx⟩ : ∃ x : Nat, num (bs.take k) = x := ⟨_, (Int.toNat_of_nonneg h0).symm⟩
  obtain ⟨g0, g1⟩ := h.get k
  obtain ⟨y, hy⟩ : ∃ y : Nat, bs.getD k 0 = y := ⟨_, (Int.toNat_of_nonneg g0).symm⟩
  rw [num_take bs k hk, hx, hy]
  rw [hx] at h1; rw [hy] at g1
  exact or_add k x y (by omega) (by have : ((256 ^ k : Nat) : Int) = (256 : Int) ^ k := by simp
                                    omega) (by omega)
theorem Q.num8 {bs : List Int} (h : Bytes bs) (h8 : bs.length ≤ 7) : 0 ≤ num bs ∧ num bs ≤ 72057594037927935 := by
  obtain ⟨h0, h1⟩ := num_lt h
  have e : ((256 ^ bs.length : Nat) : Int) = (256 : Int) ^ bs.length := by simp
  have : 256 ^ bs.length ≤ 256 ^ 7 := Nat.pow_le_pow_right (by omega) h8
  omega

set_option maxHeartbeats 1000000 in
theorem number_any (A : Option Addr) (n c B : Nat) (bs : List Int) (w : World) (hr : Row w B A n bs) (hb : Bytes bs) (hn : n ≤ 8) :
    Calls Tryd.prog 19 #[.slice A n c] w fun e w' => e = .returned (.int .u64 (num bs)) ∧ w = w' := by
  have hl := hr.len
  go_enter Tryd.func19, Tryd.ntmps19
  go_wp2
  go_loop [3, 8] (fun v i => ∃ k : Nat, k ≤ n ∧ i = .int .i64 k ∧ v = .int .u64 (num (bs.take k))) (fun _ i => n - (intOf i).toNat)
  case atStart => exact ⟨0, by omega, rfl, by simp [num]⟩
  case round =>
    obtain ⟨k, hk, rfl, rfl⟩ := hrel
    by_cases hlt : k < n
    · obtain ⟨ad, rfl, _, hc⟩ := hr.get hlt
      obtain ⟨hg0, hg1⟩ := hb.get k
      have hs := num_or hb k (by omega) (by omega)
      obtain ⟨z, hz⟩ : ∃ z, bs.getD k 0 = z := ⟨_, rfl⟩
      rw [hz] at hc hg0 hg1 hs
      have HS := Lib.hid hs; clear hz hs
      have HL := Lib.hid hl; clear hl
      go_wp2
      go_round
      case rel => exact ⟨k + 1, by omega, by go_num, by rw [HS.out]⟩
      case measure => simp [intOf]; omega
    · go_wp2
      go_ret
      exact ⟨ret_int (by rw [List.take_of_length_le (by omega)]), rfl⟩
set_option maxHeartbeats 1000000 in
theorem rnumber_any (A : Option Addr) (n c B : Nat) (bs : List Int) (w : World) (hr : Row w B A n bs) (hb : Bytes bs) (hn : n = 8) :
    Calls Tryd.prog 16 #[.slice A n c] w fun e w' => e = .returned (.int .u64 (num bs)) ∧ w = w' := by
  have hl := hr.len
  have hn1 : 8 ≤ n := by omega
  have hn2 : n ≤ 8 := by omega
  have HN := Lib.hid hn; clear hn
  go_enter Tryd.func16, Tryd.ntmps16
  go_wp2
  go_loop [3, 4] (fun v i => ∃ k : Nat, k ≤ 8 ∧ i = .int .i64 ((k : Int) - 1) ∧ v = .int .u64 (num (bs.drop k))) (fun _ i => (intOf i + 1).toNat)
  case atStart => exact ⟨8, by omega, rfl, by rw [List.drop_of_length_le (by omega)]; rfl⟩
  case round =>
    obtain ⟨k, hk, rfl, rfl⟩ := hrel
    by_cases hlt : 1 ≤ k
    · obtain ⟨k, rfl⟩ : ∃ j, k = j + 1 := ⟨k - 1, by omega⟩
      obtain ⟨ad, rfl, _, hc⟩ := hr.get (k := k) (by omega)
      obtain ⟨hg0, hg1⟩ := hb.get k
      have hs := num_drop bs k (by omega)
      obtain ⟨hq0, hq1⟩ := Q.num8 (hb.drop (k + 1)) (by rw [List.length_drop]; omega)
      obtain ⟨z, hz⟩ : ∃ z, bs.getD k 0 = z := ⟨_, rfl⟩
      obtain ⟨m, hm⟩ : ∃ m, num (bs.drop (k + 1)) = m := ⟨_, rfl⟩
      rw [hm] at hs hq0 hq1
      rw [hz] at hc hg0 hg1 hs
      rw [hm]
      have HS := Lib.hid hs; clear hz hs hm
      have HL := Lib.hid hl; clear hl
      have e1 : (((k + 1 : Nat) : Int) - 1) = (k : Int) := by omega
      rw [e1]
      clear e1
      go_wp2
      exact ⟨⟨k, by omega, rfl, by rw [HS.out, show m * 256 + z = z + 256 * m by omega]⟩, by simp [intOf]⟩
    · obtain rfl : k = 0 := by omega
      go_wp2
      go_ret
      exact ⟨rfl, rfl⟩
end Go.Proofs.YtgdpgpmkokjdjaaDoor.Sp
