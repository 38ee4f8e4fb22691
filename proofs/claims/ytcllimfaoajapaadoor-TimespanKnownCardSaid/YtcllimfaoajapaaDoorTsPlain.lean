/-
  Spans of time as texts: what the words of the chapter mean over lists of bytes. Nothing of the program stands here.
-/
import Derived.Lib.Strings
import Derived.Lib.IndexBytes
import Derived.Lib.SlTrimSet
import Derived.Lib.ItoaNum
import Derived.Lib.Join
import Derived.Lib.Repeat
namespace Go.Proofs.YtcllimfaoajapaaDoor.Ts

def dg (c : UInt8) : Bool := decide (48 ≤ (c.toNat : Int)) && decide ((c.toNat : Int) ≤ 57)
def lt (c : UInt8) : Bool := (decide (97 ≤ (c.toNat : Int)) && decide ((c.toNat : Int) ≤ 122)) || (decide (65 ≤ (c.toNat : Int)) && decide ((c.toNat : Int) ≤ 90))
def bl (c : UInt8) : Bool := ((c.toNat : Int) == 32) || ((c.toNat : Int) == 9)

/-- What digits tell. -/
def dec (l : List UInt8) : Nat := l.foldl (fun n c => n * 10 + (c.toNat - 48)) 0
theorem dec_nil : dec [] = 0 := rfl
theorem dec_snoc (l : List UInt8) (c : UInt8) : dec (l ++ [c]) = dec l * 10 + (c.toNat - 48) := by simp [dec]

/-- A unit's microseconds; 0: there is no such unit. -/
def unitOf (l : List UInt8) : Nat :=
  if l = [117, 115] ∨ l = [117, 115, 101, 99] then 1
  else if l = [109, 115] ∨ l = [109, 115, 101, 99] then 1000
  else if l = [] ∨ l = [115] ∨ l = [115, 101, 99] ∨ l = [115, 101, 99, 111, 110, 100] ∨ l = [115, 101, 99, 111, 110, 100, 115] then 1000000
  else if l = [109] ∨ l = [109, 105, 110] ∨ l = [109, 105, 110, 117, 116, 101] ∨ l = [109, 105, 110, 117, 116, 101, 115] then 60000000
  else if l = [104] ∨ l = [104, 114] ∨ l = [104, 111, 117, 114] ∨ l = [104, 111, 117, 114, 115] then 3600000000
  else if l = [100] ∨ l = [100, 97, 121] ∨ l = [100, 97, 121, 115] then 86400000000
  else if l = [119] ∨ l = [119, 101, 101, 107] ∨ l = [119, 101, 101, 107, 115] then 604800000000
  else if l = [77] ∨ l = [109, 111, 110, 116, 104] ∨ l = [109, 111, 110, 116, 104, 115] then 2629800000000
  else if l = [121] ∨ l = [121, 101, 97, 114] ∨ l = [121, 101, 97, 114, 115] then 31557600000000
  else 0
theorem unitOf_le (l : List UInt8) : unitOf l ≤ 31557600000000 := by unfold unitOf; repeat' split <;> try omega

/-- So many millionths of a unit, rounded down. -/
def share (f u : Nat) : Nat := f * (u / 1000000) + f * (u % 1000000) / 1000000

/-- The digits behind a point, in millionths, and what is left. -/
def fracOf (l : List UInt8) : Option (Nat × List UInt8) :=
  if l.head? = some 46 then
    if l.tail.takeWhile dg = [] ∨ 6 < (l.tail.takeWhile dg).length then none
    else some (dec (l.tail.takeWhile dg ++ List.replicate (6 - (l.tail.takeWhile dg).length) 48), l.tail.dropWhile dg)
  else some (0, l)

/-- A part of a span, and what is left. -/
def partOf (l : List UInt8) : Option (Nat × List UInt8) :=
  if l.takeWhile dg = [] then none
  else match fracOf (l.dropWhile dg) with
    | none => none
    | some (f, r) =>
      if unitOf ((r.dropWhile bl).takeWhile lt) = 0 then none
      else some (dec (l.takeWhile dg) * unitOf ((r.dropWhile bl).takeWhile lt) + share f (unitOf ((r.dropWhile bl).takeWhile lt)), (r.dropWhile bl).dropWhile lt)

/-- All parts, added. -/
def spanF : Nat → List UInt8 → Option Nat
  | 0, l => if l = [] then some 0 else none
  | k + 1, l => if l = [] then some 0 else match partOf l with
    | none => none
    | some (v, r) => (spanF k (r.dropWhile bl)).map (v + ·)

def trim (l : List UInt8) : List UInt8 := Lib.trimS l [32, 9]
def never : List UInt8 := [105, 110, 102, 105, 110, 105, 116, 121]
def spanOf (l : List UInt8) : Option Nat := if l = [] then none else spanF l.length l
/-- What a text tells: its number, and which error. -/
def parsed (l : List UInt8) : Int × Int :=
  if trim l = never then (9223372036854775807, 0)
  else match spanOf (trim l) with
    | none => (0, 20)
    | some n => if 9223372036854775807 ≤ n then (0, 6) else ((n : Int), 0)

/-- A number, at most Infinity. -/
def cap (n : Nat) : Nat := min n 9223372036854775807
theorem cap_le (n : Nat) : cap n ≤ 9223372036854775807 := Nat.min_le_right _ _
theorem cap_add (a b : Nat) : cap (cap a + b) = cap (a + b) := by unfold cap; omega
theorem cap_add2 (a b : Nat) : cap (cap a + cap b) = cap (a + b) := by unfold cap; omega
theorem cap_mul (a b : Nat) (hb : 0 < b) : cap (cap a * b) = cap (a * b) := by
  unfold cap
  by_cases h : a ≤ 9223372036854775807
  · rw [Nat.min_eq_left h]
  · rw [Nat.min_eq_right (show 9223372036854775807 ≤ a by omega)]
    have h1 : 9223372036854775807 * 1 ≤ 9223372036854775807 * b := Nat.mul_le_mul_left _ hb
    have h2 : 9223372036854775807 * 1 ≤ a * b := Nat.mul_le_mul (by omega) hb
    omega

theorem mk_data (l : List UInt8) : (ByteArray.mk l.toArray).data.toList = l := rfl
theorem mk_of (s : ByteArray) (l : List UInt8) (h : s.data.toList = l) : s = ⟨l.toArray⟩ := by
  subst h; cases s; rfl
theorem size_of (s : ByteArray) : s.size = s.data.toList.length := rfl

theorem tw_le {α : Type} (p : α → Bool) (l : List α) : (l.takeWhile p).length ≤ l.length := (List.takeWhile_sublist p).length_le
theorem tw_yes {α : Type} (p : α → Bool) : ∀ (l : List α) (k : Nat) (h : k < l.length), k < (l.takeWhile p).length → p l[k] = true
  | [], _, h, _ => by simp at h
  | a :: l, k, h, hk => by
    rw [List.takeWhile_cons] at hk
    split at hk
    · cases k with
      | zero => simpa using ‹p a = true›
      | succ k => simp at hk; simpa using tw_yes p l k (by simpa using h) hk
    · simp at hk
theorem tw_no {α : Type} (p : α → Bool) : ∀ (l : List α) (h : (l.takeWhile p).length < l.length), p l[(l.takeWhile p).length] = false
  | [], h => by simp at h
  | a :: l, h => by
    by_cases ha : p a = true
    · simp only [List.takeWhile_cons, ha, if_true, List.length_cons] at h ⊢
      simpa using tw_no p l (by simpa using h)
    · simp [ha]
theorem take_tw {α : Type} (p : α → Bool) : ∀ l : List α, l.take (l.takeWhile p).length = l.takeWhile p
  | [] => rfl
  | a :: l => by
    by_cases ha : p a = true
    · simp [ha, take_tw p l]
    · simp [ha]
theorem drop_tw {α : Type} (p : α → Bool) : ∀ l : List α, l.drop (l.takeWhile p).length = l.dropWhile p
  | [] => rfl
  | a :: l => by
    by_cases ha : p a = true
    · simp [ha, drop_tw p l]
    · simp [ha]
theorem at_byte (s : ByteArray) (k : Nat) (h : k < s.size) : s[k] = s.data.toList[k]'(by rw [← size_of]; exact h) := by
  simp [ByteArray.getElem_eq_getElem_data]
theorem ext_take (s : ByteArray) (p : UInt8 → Bool) : s.extract 0 (s.data.toList.takeWhile p).length = ⟨(s.data.toList.takeWhile p).toArray⟩ :=
  mk_of _ _ (by rw [Lib.extract_data]; simp [take_tw])
theorem ext_drop (s : ByteArray) (p : UInt8 → Bool) : s.extract (s.data.toList.takeWhile p).length s.size = ⟨(s.data.toList.dropWhile p).toArray⟩ :=
  mk_of _ _ (by rw [Lib.extract_to_end, drop_tw])
end Go.Proofs.YtcllimfaoajapaaDoor.Ts
