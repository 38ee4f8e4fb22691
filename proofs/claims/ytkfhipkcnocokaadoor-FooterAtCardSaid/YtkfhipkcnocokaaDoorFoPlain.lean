/-
  Layer 7 (footer): what the program's reader does, over lists of bytes. Nothing of the program stands here.
-/
import Derived.ProofKit
import Derived.Lib.AtoiAll
import Derived.Lib.DecodeN
import Derived.Shelf.GgClosure.StringsTrimFunc
namespace Go.Proofs.YtkfhipkcnocokaaDoor.Fo

/-- A letter; a digit; a byte of a name between < and >. -/
def ltr (r : Nat) : Bool := decide (65 ≤ r ∧ r ≤ 90) || decide (97 ≤ r ∧ r ≤ 122)
def dgt (r : Nat) : Bool := decide (48 ≤ r ∧ r ≤ 57)
def mrk (r : Nat) : Bool := ltr r || (dgt r || (decide (r = 43) || decide (r = 45)))
theorem ltr_low {r : Nat} (h : ltr r = true) : r < 128 := by unfold ltr at h; simp at h; omega
theorem dgt_low {r : Nat} (h : dgt r = true) : r < 128 := by unfold dgt at h; simp at h; omega
theorem mrk_low {r : Nat} (h : mrk r = true) : r < 128 := by
  unfold mrk at h
  rcases Bool.or_eq_true _ _ ▸ h with h | h
  · exact ltr_low h
  · rcases Bool.or_eq_true _ _ ▸ h with h | h
    · exact dgt_low h
    · simp at h; omega
/-- Bytes as a string. -/
abbrev bs (l : List UInt8) : ByteArray := ⟨l.toArray⟩
theorem bs_list (l : List UInt8) : (bs l).data.toList = l := by simp
theorem bs_of (s : ByteArray) : bs s.data.toList = s := by unfold bs; rw [Array.toArray_toList]
theorem bs_size (l : List UInt8) : (bs l).size = l.length := rfl
theorem bs_get (l : List UInt8) (i : Nat) : (bs l).get! i = l.getD i 0 := by
  show (l.toArray)[i]! = _
  simp [List.getD_eq_getElem?_getD]
  rfl
theorem bs_inj {a b : List UInt8} (h : bs a = bs b) : a = b := by have := congrArg (fun s => s.data.toList) h; simpa using this
theorem decode_low (n b0 b1 b2 b3 : Nat) (h : b0 < 128) : Lib.decodeN n b0 b1 b2 b3 = (b0, 1) := by simp [Lib.decodeN, h]
theorem decode_high (n b0 b1 b2 b3 : Nat) (h : ¬ b0 < 128) : 128 ≤ (Lib.decodeN n b0 b1 b2 b3).1 := by
  unfold Lib.decodeN
  rw [if_neg h]
  repeat' split
  all_goals (first | (simp only; omega) | simp)
/-- The first byte of which a rule of ASCII runes does not hold. -/
theorem idx_from (p : Nat → Bool) (hp : ∀ r, p r = true → r < 128) (l : List UInt8) : ∀ (f pos : Nat), l.length ≤ pos + f → Lib.idxFuncFrom p false (bs l) f pos = if (l.drop pos).all (fun b => p b.toNat) then -1 else ((pos + ((l.drop pos).takeWhile (fun b => p b.toNat)).length : Nat) : Int)
  | 0, pos, h => by
    have : l.drop pos = [] := List.drop_eq_nil_of_le (by omega)
    rw [this]; rfl
  | f + 1, pos, h => by
    unfold Lib.idxFuncFrom
    rw [bs_size]
    by_cases hp1 : pos < l.length
    · rw [if_pos hp1, Lib.decode_at]
      rw [List.drop_eq_getElem_cons hp1, List.all_cons, List.takeWhile_cons]
      have hb : (bs l).get! pos = l[pos] := by rw [bs_get, List.getD_eq_getElem?_getD, List.getElem?_eq_getElem hp1]; rfl
      rw [hb]
      obtain ⟨b, hbb⟩ : ∃ b, l[pos] = b := ⟨_, rfl⟩
      rw [hbb]
      by_cases hl : b.toNat < 128
      · rw [decode_low _ _ _ _ _ hl]
        cases hpb : p b.toNat with
        | false => simp
        | true =>
          have ih := idx_from p hp l f (pos + 1) (by omega)
          simp only [Bool.true_eq_false, if_false, Bool.true_and, if_true]
          rw [ih, List.length_cons]
          by_cases ha : ((l.drop (pos + 1)).all fun b => p b.toNat) = true
          · rw [if_pos ha, if_pos ha]
          · rw [if_neg ha, if_neg ha]; congr 1; omega
      · have hh := decode_high ((bs l).size - pos) b.toNat ((bs l).get! (pos + 1)).toNat ((bs l).get! (pos + 2)).toNat ((bs l).get! (pos + 3)).toNat hl
        have h1 : p (Lib.decodeN ((bs l).size - pos) b.toNat ((bs l).get! (pos + 1)).toNat ((bs l).get! (pos + 2)).toNat ((bs l).get! (pos + 3)).toNat).1 = false := by
          cases h2 : p (Lib.decodeN ((bs l).size - pos) b.toNat ((bs l).get! (pos + 1)).toNat ((bs l).get! (pos + 2)).toNat ((bs l).get! (pos + 3)).toNat).1 with
          | false => rfl
          | true => have := hp _ h2; omega
        have h3 : p b.toNat = false := by
          cases h2 : p b.toNat with
          | false => rfl
          | true => exact absurd (hp _ h2) hl
        rw [h1, h3]
        simp
    · rw [if_neg hp1]
      have : l.drop pos = [] := List.drop_eq_nil_of_le (by omega)
      rw [this]; rfl
theorem drop_takeWhile {α : Type} (p : α → Bool) : ∀ l : List α, l.drop (l.takeWhile p).length = l.dropWhile p
  | [] => rfl
  | a :: l => by
    rw [List.takeWhile_cons, List.dropWhile_cons]
    cases p a with
    | false => rfl
    | true => exact drop_takeWhile p l
theorem take_takeWhile {α : Type} (p : α → Bool) : ∀ l : List α, l.take (l.takeWhile p).length = l.takeWhile p
  | [] => rfl
  | a :: l => by
    rw [List.takeWhile_cons]
    cases p a with
    | false => rfl
    | true => exact congrArg (a :: ·) (take_takeWhile p l)
theorem all_dropWhile {α : Type} (p : α → Bool) : ∀ l : List α, l.all p = true → l.dropWhile p = []
  | [], _ => rfl
  | a :: l, h => by
    rw [List.all_cons, Bool.and_eq_true] at h
    rw [List.dropWhile_cons, if_pos h.1]
    exact all_dropWhile p l h.2
theorem bs_extract (l : List UInt8) (i j : Nat) : (bs l).extract i j = bs ((l.drop i).take (j - i)) := by
  have h : ((bs l).extract i j).data.toList = (l.drop i).take (j - i) := by simp [ByteArray.data_extract]
  rw [← bs_of ((bs l).extract i j), h]
/-- What is left behind the first bytes of which it holds. -/
theorem trim_eq (p : Nat → Bool) (hp : ∀ r, p r = true → r < 128) (l : List UInt8) : Lib.trimLeftF p (bs l) = bs (l.dropWhile (fun b => p b.toNat)) := by
  have h := idx_from p hp l l.length 0 (by omega)
  rw [List.drop_zero, Nat.zero_add] at h
  have h2 : Lib.idxFunc p false (bs l) = if l.all (fun b => p b.toNat) then -1 else (((l.takeWhile (fun b => p b.toNat)).length : Nat) : Int) := h
  unfold Lib.trimLeftF
  rw [h2]
  by_cases ha : (l.all fun b => p b.toNat) = true
  · rw [if_pos ha, if_pos rfl, all_dropWhile _ _ ha]
  · rw [if_neg ha, if_neg (by omega), Int.toNat_natCast, bs_extract, drop_takeWhile, bs_size, List.take_of_length_le]
    rw [← drop_takeWhile, List.length_drop]
    exact Nat.le_refl _
theorem head_eq (p : UInt8 → Bool) (l : List UInt8) : (bs l).extract 0 (l.length - (l.dropWhile p).length) = bs (l.takeWhile p) := by
  have h : l.length - (l.dropWhile p).length = (l.takeWhile p).length := by
    have := congrArg List.length (List.takeWhile_append_dropWhile (p := p) (l := l))
    rw [List.length_append] at this; omega
  rw [h, bs_extract, List.drop_zero, Nat.sub_zero, take_takeWhile]

/-! ### The reader -/
/-- What is left to be read, and whether it was wrong. -/
structure St where
  left : List UInt8
  wrong : Bool
def St.need (s : St) (b : Bool) : St := ⟨s.left, s.wrong || !b⟩
def nextB (c : Nat) (s : St) : Bool := match s.left with
  | [] => false
  | b :: _ => decide (b.toNat = c)
def nextS (c : Nat) (s : St) : St := if nextB c s then ⟨s.left.tail, s.wrong⟩ else s
def runV (p : Nat → Bool) (s : St) : List UInt8 := s.left.takeWhile fun b => p b.toNat
def runS (p : Nat → Bool) (s : St) : St := ⟨s.left.dropWhile fun b => p b.toNat, s.wrong⟩
/-- What Atoi tells beside its error. -/
def atoiV (l : List UInt8) : Int := match Lib.atoiAll l with
  | .ok v => v
  | Lib.NumEnd.syntax => 0
  | .range => Lib.atoiSat l
def w64 (n : Int) : Int := RowKit.wrap64 n
/-- 0 and more, as far as numbers go. -/
def inB (n lo hi : Int) : Bool := decide (lo ≤ n) && decide (n ≤ hi)
def numV (s : St) : Int := atoiV (runV dgt s)
def numS (few most : Int) (s : St) : St := (runS dgt s).need (inB (runV dgt s).length few most)
def sixS (s : St) : St := (numS 2 2 s).need (decide (numV s ≤ 59))
/-- Hours, and minutes and seconds, if there are any. -/
def timV (s : St) : Int :=
  let s1 := numS 1 3 s
  if nextB 58 s1 then
    let s2 := nextS 58 s1
    let s3 := sixS s2
    if nextB 58 s3 then w64 (w64 (w64 (numV s * 3600) + w64 (numV s2 * 60)) + numV (nextS 58 s3)) else w64 (w64 (numV s * 3600) + w64 (numV s2 * 60))
  else w64 (numV s * 3600)
def timS (s : St) : St :=
  let s1 := numS 1 3 s
  if nextB 58 s1 then
    let s3 := sixS (nextS 58 s1)
    if nextB 58 s3 then sixS (nextS 58 s3) else s3
  else s1
def sgnV (s : St) : Int := if nextB 45 s then w64 (-timV (nextS 45 s)) else timV s
def sgnS (s : St) : St := if nextB 45 s then (timS (nextS 45 s)).need (timV (nextS 45 s) != 0) else timS s
def offV (s : St) : Int := if nextB 43 s then w64 (-timV (nextS 43 s)) else w64 (-sgnV s)
def offS (s : St) : St := if nextB 43 s then timS (nextS 43 s) else sgnS s
def namV (s : St) : List UInt8 := if nextB 60 s then runV mrk (nextS 60 s) else runV ltr s
def namS (s : St) : St := if nextB 60 s then
    let s1 := runS mrk (nextS 60 s)
    (nextS 62 s1).need (nextB 62 s1)
  else runS ltr s
/-- A day; a rule. -/
structure Dy where
  kind : Int
  month : Int
  week : Int
  day : Int
  time : Int
structure Rl where
  std : ByteArray
  dst : ByteArray
  off : Int
  dstOff : Int
  start : Dy
  end_ : Dy
def dy0 : Dy := ⟨0, 0, 0, 0, 0⟩
def rl0 : Rl := ⟨⟨#[]⟩, ⟨#[]⟩, 0, 0, dy0, dy0⟩
/-- A day's date: its kind, month, week, and what is left behind them. -/
def dayHead (s : St) : Int × Int × Int × St :=
  if nextB 77 s then
    let s1 := nextS 77 s
    let s2 := numS 1 3 s1
    let s3 := (nextS 46 s2).need (nextB 46 s2)
    let s4 := numS 1 1 s3
    (3, numV s1, numV s3, (nextS 46 s4).need (nextB 46 s4))
  else if nextB 74 s then (1, 0, 0, nextS 74 s) else (2, 0, 0, s)
def dayV (s : St) : Dy :=
  let h := dayHead s
  let s5 := numS 1 3 h.2.2.2
  ⟨h.1, h.2.1, h.2.2.1, numV h.2.2.2, if nextB 47 s5 then sgnV (nextS 47 s5) else 7200⟩
def dayS (s : St) : St :=
  let s5 := numS 1 3 (dayHead s).2.2.2
  if nextB 47 s5 then sgnS (nextS 47 s5) else s5
/-- Summer's offset, and what is left behind the comma. -/
def dstV (off : Int) (s : St) : Int := if nextB 44 s then w64 (off + 3600) else offV s
def dstS (s : St) : St := if nextB 44 s then nextS 44 s else (nextS 44 (offS s)).need (nextB 44 (offS s))
def ruleV (s : St) : Rl :=
  let s1 := namS s
  let s2 := offS s1
  if s2.left = [] then ⟨bs (namV s), ⟨#[]⟩, offV s1, 0, dy0, dy0⟩
  else
    let s3 := namS s2
    let s4 := dstS s3
    let s5 := dayS s4
    let s6 := (nextS 44 s5).need (nextB 44 s5)
    ⟨bs (namV s), bs (namV s2), offV s1, dstV (offV s1) s3, dayV s4, dayV s6⟩
def ruleS (s : St) : St :=
  let s2 := offS (namS s)
  if s2.left = [] then s2
  else
    let s5 := dayS (dstS (namS s2))
    dayS ((nextS 44 s5).need (nextB 44 s5))
/-! ### What is right -/
def nameB (l : List UInt8) : Bool := inB l.length 3 10 && l.all fun b => mrk b.toNat
def offB (n : Int) : Bool := inB n (-89999) 89999
def dayB (d : Dy) : Bool := inB d.time (-604799) 604799 &&
  (if d.kind = 1 then decide (d.day ≠ 0) && (decide (d.month = 0) && (decide (d.week = 0) && inB d.day 0 365))
   else if d.kind = 2 then decide (d.month = 0) && (decide (d.week = 0) && inB d.day 0 365)
   else if d.kind = 3 then inB d.month 1 12 && (inB d.week 1 5 && inB d.day 0 6) else false)
def dy0B (d : Dy) : Bool := decide (d.kind = 0) && (decide (d.month = 0) && (decide (d.week = 0) && (decide (d.day = 0) && decide (d.time = 0))))
def rightR (r : Rl) : Bool := nameB r.std.data.toList && (offB r.off &&
  (if r.dst.size = 0 then decide (r.dstOff = 0) && (dy0B r.start && dy0B r.end_)
   else nameB r.dst.data.toList && (offB r.dstOff && (dayB r.start && dayB r.end_))))
/-- What is parsed: none, or a rule. -/
def parseR (s : ByteArray) : Option Rl :=
  if 100 < s.size then none
  else
    let s0 : St := ⟨s.data.toList, false⟩
    if (ruleS s0).wrong then none
    else if (ruleS s0).left ≠ [] then none
    else if rightR (ruleV s0) then some (ruleV s0) else none
end Go.Proofs.YtkfhipkcnocokaaDoor.Fo
