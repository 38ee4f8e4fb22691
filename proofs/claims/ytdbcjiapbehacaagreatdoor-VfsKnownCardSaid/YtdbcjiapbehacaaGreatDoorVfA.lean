/-
  Layer 5: VfPlain VfMem VfFind VfUsed VfPath VfBegin, one behind the other.
-/
import Derived.WalkKit
import Derived.Test.YtdbcjiapbehacaaGreatDoorProg
import Derived.Below
import Derived.Laws.OwnMore
import Derived.Deep.Draws
import Derived.Deep.OwnRows
import Derived.OwnWalk
import Derived.Maps.AppendAt
import Derived.Laws.Rows
import Derived.LoopTactic
import Derived.Lib.Hide
import Derived.Outline
import Derived.Deep.QuietTactic
import Derived.BigQuiet
import Derived.Lib.Strings
/-! Layer 5's words, with no program in them: the document's file system as plain data. -/
namespace Go.Proofs.YtdbcjiapbehacaaGreatDoor.Vf

/-- A file's contents, and the durable ones. -/
structure Fl where
  (b d : ByteArray)
/-- A path that stands for a file. -/
structure Nm where
  p : ByteArray
  f : Nat
/-- A step that waits. -/
structure St where
  p : ByteArray
  f : Int
  g : ByteArray
structure Dr where
  p : ByteArray
  (names dur : List Nm)
  waits : List St
structure Fs where
  most : Int
  files : List Fl
  dirs : List Dr
  down : Bool
  crash : Int

/-- The place of the first one of which it holds; where there is none, the list's length. -/
def firstIx {α : Type} (q : α → Bool) : List α → Nat
  | [] => 0
  | a :: l => if q a then 0 else firstIx q l + 1
theorem firstIx_le {α : Type} (q : α → Bool) : ∀ l : List α, firstIx q l ≤ l.length
  | [] => Nat.le_refl _
  | a :: l => by
    unfold firstIx
    split
    · omega
    · have := firstIx_le q l; simp; omega
theorem firstIx_at {α : Type} {q : α → Bool} : ∀ {l : List α} {k : Nat}, (∀ (j : Nat) (x : α), j < k → l[j]? = some x → q x = false) → ∀ x, l[k]? = some x → q x = true → firstIx q l = k
  | [], _, _, _, h, _ => by simp at h
  | a :: l, 0, _, x, h, hq => by
    simp at h; subst h
    unfold firstIx; rw [if_pos hq]
  | a :: l, k + 1, hb, x, h, hq => by
    have ha : q a = false := hb 0 a (by omega) (by simp)
    unfold firstIx
    rw [if_neg (by simp [ha]), firstIx_at (k := k) (fun j y hj hy => hb (j + 1) y (by omega) (by simpa using hy)) x (by simpa using h) hq]
theorem firstIx_none {α : Type} {q : α → Bool} : ∀ {l : List α}, (∀ (j : Nat) (x : α), l[j]? = some x → q x = false) → firstIx q l = l.length
  | [], _ => rfl
  | a :: l, hb => by
    have ha : q a = false := hb 0 a (by simp)
    unfold firstIx
    rw [if_neg (by simp [ha]), firstIx_none (fun j y hy => hb (j + 1) y (by simpa using hy))]; rfl

/-- The place of a directory; -1: there is none. -/
def dirAt (fs : Fs) (path : ByteArray) : Int := if firstIx (fun d : Dr => d.p.toList == path.toList) fs.dirs < fs.dirs.length then (firstIx (fun d : Dr => d.p.toList == path.toList) fs.dirs : Int) else -1
theorem dirAt_yes {fs : Fs} {path : ByteArray} {k : Nat} {d : Dr} (hb : ∀ (j : Nat) (x : Dr), j < k → fs.dirs[j]? = some x → (x.p.toList == path.toList) = false) (hd : fs.dirs[k]? = some d) (he : (d.p.toList == path.toList) = true) : dirAt fs path = k := by
  have h := firstIx_at (q := fun d : Dr => d.p.toList == path.toList) hb d hd he
  have hl : k < fs.dirs.length := by
    rcases Nat.lt_or_ge k fs.dirs.length with a | a
    · exact a
    · rw [List.getElem?_eq_none a] at hd; cases hd
  unfold dirAt
  rw [h, if_pos hl]
theorem dirAt_no {fs : Fs} {path : ByteArray} (hb : ∀ (j : Nat) (x : Dr), fs.dirs[j]? = some x → (x.p.toList == path.toList) = false) : dirAt fs path = -1 := by
  unfold dirAt
  rw [firstIx_none (q := fun d : Dr => d.p.toList == path.toList) hb, if_neg (by omega)]
theorem lt_of_get {α : Type} {l : List α} {k : Nat} {a : α} (h : l[k]? = some a) : k < l.length := by
  rcases Nat.lt_or_ge k l.length with b | b
  · exact b
  · rw [List.getElem?_eq_none b] at h; cases h
def manyOf (ds : List Dr) : Nat := (ds.map fun d => d.names.length).sum
theorem manyOf_snoc (ds : List Dr) (d : Dr) : manyOf (ds ++ [d]) = manyOf ds + d.names.length := by simp [manyOf]
/-- Does a name stand for this path? -/
def isAt (path : ByteArray) (x : Nm) : Bool := x.p.toList == path.toList
/-- Which directory and name a file has. -/
def findIn (path : ByteArray) : List Dr → Option (Nat × Nat)
  | [] => none
  | d :: ds => if firstIx (isAt path) d.names < d.names.length then some (0, firstIx (isAt path) d.names) else (findIn path ds).map fun x => (x.1 + 1, x.2)
def noneIn (path : ByteArray) (d : Dr) : Prop := ∀ (j : Nat) (x : Nm), d.names[j]? = some x → isAt path x = false
theorem find_no {path : ByteArray} : ∀ {ds : List Dr}, (∀ (i : Nat) (d : Dr), ds[i]? = some d → noneIn path d) → findIn path ds = none
  | [], _ => rfl
  | d :: ds, h => by
    unfold findIn
    rw [firstIx_none (h 0 d (by simp)), if_neg (by omega), find_no (fun i d hd => h (i + 1) d (by simpa using hd))]; rfl
theorem find_yes {path : ByteArray} {e : Dr} {k : Nat} {x : Nm} : ∀ {ds : List Dr} {i : Nat}, (∀ (j : Nat) (d : Dr), j < i → ds[j]? = some d → noneIn path d) → ds[i]? = some e → (∀ (j : Nat) (y : Nm), j < k → e.names[j]? = some y → isAt path y = false) → e.names[k]? = some x → isAt path x = true → findIn path ds = some (i, k)
  | [], _, _, h, _, _, _ => by simp at h
  | d :: ds, 0, _, h, hb, hx, hq => by
    simp at h; subst h
    unfold findIn
    rw [firstIx_at hb x hx hq, if_pos (lt_of_get hx)]
  | d :: ds, i + 1, ha, h, hb, hx, hq => by
    unfold findIn
    rw [firstIx_none (ha 0 d (by omega) (by simp)), if_neg (by omega), find_yes (i := i) (fun j d hj hd => ha (j + 1) d (by omega) (by simpa using hd)) (by simpa using h) hb hx hq]; rfl
/-- How many bytes files have. -/
def szOf (fs : Fs) (x : Nm) : Nat := ((fs.files[x.f]?).map fun y => y.b.size).getD 0
def usedN (fs : Fs) (ns : List Nm) : Nat := (ns.map (szOf fs)).sum
def usedD (fs : Fs) (ds : List Dr) : Nat := (ds.map fun d => usedN fs d.names).sum
theorem usedN_snoc (fs : Fs) (ns : List Nm) (x : Nm) : usedN fs (ns ++ [x]) = usedN fs ns + szOf fs x := by simp [usedN]
theorem usedD_snoc (fs : Fs) (ds : List Dr) (d : Dr) : usedD fs (ds ++ [d]) = usedD fs ds + usedN fs d.names := by simp [usedD]
theorem take_snoc {α : Type} {l : List α} {k : Nat} {x : α} (h : l[k]? = some x) : l.take (k + 1) = l.take k ++ [x] := by
  have hl := lt_of_get h
  rw [List.take_succ_eq_append_getElem hl]
  rw [List.getElem?_eq_getElem hl] at h
  injection h with h; rw [h]
theorem usedN_take (fs : Fs) (ns : List Nm) (k : Nat) : usedN fs (ns.take k) ≤ usedN fs ns := by
  have h : usedN fs ns = usedN fs (ns.take k) + usedN fs (ns.drop k) := by
    unfold usedN; rw [← List.sum_append, ← List.map_append, List.take_append_drop]
  omega
theorem usedD_take (fs : Fs) (ds : List Dr) (k : Nat) : usedD fs (ds.take k) ≤ usedD fs ds := by
  have h : usedD fs ds = usedD fs (ds.take k) + usedD fs (ds.drop k) := by
    unfold usedD; rw [← List.sum_append, ← List.map_append, List.take_append_drop]
  omega
/-- All names stand for files that there are. -/
def Named (fs : Fs) : Prop := ∀ d ∈ fs.dirs, (∀ x ∈ d.names, x.f < fs.files.length) ∧ (∀ x ∈ d.dur, x.f < fs.files.length) ∧ ∀ x ∈ d.waits, x.f < fs.files.length
end Go.Proofs.YtdbcjiapbehacaaGreatDoor.Vf

/-! The document's file system in memory. -/
namespace Go.Proofs.YtdbcjiapbehacaaGreatDoor.Vf
open Go.RowKit

theorem ret_int {k : IntKind} {a b : Int} (h : a = b) : Ending.returned (.int k a) = .returned (.int k b) := by rw [h]
def Nm.cells (x : Nm) : List Value := [.string x.p, .int .i64 x.f]
def St.cells (x : St) : List Value := [.string x.p, .int .i64 x.f, .string x.g]
def Fl.cells (x : Fl) : List Value := [.string x.b, .string x.d]
/-- Block g holds cs. -/
def Hold (w : World) (g : Nat) (t : TypeId) (cs : List Value) : Prop := w.heap[g]? = some (.cells cs.toArray t (0, 0))
theorem Hold.cell {w : World} {g : Nat} {t : TypeId} {cs : List Value} (h : Hold w g t cs) (i : Nat) : w.cell? ⟨g, i, none⟩ = cs[i]? := by
  unfold Hold at h; simp [World.cell?, h]
theorem Hold.frozen {w : World} {g : Nat} {t : TypeId} {cs : List Value} (h : Hold w g t cs) (i : Nat) : w.frozen? ⟨g, i, none⟩ = false := by
  unfold Hold at h; simp [World.frozen?, h]

/-- A slice of elements of s cells each that lie in a block of type t: they read as xs. -/
structure Elems (w : World) (t : TypeId) (s : Nat) (g cap n : Nat) (xs : List (List Value)) : Prop where
  len : xs.length = n
  fits : n ≤ cap
  cell : ∀ (i k : Nat) (cs : List Value) (u : Value), xs[i]? = some cs → cs[k]? = some u → w.cell? ⟨g, i * s + k, none⟩ = some u
  kind : ∃ cur, w.heap[g]? = some (.cells cur t (0, 0))
/-- A slice's value reads as xs; of none, nil or empty. -/
def Reads (w : World) (t : TypeId) (s : Nat) (v : Value) (xs : List (List Value)) : Prop :=
  (xs = [] ∧ ∃ A c, v = .slice A 0 c) ∨ ∃ g cap, v = .slice (some ⟨g, 0, none⟩) xs.length cap ∧ Elems w t s g cap xs.length xs
theorem Reads.len {w : World} {t : TypeId} {s : Nat} {v : Value} {xs : List (List Value)} (h : Reads w t s v xs) : ∃ A c, v = .slice A xs.length c := by
  rcases h with ⟨rfl, A, c, rfl⟩ | ⟨g, cap, rfl, _⟩
  · exact ⟨A, c, rfl⟩
  · exact ⟨_, cap, rfl⟩

/-- Where a directory's three slices lie. -/
structure Dv where
  (n d s : Value)
def drCells (d : Dr) (v : Dv) : List Value := [.string d.p, v.n, v.d, v.s]
/-- The document's file system, read: the names (dv) of what lies where are let open. -/
structure Sees (w : World) (p : Nat) (fs : Fs) (vf : Value) (gd cd : Nat) (dv : List Dv) : Prop where
  top : Hold w p 66 [.int .i64 fs.most, vf, .slice (some ⟨gd, 0, none⟩) fs.dirs.length cd, .bool fs.down, .int .i64 fs.crash]
  files : Reads w 109 2 vf (fs.files.map Fl.cells)
  many : dv.length = fs.dirs.length
  dirs : Elems w 62 4 gd cd fs.dirs.length (List.zipWith drCells fs.dirs dv)
  each : ∀ (i : Nat) (d : Dr) (v : Dv), fs.dirs[i]? = some d → dv[i]? = some v → Reads w 111 2 v.n (d.names.map Nm.cells) ∧ Reads w 111 2 v.d (d.dur.map Nm.cells) ∧ Reads w 114 3 v.s (d.waits.map St.cells)
  ticks : -9223372036854775808 ≤ fs.crash ∧ fs.crash ≤ 9223372036854775807
  small : fs.dirs.length ≤ 4294967296 ∧ ∀ d ∈ fs.dirs, d.names.length ≤ 4294967296
section
variable {w : World} {p gd cd : Nat} {fs : Fs} {vf : Value} {dv : List Dv}
theorem Sees.dir (h : Sees w p fs vf gd cd dv) {i : Nat} (hi : i < fs.dirs.length) : ∃ d v, fs.dirs[i]? = some d ∧ dv[i]? = some v ∧ w.cell? ⟨gd, i * 4, none⟩ = some (.string d.p) ∧ w.cell? ⟨gd, i * 4 + 1, none⟩ = some v.n ∧ w.cell? ⟨gd, i * 4 + 2, none⟩ = some v.d ∧ w.cell? ⟨gd, i * 4 + 3, none⟩ = some v.s := by
  have hv : i < dv.length := by rw [h.many]; exact hi
  have hz : (List.zipWith drCells fs.dirs dv)[i]? = some (drCells fs.dirs[i] dv[i]) := by
    rw [List.getElem?_zipWith]; simp [List.getElem?_eq_getElem hi, List.getElem?_eq_getElem hv]
  exact ⟨fs.dirs[i], dv[i], List.getElem?_eq_getElem hi, List.getElem?_eq_getElem hv, h.dirs.cell i 0 _ _ hz rfl, h.dirs.cell i 1 _ _ hz rfl, h.dirs.cell i 2 _ _ hz rfl, h.dirs.cell i 3 _ _ hz rfl⟩
end

set_option maxHeartbeats 2000000 in
theorem rdir_any (p gd cd : Nat) (fs : Fs) (vf : Value) (dv : List Dv) (path : ByteArray) (w : World) (h : Sees w p fs vf gd cd dv) :
    Calls Tryz.prog 61 #[.pointer (some ⟨p, 0, none⟩), .string path] w fun e w' => e = .returned (.int .i64 (dirAt fs path)) ∧ w = w' := by
  have hc2 : w.cell? ⟨p, 2, none⟩ = some (.slice (some ⟨gd, 0, none⟩) fs.dirs.length cd) := by rw [h.top.cell]; rfl
  have hsm := h.small.1
  have hfit := h.dirs.fits
  go_enter Tryz.func61, Tryz.ntmps61
  go_wp2_with fail
  go_loop [5] (fun i => ∃ k : Nat, k ≤ fs.dirs.length ∧ i = .int .i64 k ∧ ∀ j x, j < k → fs.dirs[j]? = some x → (x.p.toList == path.toList) = false) (fun i => fs.dirs.length - (intOf i).toNat)
  case atStart => exact ⟨0, by omega, rfl, fun j x hj => absurd hj (by omega)⟩
  case round =>
    obtain ⟨k, hk, rfl, hb⟩ := hrel
    have HB := Lib.hid hb; clear hb
    by_cases hlt : k < fs.dirs.length
    · obtain ⟨d, v, hd, hv, hc, _⟩ := h.dir hlt
      have HD := Lib.hid hd; clear hd hv
      cases heq : (d.p.toList == path.toList)
      · go_wp2_with fail
        refine ⟨⟨k + 1, hlt, by go_num, fun j x hj hx => ?_⟩, by simp [intOf]; omega⟩
        rcases Nat.lt_or_ge j k with a | a
        · exact HB.out j x a hx
        · obtain rfl : j = k := by omega
          rw [HD.out] at hx
          injection hx with hx; subst hx; exact heq
      · go_wp2_with fail
        go_ret
        exact ⟨ret_int (dirAt_yes HB.out HD.out heq).symm, rfl⟩
    · go_wp2_with fail
      go_ret
      exact ⟨ret_int (dirAt_no fun j x hx => HB.out j x (by have := lt_of_get hx; omega) hx).symm, rfl⟩

/-- Files' names, told up to a directory. -/
theorem many_le (fs : Fs) : ∀ k, k ≤ fs.dirs.length → (∀ d ∈ fs.dirs, d.names.length ≤ 4294967296) → manyOf (fs.dirs.take k) ≤ k * 4294967296
  | 0, _, _ => by simp [manyOf]
  | k + 1, hk, h => by
    rw [List.take_succ_eq_append_getElem hk, manyOf_snoc]
    have := many_le fs k (by omega) h
    have := h _ (List.getElem_mem hk)
    omega
set_option maxHeartbeats 2000000 in
theorem rmany_any (p gd cd : Nat) (fs : Fs) (vf : Value) (dv : List Dv) (w : World) (h : Sees w p fs vf gd cd dv) (hs : fs.dirs.length ≤ 65536) :
    Calls Tryz.prog 63 #[.pointer (some ⟨p, 0, none⟩)] w fun e w' => e = .returned (.int .i64 (manyOf fs.dirs)) ∧ w = w' := by
  have hc2 : w.cell? ⟨p, 2, none⟩ = some (.slice (some ⟨gd, 0, none⟩) fs.dirs.length cd) := by rw [h.top.cell]; rfl
  have hfit := h.dirs.fits
  go_enter Tryz.func63, Tryz.ntmps63
  go_wp2_with fail
  go_loop [3, 4] (fun n i => ∃ k : Nat, k ≤ fs.dirs.length ∧ i = .int .i64 k ∧ n = .int .i64 (manyOf (fs.dirs.take k))) (fun _ i => fs.dirs.length - (intOf i).toNat)
  case atStart => exact ⟨0, by omega, rfl, by simp [manyOf]⟩
  case round =>
    obtain ⟨k, hk, rfl, rfl⟩ := hrel
    by_cases hlt : k < fs.dirs.length
    · obtain ⟨d, v, hd, hv, _, hc, _⟩ := h.dir hlt
      obtain ⟨A, c, hvn⟩ := (h.each k d v hd hv).1.len
      rw [hvn, List.length_map] at hc
      have hdl : d.names.length ≤ 4294967296 := h.small.2 d (List.mem_of_getElem? hd)
      have hm := many_le fs k (by omega) h.small.2
      have hnx : manyOf (fs.dirs.take (k + 1)) = manyOf (fs.dirs.take k) + d.names.length := by
        rw [List.take_succ_eq_append_getElem hlt, manyOf_snoc]
        rw [List.getElem?_eq_getElem hlt] at hd
        injection hd with hd; rw [hd]
      have HN := Lib.hid hnx
      clear hd hv hvn hnx
      generalize manyOf (fs.dirs.take k) = m at hm HN ⊢
      go_wp2_with fail
      refine ⟨⟨k + 1, hlt, by go_num, by rw [HN.out]; go_num⟩, by simp [intOf]; omega⟩
    · go_wp2_with fail
      go_ret
      exact ⟨ret_int (by rw [List.take_of_length_le (by omega)]), rfl⟩
end Go.Proofs.YtdbcjiapbehacaaGreatDoor.Vf

/-! What (*clepsydraref05.FS).find and Used answer. -/
namespace Go.Proofs.YtdbcjiapbehacaaGreatDoor.Vf
open Go.RowKit

def findVal : Option (Nat × Nat) → Value
  | some (i, k) => .tuple #[.int .i64 i, .int .i64 k]
  | none => .tuple #[.int .i64 (-1), .int .i64 (-1)]
theorem Reads.at_ {w : World} {t : TypeId} {s : Nat} {v : Value} {xs : List (List Value)} (h : Reads w t s v xs) {k : Nat} {cs : List Value} (hk : xs[k]? = some cs) :
    ∃ g cap, v = .slice (some ⟨g, 0, none⟩) xs.length cap ∧ xs.length ≤ cap ∧ ∀ (j : Nat) (u : Value), cs[j]? = some u → w.cell? ⟨g, k * s + j, none⟩ = some u := by
  rcases h with ⟨rfl, _⟩ | ⟨g, cap, rfl, h⟩
  · simp at hk
  · exact ⟨g, cap, rfl, h.fits, fun j u hu => h.cell k j cs u hk hu⟩

set_option maxHeartbeats 4000000 in
theorem rfind_any (p gd cd : Nat) (fs : Fs) (vf : Value) (dv : List Dv) (path : ByteArray) (w : World) (h : Sees w p fs vf gd cd dv) :
    Calls Tryz.prog 62 #[.pointer (some ⟨p, 0, none⟩), .string path] w fun e w' => e = .returned (findVal (findIn path fs.dirs)) ∧ w = w' := by
  have hc2 : w.cell? ⟨p, 2, none⟩ = some (.slice (some ⟨gd, 0, none⟩) fs.dirs.length cd) := by rw [h.top.cell]; rfl
  have hsm := h.small.1
  have hfit := h.dirs.fits
  go_enter Tryz.func62, Tryz.ntmps62
  go_wp2_with fail
  go_loop [6] (fun i => ∃ k : Nat, k ≤ fs.dirs.length ∧ i = .int .i64 k ∧ ∀ j d, j < k → fs.dirs[j]? = some d → noneIn path d) (fun i => fs.dirs.length - (intOf i).toNat)
  case atStart => exact ⟨0, by omega, rfl, fun j x hj => absurd hj (by omega)⟩
  case round =>
    obtain ⟨i, hi, rfl, hb⟩ := hrel
    have HB := Lib.hid hb; clear hb
    by_cases hlt : i < fs.dirs.length
    · obtain ⟨d, v, hd, hv, _, hc, _⟩ := h.dir hlt
      have hr := (h.each i d v hd hv).1
      obtain ⟨A, c, hvn⟩ := hr.len
      rw [List.length_map] at hvn
      have hdl : d.names.length ≤ 4294967296 := h.small.2 d (List.mem_of_getElem? hd)
      have hc1 : w.cell? ⟨gd, i * 4 + 1, none⟩ = some (.slice A d.names.length c) := by rw [hc, hvn]
      have HD := Lib.hid hd; have HR := Lib.hid hr; have HVN := Lib.hid hvn
      clear hd hv hr hc hvn
      go_wp2_with fail
      go_loop [7] (fun k => ∃ j : Nat, j ≤ d.names.length ∧ k = .int .i64 j ∧ ∀ (m : Nat) (y : Nm), m < j → d.names[m]? = some y → isAt path y = false) (fun k => d.names.length - (intOf k).toNat)
      case atStart => exact ⟨0, by omega, rfl, fun j x hj => absurd hj (by omega)⟩
      case round =>
        obtain ⟨j, hj, rfl, hm⟩ := hrel
        have HM := Lib.hid hm; clear hm
        by_cases hjl : j < d.names.length
        · have hx : d.names[j]? = some d.names[j] := List.getElem?_eq_getElem hjl
          obtain ⟨x, hxx⟩ : ∃ x, d.names[j] = x := ⟨_, rfl⟩
          rw [hxx] at hx
          obtain ⟨g, cap, hv2, hcap, hcell⟩ := HR.out.at_ (k := j) (cs := x.cells) (by rw [List.getElem?_map, hx]; rfl)
          rw [HVN.out, List.length_map] at hv2
          injection hv2 with e1 _ e3
          subst e1; subst e3
          rw [List.length_map] at hcap
          have hc5 : w.cell? ⟨g, j * 2, none⟩ = some (.string x.p) := hcell 0 _ rfl
          have HX := Lib.hid hx; clear hx hxx hcell
          cases heq : (x.p.toList == path.toList)
          · go_wp2_with fail
            refine ⟨⟨j + 1, hjl, by go_num, fun m y hmj hy => ?_⟩, by simp [intOf]; omega⟩
            rcases Nat.lt_or_ge m j with a | a
            · exact HM.out m y a hy
            · obtain rfl : m = j := by omega
              rw [HX.out] at hy
              injection hy with hy; subst hy; exact heq
          · go_wp2_with fail
            go_ret2
            exact ⟨by rw [find_yes HB.out HD.out HM.out HX.out heq]; rfl, rfl⟩
        · go_wp2_with fail
          refine ⟨⟨i + 1, hlt, by go_num, fun m y hmj hy => ?_⟩, by simp [intOf]; omega⟩
          rcases Nat.lt_or_ge m i with a | a
          · exact HB.out m y a hy
          · obtain rfl : m = i := by omega
            rw [HD.out] at hy
            injection hy with hy; subst hy
            exact fun q y hq => HM.out q y (by have := lt_of_get hq; omega) hq
    · go_wp2_with fail
      go_ret2
      exact ⟨by rw [find_no fun m y hy => HB.out m y (by have := lt_of_get hy; omega) hy]; rfl, rfl⟩
end Go.Proofs.YtdbcjiapbehacaaGreatDoor.Vf

/-! What (*clepsydraref05.FS).Used answers. -/
namespace Go.Proofs.YtdbcjiapbehacaaGreatDoor.Vf
open Go.RowKit

set_option maxHeartbeats 4000000 in
theorem rused_any (p gd cd : Nat) (fs : Fs) (vf : Value) (dv : List Dv) (w : World) (h : Sees w p fs vf gd cd dv) (hn : Named fs) (hu : usedD fs fs.dirs ≤ 4294967296) :
    Calls Tryz.prog 41 #[.pointer (some ⟨p, 0, none⟩)] w fun e w' => e = .returned (.int .i64 (usedD fs fs.dirs)) ∧ ∃ m, w' = w.drewN m := by
  have hc2 : w.cell? ⟨p, 2, none⟩ = some (.slice (some ⟨gd, 0, none⟩) fs.dirs.length cd) := by rw [h.top.cell]; rfl
  have hc1 : w.cell? ⟨p, 1, none⟩ = some vf := by rw [h.top.cell]; rfl
  have hsm := h.small.1
  have hfit := h.dirs.fits
  have HN := Lib.hid hn; clear hn
  go_enter Tryz.func41, Tryz.ntmps41
  go_wp2_with fail
  go_loopw [3, 4] (fun n i wr => ∃ k m : Nat, k ≤ fs.dirs.length ∧ i = .int .i64 k ∧ n = .int .i64 (usedD fs (fs.dirs.take k)) ∧ wr = w.drewN m) (fun _ i _ => fs.dirs.length - (intOf i).toNat)
  case atStart => exact ⟨0, 0, by omega, rfl, rfl, rfl⟩
  case round =>
    obtain ⟨i, m0, hi, rfl, rfl, rfl⟩ := hrel
    by_cases hlt : i < fs.dirs.length
    · obtain ⟨d, v, hd, hv, _, hc, _⟩ := h.dir hlt
      have hr := (h.each i d v hd hv).1
      obtain ⟨A, c, hvn⟩ := hr.len
      rw [List.length_map] at hvn
      have hdl : d.names.length ≤ 4294967296 := h.small.2 d (List.mem_of_getElem? hd)
      have hdc : w.cell? ⟨gd, i * 4 + 1, none⟩ = some (.slice A d.names.length c) := by rw [hc, hvn]
      have hnx : usedD fs (fs.dirs.take (i + 1)) = usedD fs (fs.dirs.take i) + usedN fs d.names := by rw [take_snoc hd, usedD_snoc]
      have hle := usedD_take fs fs.dirs (i + 1)
      have hnm := (HN.out d (List.mem_of_getElem? hd)).1
      have HR := Lib.hid hr; have HVN := Lib.hid hvn; have HNX := Lib.hid hnx; have HNM := Lib.hid hnm; have HLE := Lib.hid hle
      clear hd hv hr hc hvn hnx hnm hle
      obtain ⟨U, hU⟩ : ∃ U, usedD fs (fs.dirs.take i) = U := ⟨_, rfl⟩
      rw [hU] at HNX ⊢
      clear hU
      go_wp2_with fail
      go_loopw [3, 5] (fun n k wr => ∃ j m : Nat, j ≤ d.names.length ∧ k = .int .i64 j ∧ n = .int .i64 ((U + usedN fs (d.names.take j) : Nat) : Int) ∧ wr = w.drewN m) (fun _ k _ => d.names.length - (intOf k).toNat)
      case atStart => exact ⟨0, m0, by omega, rfl, by simp [usedN], rfl⟩
      case round =>
        obtain ⟨j, m1, hj, rfl, rfl, rfl⟩ := hrel
        by_cases hjl : j < d.names.length
        · have hx : d.names[j]? = some d.names[j] := List.getElem?_eq_getElem hjl
          obtain ⟨x, hxx⟩ : ∃ x, d.names[j] = x := ⟨_, rfl⟩
          rw [hxx] at hx
          obtain ⟨g, cap, hv2, hcap, hcell⟩ := HR.out.at_ (k := j) (cs := x.cells) (by rw [List.getElem?_map, hx]; rfl)
          rw [HVN.out, List.length_map] at hv2
          injection hv2 with e1 _ e3
          subst e1; subst e3
          rw [List.length_map] at hcap
          have hc5 : w.cell? ⟨g, j * 2 + 1, none⟩ = some (.int .i64 x.f) := hcell 1 _ rfl
          have hxf : x.f < fs.files.length := HNM.out x (List.mem_of_getElem? hx)
          have hfx : fs.files[x.f]? = some fs.files[x.f] := List.getElem?_eq_getElem hxf
          obtain ⟨y, hyy⟩ : ∃ y, fs.files[x.f] = y := ⟨_, rfl⟩
          rw [hyy] at hfx
          obtain ⟨g2, cap2, hv3, hcap2, hcell2⟩ := h.files.at_ (k := x.f) (cs := y.cells) (by rw [List.getElem?_map, hfx]; rfl)
          subst hv3
          rw [List.length_map] at hcap2 hc1
          have hc6 : w.cell? ⟨g2, x.f * 2, none⟩ = some (.string y.b) := hcell2 0 _ rfl
          have hsz : szOf fs x = y.b.size := by unfold szOf; rw [hfx]; rfl
          have hnx2 : usedN fs (d.names.take (j + 1)) = usedN fs (d.names.take j) + y.b.size := by rw [take_snoc hx, usedN_snoc, hsz]
          have hle2 := usedN_take fs d.names (j + 1)
          have hb1 : U + (usedN fs (d.names.take j) + y.b.size) ≤ 4294967296 := by rw [← hnx2]; have := HNX.out; have := HLE.out; omega
          have HNX2 := Lib.hid hnx2
          clear hx hxx hcell hfx hyy hcell2 hsz hnx2 hle2
          generalize usedN fs (d.names.take j) = V at hb1 HNX2 ⊢
          have hx0 : (0 : Int) ≤ (x.f : Int) := by omega
          have hx1 : (x.f : Int) < (fs.files.length : Int) := by omega
          have hi0 : (0 : Int) ≤ (i : Int) := by omega
          have hi1 : (i : Int) < (fs.dirs.length : Int) := by omega
          have hj0 : (0 : Int) ≤ (j : Int) := by omega
          have hj1 : (j : Int) < (d.names.length : Int) := by omega
          have hsum : IntKind.i64.wrap (((U + V : Nat) : Int) + (y.b.size : Int)) = ((U + V : Nat) : Int) + (y.b.size : Int) := by rw [IntKind.wrap_i64]; omega
          go_wp2_with fail
          go_quiet (fail)
          go_wp2_with fail
          exact ⟨⟨j + 1, _, hjl, by go_num, congrArg (Value.int .i64) (by rw [HNX2.out]; omega), rfl⟩, by simp [intOf]; omega⟩
        · go_wp2_with fail
          exact ⟨⟨i + 1, _, hlt, by go_num, congrArg (Value.int .i64) (by rw [HNX.out, List.take_of_length_le (by omega)]), rfl⟩, by simp [intOf]; omega⟩
    · go_wp2_with fail
      go_ret
      exact ⟨ret_int (by rw [List.take_of_length_le (by omega)]), _, rfl⟩
end Go.Proofs.YtdbcjiapbehacaaGreatDoor.Vf

/-! Paths: what clepsydraref05.Path answers. -/
namespace Go.Proofs.YtdbcjiapbehacaaGreatDoor.Vf
open Go.RowKit

/-- Names of 1 to 64 bytes, none of them 0 or /, each with a / ahead: from place k on, the last / being at place a (k > a). Answers the last /. -/
def pathFrom (s : List UInt8) : Nat → Nat → Nat → Option Nat
  | 0, a, k => if k - a - 1 < 1 ∨ 64 < k - a - 1 then none else some a
  | n + 1, a, k =>
    let c := s.getD k 0
    if c = 47 then (if k - a - 1 < 1 ∨ 64 < k - a - 1 then none else pathFrom s n k (k + 1))
    else if c = 0 then none else pathFrom s n a (k + 1)
/-- The path above ([] of /), if it is a path. -/
def pathOf (s : List UInt8) : Option (List UInt8) :=
  if s = [47] then some []
  else match s with
    | [] => none
    | c :: _ => if c = 47 then (pathFrom s (s.length - 1) 0 1).map fun a => if a = 0 then [47] else s.take a else none
def pathVal (o : Option (List UInt8)) : Value :=
  match o with
  | some l => .tuple #[.string ⟨l.toArray⟩, .bool true]
  | none => .tuple #[.string ⟨#[]⟩, .bool false]

set_option maxHeartbeats 4000000 in
theorem rpath_any (s : ByteArray) (w : World) (hs : s.size ≤ 4294967296) :
    Calls Tryz.prog 67 #[.string s] w fun e w' => e = .returned (pathVal (pathOf s.data.toList)) ∧ w = w' := by
  by_cases h0 : s.data.toList = [47]
  · have hq : (s.toList == [47]) = true := by rw [Lib.toList_data, h0]; rfl
    have e : pathOf s.data.toList = some [] := by unfold pathOf; rw [if_pos h0]
    rw [e]
    clear h0 e
    go_enter Tryz.func67, Tryz.ntmps67
    go_wp2_with fail
    go_ret2
    exact ⟨rfl, rfl⟩
  · have hq : (s.toList == [47]) = false := by rw [Lib.toList_data]; simpa using h0
    cases hl : s.data.toList with
    | nil =>
      have hq2 : (s.toList == []) = true := by rw [Lib.toList_data, hl]; rfl
      have hq3 : s.toList.isEmpty = true := by rw [Lib.toList_data, hl]; rfl
      have e : pathOf [] = none := by unfold pathOf; rw [if_neg (by simp)]
      rw [e]
      clear h0 e hl
      go_enter Tryz.func67, Tryz.ntmps67
      go_wp2_with fail
      go_ret2
      exact ⟨rfl, rfl⟩
    | cons c0 l0 =>
      have hq2 : (s.toList == []) = false := by rw [Lib.toList_data, hl]; rfl
      have hq3 : s.toList.isEmpty = false := by rw [Lib.toList_data, hl]; rfl
      have hs0 : 0 < s.size := by rw [Lib.size_eq, hl]; simp
      have hb0 : s[0] = c0 := by
        have h1 : s.data.toList[0]? = some c0 := by rw [hl]; rfl
        rw [List.getElem?_eq_getElem (by rw [← Lib.size_eq]; exact hs0)] at h1
        injection h1
      have hsz1 : s.data.toList.length = s.size := (Lib.size_eq s).symm
      by_cases hc : c0 = 47
      · subst hc
        have hb1 : ((s[0].toNat : Int) == 47) = true := by rw [hb0]; rfl
        have hb2 : ((s[0].toNat : Int) != 47) = false := by rw [hb0]; rfl
        obtain ⟨R, hR⟩ : ∃ R, pathFrom s.data.toList (s.size - 1) 0 1 = R := ⟨_, rfl⟩
        have e : pathOf (47 :: l0) = R.map fun a => if a = 0 then [47] else s.data.toList.take a := by
          rw [← hl]
          unfold pathOf
          rw [if_neg h0, hl]
          simp only [if_true]
          rw [← hl, hsz1, hR]
        rw [e]
        have HR := Lib.hid hR; have HL := Lib.hid hl; have HS1 := Lib.hid hsz1
        clear h0 e hl hR hb0 hsz1
        go_enter Tryz.func67, Tryz.ntmps67
        go_wp2_with fail
        go_loop [4, 5] (fun a i => ∃ m k : Nat, m < k ∧ k ≤ s.size + 1 ∧ a = .int .i64 m ∧ i = .int .i64 k ∧ ((k ≤ s.size ∧ pathFrom s.data.toList (s.size - k) m k = R) ∨ (k = s.size + 1 ∧ R = some m))) (fun _ i => s.size + 1 - (intOf i).toNat)
        case atStart => exact ⟨0, 1, by omega, by omega, rfl, rfl, .inl ⟨by omega, HR.out⟩⟩
        case round =>
          obtain ⟨m, k, hmk, hk, rfl, rfl, hor⟩ := hrel
          rcases hor with ⟨hks, hp⟩ | ⟨hks, hp⟩
          · have HP := Lib.hid hp; clear hp
            by_cases hlt : k < s.size
            · obtain ⟨c, hcc⟩ : ∃ c, s[k] = c := ⟨_, rfl⟩
              have hg : s.data.toList.getD k 0 = c := by
                rw [List.getD, List.getElem?_eq_getElem (by rw [HS1.out]; exact hlt), ← hcc]; rfl
              have hst : pathFrom s.data.toList (s.size - k) m k = (if c = 47 then (if k - m - 1 < 1 ∨ 64 < k - m - 1 then none else pathFrom s.data.toList (s.size - (k + 1)) k (k + 1)) else if c = 0 then none else pathFrom s.data.toList (s.size - (k + 1)) m (k + 1)) := by
                rw [show s.size - k = (s.size - (k + 1)) + 1 by omega]
                simp only [pathFrom, hg]
              have HST := Lib.hid hst; clear hst hg
              by_cases h47 : c = 47
              · subst h47
                have HSR : Hid ((if k - m - 1 < 1 ∨ 64 < k - m - 1 then none else pathFrom s.data.toList (s.size - (k + 1)) k (k + 1)) = R) := by
                  have := HST.out; rw [if_pos rfl] at this; rw [← this]; exact HP.out
                by_cases hbad : k - m - 1 < 1 ∨ 64 < k - m - 1
                · have hRn : R = none := by rw [← HSR.out, if_pos hbad]
                  rw [hRn]
                  have hi : (k : Int) - (m : Int) - 1 < 1 ∨ 64 < (k : Int) - (m : Int) - 1 := by omega
                  clear hbad HSR HST HP HR
                  rcases hi with hi | hi
                  all_goals
                    go_wp2_with fail
                    go_ret2
                    exact ⟨rfl, rfl⟩
                · have hnx : pathFrom s.data.toList (s.size - (k + 1)) k (k + 1) = R := by rw [← HSR.out, if_neg hbad]
                  have hi1 : ¬ (k : Int) - (m : Int) - 1 < 1 := by omega
                  have hi2 : ¬ 64 < (k : Int) - (m : Int) - 1 := by omega
                  have HNX := Lib.hid hnx
                  clear hbad HSR HST HP HR hnx
                  go_wp2_with fail
                  exact ⟨⟨k, k + 1, by omega, by omega, rfl, by go_num, .inl ⟨by omega, HNX.out⟩⟩, by simp [intOf]; omega⟩
              · have HSR : Hid ((if c = 0 then none else pathFrom s.data.toList (s.size - (k + 1)) m (k + 1)) = R) := by
                  have := HST.out; rw [if_neg h47] at this; rw [← this]; exact HP.out
                have hk47 : ((c.toNat : Int) == 47) = false := by
                  simp only [beq_eq_false_iff_ne, ne_eq]
                  intro hh
                  exact h47 (UInt8.toNat_inj.mp (by simpa using (by omega : c.toNat = 47)))
                have hk48 : ((c.toNat : Int) != 47) = true := by simp [bne, hk47]
                by_cases hz : c = 0
                · have hRn : R = none := by rw [← HSR.out, if_pos hz]
                  subst hz
                  rw [hRn]
                  clear HSR HST HP HR h47 hk47 hk48
                  go_wp2_with fail
                  go_ret2
                  exact ⟨rfl, rfl⟩
                · have hnx : pathFrom s.data.toList (s.size - (k + 1)) m (k + 1) = R := by rw [← HSR.out, if_neg hz]
                  have hk0 : ((c.toNat : Int) == 0) = false := by
                    simp only [beq_eq_false_iff_ne, ne_eq]
                    intro hh
                    exact hz (UInt8.toNat_inj.mp (by simpa using (by omega : c.toNat = 0)))
                  have HNX := Lib.hid hnx
                  clear HSR HST HP HR hnx h47 hz
                  go_wp2_with fail
                  exact ⟨⟨m, k + 1, by omega, by omega, rfl, by go_num, .inl ⟨by omega, HNX.out⟩⟩, by simp [intOf]; omega⟩
            · obtain rfl : k = s.size := by omega
              have hst : pathFrom s.data.toList (s.size - s.size) m s.size = (if s.size - m - 1 < 1 ∨ 64 < s.size - m - 1 then none else some m) := by
                rw [Nat.sub_self]; simp only [pathFrom]
              have HST := Lib.hid hst; clear hst
              by_cases hbad : s.size - m - 1 < 1 ∨ 64 < s.size - m - 1
              · have hRn : R = none := by rw [← HP.out, HST.out, if_pos hbad]
                rw [hRn]
                have hi : (s.size : Int) - (m : Int) - 1 < 1 ∨ 64 < (s.size : Int) - (m : Int) - 1 := by omega
                clear hbad HST HP HR
                rcases hi with hi | hi
                all_goals
                  go_wp2_with fail
                  go_ret2
                  exact ⟨rfl, rfl⟩
              · have hRm : R = some m := by rw [← HP.out, HST.out, if_neg hbad]
                have hi1 : ¬ (s.size : Int) - (m : Int) - 1 < 1 := by omega
                have hi2 : ¬ 64 < (s.size : Int) - (m : Int) - 1 := by omega
                have HRM := Lib.hid hRm
                clear hbad HST HP HR hRm
                go_wp2_with fail
                exact ⟨⟨m, s.size + 1, by omega, by omega, rfl, by go_num, .inr ⟨rfl, HRM.out⟩⟩, by simp [intOf]⟩
          · obtain rfl : k = s.size + 1 := hks
            by_cases hm0 : m = 0
            · subst hm0
              have hx : pathVal (Option.map (fun a => if a = 0 then [47] else List.take a s.data.toList) R) = .tuple #[.string ⟨#[47]⟩, .bool true] := by
                rw [hp]; rfl
              have HX := Lib.hid hx
              clear hp HR hx
              go_wp2_with fail
              go_ret2
              exact ⟨by rw [HX.out]; rfl, rfl⟩
            · have hm1 : ((m : Int) == 0) = false := by simp only [beq_eq_false_iff_ne, ne_eq]; omega
              have hx : pathVal (Option.map (fun a => if a = 0 then [47] else List.take a s.data.toList) R) = .tuple #[.string (s.extract 0 m), .bool true] := by
                have : (⟨(List.take m s.data.toList).toArray⟩ : ByteArray) = s.extract 0 m := by
                  apply ByteArray.ext
                  rw [ByteArray.data_extract]
                  apply Array.ext'
                  simp
                rw [hp]
                simp only [Option.map, if_neg hm0, pathVal, this]
              have HX := Lib.hid hx
              clear hp HR hx hm0
              have hms : (m : Int) ≤ (s.size : Int) := by omega
              go_wp2_with fail
              go_ret2
              exact ⟨by rw [HX.out]; rfl, rfl⟩
      · have e : pathOf (c0 :: l0) = none := by
          rw [← hl]
          unfold pathOf
          rw [if_neg h0, hl]
          simp only [if_neg hc]
        have hb1 : ((s[0].toNat : Int) == 47) = false := by
          rw [hb0]
          simp only [beq_eq_false_iff_ne, ne_eq]
          intro hh
          exact hc (UInt8.toNat_inj.mp (by simpa using (by omega : c0.toNat = 47)))
        have hb2 : ((s[0].toNat : Int) != 47) = true := by simp [bne, hb1]
        rw [e]
        clear h0 e hl hb0 hsz1
        go_enter Tryz.func67, Tryz.ntmps67
        go_wp2_with fail
        go_ret2
        exact ⟨rfl, rfl⟩
end Go.Proofs.YtdbcjiapbehacaaGreatDoor.Vf

/-! An operation's beginning: what (*clepsydraref05.FS).begin answers, and what it turns (the file system's own cells alone). -/
namespace Go.Proofs.YtdbcjiapbehacaaGreatDoor.Vf
open Go.RowKit

section
variable {w w' : World}
theorem Hold.keep {g : Nat} {t : TypeId} {cs : List Value} (h : Hold w g t cs) (e : w'.heap[g]? = w.heap[g]?) : Hold w' g t cs := e.trans h
theorem Hold.lt {g : Nat} {t : TypeId} {cs : List Value} (h : Hold w g t cs) : g < w.heap.size := by
  rcases Nat.lt_or_ge g w.heap.size with hl | hl
  · exact hl
  · unfold Hold at h; rw [Array.getElem?_eq_none hl] at h; cases h
theorem Hold.set {g : Nat} {t : TypeId} {cs : List Value} (h : Hold w g t cs) (i : Nat) (u : Value) : Hold (w.setCell ⟨g, i, none⟩ u) g t (cs.set i u) := by
  unfold Hold at h ⊢
  simp [World.setCell, Array.getElem?_modify, h]
theorem Elems.lt {t : TypeId} {s g cap n : Nat} {xs : List (List Value)} (h : Elems w t s g cap n xs) : g < w.heap.size := by
  obtain ⟨cur, hc⟩ := h.kind
  rcases Nat.lt_or_ge g w.heap.size with hl | hl
  · exact hl
  · rw [Array.getElem?_eq_none hl] at hc; cases hc
theorem Elems.keep {t : TypeId} {s g cap n : Nat} {xs : List (List Value)} (h : Elems w t s g cap n xs) (e : w'.heap[g]? = w.heap[g]?) : Elems w' t s g cap n xs :=
  ⟨h.len, h.fits, fun i k cs u hi hk => (World.cell?_of_block (a := ⟨g, i * s + k, none⟩) e).trans (h.cell i k cs u hi hk), by obtain ⟨cur, hc⟩ := h.kind; exact ⟨cur, e.trans hc⟩⟩
/-- Blocks of this type are as they were. -/
def Same (t : TypeId) (w w' : World) : Prop := ∀ (g : Nat) (cur : Array Value), w.heap[g]? = some (.cells cur t (0, 0)) → w'.heap[g]? = w.heap[g]?
theorem Reads.keep {t : TypeId} {s : Nat} {v : Value} {xs : List (List Value)} (h : Reads w t s v xs) (e : Same t w w') : Reads w' t s v xs := by
  rcases h with h | ⟨g, cap, hv, h⟩
  · exact .inl h
  · obtain ⟨cur, hc⟩ := h.kind
    exact .inr ⟨g, cap, hv, h.keep (e g cur hc)⟩
/-- A block of another type has turned alone. -/
theorem Same.of_gb {p : Nat} {t t' : TypeId} {cs : List Value} (h : w.grownBy w' (some p)) (hp : Hold w p t' cs) (hne : t ≠ t') : Same t w w' := fun g cur hg => by
  refine h.block g ?_ ?_
  · rcases Nat.lt_or_ge g w.heap.size with hl | hl
    · exact hl
    · rw [Array.getElem?_eq_none hl] at hg; cases hg
  · rintro ⟨⟩
    unfold Hold at hp
    rw [hp] at hg
    injection hg with hg; injection hg with _ h2; exact hne h2.symm
theorem gb_set {w0 : World} {g : Nat} (h : w0.grownBy w (some g)) (i : Nat) (u : Value) : w0.grownBy (w.setCell ⟨g, i, none⟩ u) (some g) :=
  ⟨h.os, h.tape, h.output, by simpa [World.setCell] using h.size, fun k hk hne => (Below.heap_setCell w ⟨g, i, none⟩ u k (by rintro rfl; exact hne rfl)).trans (h.block k hk hne)⟩
end

section
variable {w w' : World} {p gd cd : Nat} {fs : Fs} {vf : Value} {dv : List Dv}
def topCells (fs : Fs) (vf : Value) (gd cd : Nat) : List Value := [.int .i64 fs.most, vf, .slice (some ⟨gd, 0, none⟩) fs.dirs.length cd, .bool fs.down, .int .i64 fs.crash]
/-- The file system's own cells have turned alone: down, crash. -/
theorem Sees.turn (h : Sees w p fs vf gd cd dv) (down : Bool) (crash : Int) (hc : -9223372036854775808 ≤ crash ∧ crash ≤ 9223372036854775807) (hg : w.grownBy w' (some p)) (ht : Hold w' p 66 (topCells { fs with down := down, crash := crash } vf gd cd)) : Sees w' p { fs with down := down, crash := crash } vf gd cd dv := by
  have s1 := Same.of_gb (t := 109) hg h.top (by decide)
  have s2 := Same.of_gb (t := 62) hg h.top (by decide)
  have s3 := Same.of_gb (t := 111) hg h.top (by decide)
  have s4 := Same.of_gb (t := 114) hg h.top (by decide)
  refine ⟨ht, h.files.keep s1, h.many, ?_, fun i d v hd hv => ?_, hc, h.small⟩
  · obtain ⟨cur, hk⟩ := h.dirs.kind
    exact h.dirs.keep (s2 gd cur hk)
  · obtain ⟨a, b, c⟩ := h.each i d v hd hv
    exact ⟨a.keep s3, b.keep s3, c.keep s4⟩
end

def beginFs (fs : Fs) : Fs := if fs.down = true then fs else if fs.crash = 1 then { fs with down := true, crash := 0 } else { fs with down := false, crash := if 0 < fs.crash then fs.crash - 1 else fs.crash }
def beginRes (fs : Fs) (path : List UInt8) (root : Bool) : List UInt8 × Int :=
  if fs.down = true then ([], 52) else if fs.crash = 1 then ([], 52) else match pathOf path with
  | none => ([], 2)
  | some up => if up = [] ∧ root = false then ([], 2) else (up, 0)
def pairVal (x : List UInt8 × Int) : Value := .tuple #[.string ⟨x.1.toArray⟩, .int .i64 x.2]

set_option maxHeartbeats 4000000 in
theorem rbegin_any (p gd cd : Nat) (fs : Fs) (vf : Value) (dv : List Dv) (path : ByteArray) (root : Bool) (w : World) (h : Sees w p fs vf gd cd dv) (hs : path.size ≤ 4294967296) :
    Calls Tryz.prog 60 #[.pointer (some ⟨p, 0, none⟩), .string path, .bool root] w fun e w' => e = .returned (pairVal (beginRes fs path.data.toList root)) ∧ Sees w' p (beginFs fs) vf gd cd dv ∧ w.grownBy w' (some p) := by
  have hc3 : w.cell? ⟨p, 3, none⟩ = some (.bool fs.down) := by rw [h.top.cell]; rfl
  have hc4 : w.cell? ⟨p, 4, none⟩ = some (.int .i64 fs.crash) := by rw [h.top.cell]; rfl
  have hf3 := h.top.frozen 3
  have hf4 := h.top.frozen 4
  cases hd : fs.down
  case true =>
    have e1 : beginRes fs path.data.toList root = ([], 52) := by unfold beginRes; rw [if_pos hd]
    have e2 : beginFs fs = fs := by unfold beginFs; rw [if_pos hd]
    rw [hd] at hc3
    rw [e1, e2]
    clear e1 e2
    go_enter Tryz.func60, Tryz.ntmps60
    go_wp2_with fail
    go_ret2
    exact ⟨rfl, h, World.grownBy.refl _ _⟩
  case false =>
    have hnd : ¬ fs.down = true := by rw [hd]; decide
    rw [hd] at hc3
    by_cases h1 : fs.crash = 1
    · have e1 : beginRes fs path.data.toList root = ([], 52) := by unfold beginRes; rw [if_neg hnd, if_pos h1]
      have e2 : beginFs fs = { fs with down := true, crash := 0 } := by unfold beginFs; rw [if_neg hnd, if_pos h1]
      rw [h1] at hc4
      rw [e1, e2]
      clear e1 e2
      go_enter Tryz.func60, Tryz.ntmps60
      go_wp2_with fail
      go_ret2
      refine ⟨rfl, h.turn true 0 (by decide) (gb_set (gb_set (World.grownBy.refl _ _) _ _) _ _) ?_, gb_set (gb_set (World.grownBy.refl _ _) _ _) _ _⟩
      exact (h.top.set 4 _).set 3 _
    · have hlo := h.ticks.1
      have hhi := h.ticks.2
      obtain ⟨C, hC⟩ : ∃ C, (if 0 < fs.crash then fs.crash - 1 else fs.crash) = C := ⟨_, rfl⟩
      have hCb : -9223372036854775808 ≤ C ∧ C ≤ 9223372036854775807 := by rw [← hC]; split <;> omega
      have e2 : beginFs fs = { fs with down := false, crash := C } := by unfold beginFs; rw [if_neg hnd, if_neg h1, hC]
      have hun : ∀ (W : World), (W = w ∨ W = w.setCell ⟨p, 4, none⟩ (.int .i64 C)) → Hold W p 66 (topCells { fs with down := false, crash := C } vf gd cd) → Sees W p (beginFs fs) vf gd cd dv ∧ w.grownBy W (some p) := by
        intro W hW hT
        have hg : w.grownBy W (some p) := by
          rcases hW with rfl | rfl
          · exact World.grownBy.refl _ _
          · exact gb_set (World.grownBy.refl _ _) _ _
        rw [e2]
        exact ⟨h.turn false C hCb hg hT, hg⟩
      have e1 : beginRes fs path.data.toList root = (match pathOf path.data.toList with | none => ([], 2) | some up => if up = [] ∧ root = false then ([], 2) else (up, 0)) := by unfold beginRes; rw [if_neg hnd, if_neg h1]
      obtain ⟨R, hR⟩ : ∃ R, beginRes fs path.data.toList root = R := ⟨_, rfl⟩
      rw [hR]
      rw [hR] at e1
      have HR := Lib.hid e1
      have HUN := Lib.hid hun
      have hT : Hold (w.setCell ⟨p, 4, none⟩ (.int .i64 C)) p 66 (topCells { fs with down := false, crash := C } vf gd cd) := by
        have := h.top.set 4 (.int .i64 C)
        rw [hd] at this; exact this
      have hT0 : ¬ 0 < fs.crash → Hold w p 66 (topCells { fs with down := false, crash := C } vf gd cd) := by
        intro hn
        have := h.top
        rw [hd] at this
        rw [if_neg hn] at hC
        subst hC; exact this
      have HT := Lib.hid hT; have HT0 := Lib.hid hT0
      clear e1 hR e2 hun hT hT0
      by_cases hpos : 0 < fs.crash
      · rw [if_pos hpos] at hC
        have hC1 : IntKind.i64.wrap (fs.crash - 1) = C := by rw [IntKind.wrap_i64]; omega
        have hC0 : (C == 0) = false := by simp only [beq_eq_false_iff_ne, ne_eq]; omega
        have HC := Lib.hid hC
        clear hC
        go_enter Tryz.func60, Tryz.ntmps60
        go_wp2_with fail
        refine (rpath_any path _ hs).mono ?_
        rintro e w' ⟨rfl, rfl⟩
        have HB := HUN.out _ (.inr rfl) (HT.out)
        have HB' := Lib.hid HB
        clear HB HUN HT HT0
        cases hp : pathOf path.data.toList with
        | none =>
          have hr : R = ([], 2) := by rw [HR.out, hp]
          subst hr
          clear HR
          unfold pathVal
          dsimp only
          go_wp2_with fail
          go_ret2
          exact ⟨rfl, HB'.out⟩
        | some up =>
          have hr : R = if up = [] ∧ root = false then ([], 2) else (up, 0) := by rw [HR.out, hp]
          clear HR
          unfold pathVal
          dsimp only
          cases up with
          | nil =>
            cases root
            · rw [if_pos ⟨rfl, rfl⟩] at hr
              subst hr
              go_wp2_with fail
              go_ret2
              exact ⟨rfl, HB'.out⟩
            · rw [if_neg (by decide)] at hr
              subst hr
              go_wp2_with fail
              go_ret2
              exact ⟨rfl, HB'.out⟩
          | cons u l =>
            rw [if_neg (by simp)] at hr
            subst hr
            go_wp2_with fail
            go_ret2
            exact ⟨rfl, HB'.out⟩
      · have hC1 := hpos
        go_enter Tryz.func60, Tryz.ntmps60
        go_wp2_with fail
        refine (rpath_any path _ hs).mono ?_
        rintro e w' ⟨rfl, rfl⟩
        have HB := HUN.out _ (.inl rfl) (HT0.out hpos)
        have HB' := Lib.hid HB
        clear HB HUN HT HT0
        cases hp : pathOf path.data.toList with
        | none =>
          have hr : R = ([], 2) := by rw [HR.out, hp]
          subst hr
          clear HR
          unfold pathVal
          dsimp only
          go_wp2_with fail
          go_ret2
          exact ⟨rfl, HB'.out⟩
        | some up =>
          have hr : R = if up = [] ∧ root = false then ([], 2) else (up, 0) := by rw [HR.out, hp]
          clear HR
          unfold pathVal
          dsimp only
          cases up with
          | nil =>
            cases root
            · rw [if_pos ⟨rfl, rfl⟩] at hr
              subst hr
              go_wp2_with fail
              go_ret2
              exact ⟨rfl, HB'.out⟩
            · rw [if_neg (by decide)] at hr
              subst hr
              go_wp2_with fail
              go_ret2
              exact ⟨rfl, HB'.out⟩
          | cons u l =>
            rw [if_neg (by simp)] at hr
            subst hr
            go_wp2_with fail
            go_ret2
            exact ⟨rfl, HB'.out⟩
end Go.Proofs.YtdbcjiapbehacaaGreatDoor.Vf
