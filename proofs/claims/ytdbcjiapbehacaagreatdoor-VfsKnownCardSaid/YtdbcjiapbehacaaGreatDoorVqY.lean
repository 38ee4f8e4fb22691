/-
  Layer 5: VpY VpZ VqA VqB, one behind the other.
-/
import Derived.Test.YtdbcjiapbehacaaGreatDoorVqU
/-! Layer 5: paths of the two sides are the same. -/
namespace Go.Proofs.YtdbcjiapbehacaaGreatDoor.Vp
open Go.RowKit Go.Maps
open Go.Proofs.YtdbcjiapbehacaaGreatDoor.Vf (pathFrom pathOf)

/-- Is what follows right, when so many bytes of a name stand ahead? -/
def goodFrom : Nat → List UInt8 → Bool
  | m, [] => decide (1 ≤ m) && decide (m ≤ 64)
  | m, c :: l => if c = 47 then (decide (1 ≤ m) && decide (m ≤ 64)) && goodFrom 0 l else !decide (c = 0) && goodFrom (m + 1) l
/-- The last slash, the one so far at a, the next byte at k. -/
def lastFrom : Nat → Nat → List UInt8 → Nat
  | a, _, [] => a
  | a, k, c :: l => if c = 47 then lastFrom k (k + 1) l else lastFrom a (k + 1) l
theorem small_not {m : Nat} (h : m < 1 ∨ 64 < m) : (decide (1 ≤ m) && decide (m ≤ 64)) = false := by
  rcases h with h | h
  · simp; omega
  · simp; omega
theorem small_yes {m : Nat} (h : ¬ (m < 1 ∨ 64 < m)) : (decide (1 ≤ m) && decide (m ≤ 64)) = true := by
  simp; omega
theorem pathFrom_is (s : List UInt8) : ∀ (n a k : Nat) (l : List UInt8), a < k → s.drop k = l → l.length = n → pathFrom s n a k = if goodFrom (k - a - 1) l = true then some (lastFrom a k l) else none
  | 0, a, k, l, _, _, hl => by
    obtain rfl : l = [] := List.length_eq_zero_iff.1 hl
    unfold pathFrom goodFrom lastFrom
    by_cases h : k - a - 1 < 1 ∨ 64 < k - a - 1
    · rw [if_pos h, small_not h]; rfl
    · rw [if_neg h, small_yes h]; rfl
  | n + 1, a, k, l, hak, hd, hl => by
    cases l with
    | nil => simp at hl
    | cons c t =>
      have hk : k < s.length := by
        rcases Nat.lt_or_ge k s.length with h | h
        · exact h
        · rw [List.drop_eq_nil_of_le h] at hd; cases hd
      have hd2 := hd
      rw [List.drop_eq_getElem_cons hk] at hd2
      injection hd2 with h1 h2
      have hc : s.getD k 0 = c := by rw [List.getD_eq_getElem?_getD, List.getElem?_eq_getElem hk, h1]; rfl
      have hl2 : t.length = n := by simpa using hl
      unfold pathFrom
      dsimp only
      rw [hc]
      by_cases h47 : c = 47
      · subst h47
        rw [if_pos rfl, pathFrom_is s n k (k + 1) t (by omega) h2 hl2]
        have e0 : k + 1 - k - 1 = 0 := by omega
        rw [e0]
        have eg : goodFrom (k - a - 1) (47 :: t) = ((decide (1 ≤ k - a - 1) && decide (k - a - 1 ≤ 64)) && goodFrom 0 t) := by rw [goodFrom, if_pos rfl]
        have el : lastFrom a k (47 :: t) = lastFrom k (k + 1) t := by rw [lastFrom, if_pos rfl]
        rw [eg, el]
        by_cases h : k - a - 1 < 1 ∨ 64 < k - a - 1
        · rw [if_pos h, small_not h]; rfl
        · rw [if_neg h, small_yes h, Bool.true_and]
      · have eg : goodFrom (k - a - 1) (c :: t) = (!decide (c = 0) && goodFrom (k - a - 1 + 1) t) := by rw [goodFrom, if_neg h47]
        have el : lastFrom a k (c :: t) = lastFrom a (k + 1) t := by rw [lastFrom, if_neg h47]
        rw [if_neg h47, eg, el]
        by_cases h0 : c = 0
        · subst h0; rw [if_pos rfl]; rfl
        · rw [if_neg h0, pathFrom_is s n a (k + 1) t (by omega) h2 hl2]
          have e : k + 1 - a - 1 = k - a - 1 + 1 := by omega
          have e2 : (!decide (c = 0)) = true := by simp [h0]
          rw [e, e2, Bool.true_and]
theorem goodFrom_is : ∀ (m : Nat) (l : List UInt8) (x : List UInt8) (xs : List (List UInt8)), pieces l = x :: xs → goodFrom m l = (((decide (1 ≤ m + x.length) && decide (m + x.length ≤ 64)) && !x.contains 0) && xs.all goodName)
  | m, [], x, xs, h => by
    unfold pieces at h
    injection h with h1 h2
    subst h1; subst h2
    unfold goodFrom
    simp
  | m, c :: l, x, xs, h => by
    obtain ⟨y, ys, hy⟩ := pieces_ne l
    by_cases h47 : c = 47
    · subst h47
      rw [pieces, if_pos rfl, hy] at h
      injection h with h1 h2
      subst h1; subst h2
      rw [goodFrom, if_pos rfl, goodFrom_is 0 l y ys hy]
      have e : List.all (y :: ys) goodName = (goodName y && ys.all goodName) := rfl
      rw [e]
      unfold goodName
      simp
    · rw [pieces, if_neg h47, hy] at h
      injection h with h1 h2
      subst h1; subst h2
      rw [goodFrom, if_neg h47, goodFrom_is (m + 1) l y ys hy]
      have e1 : m + (c :: y).length = m + 1 + y.length := by rw [List.length_cons]; omega
      have e2 : (c :: y).contains 0 = (decide (c = 0) || y.contains 0) := by
        rw [List.contains_cons]
        congr 1
        by_cases h0 : c = 0
        · subst h0; simp
        · have : ¬ (0 : UInt8) = c := fun e => h0 e.symm
          simp [h0, this]
      rw [e1, e2]
      cases decide (c = 0) <;> simp
theorem good_is (l : List UInt8) : goodFrom 0 l = (pieces l).all goodName := by
  obtain ⟨x, xs, hx⟩ := pieces_ne l
  rw [goodFrom_is 0 l x xs hx, hx]
  show _ = (goodName x && xs.all goodName)
  unfold goodName
  rw [Nat.zero_add]
/-- Where the last slash stands: none behind it. -/
theorem lastFrom_is (s : List UInt8) : ∀ (l : List UInt8) (a k : Nat), a < k → s.drop k = l → s[a]? = some 47 → (∀ j, a < j → j < k → s[j]? ≠ some 47) → a ≤ lastFrom a k l ∧ s[lastFrom a k l]? = some 47 ∧ ∀ j, lastFrom a k l < j → s[j]? ≠ some 47
  | [], a, k, hak, hd, ha, hb => by
    refine ⟨Nat.le_refl _, ha, fun j hj => ?_⟩
    have hj2 : a < j := hj
    rcases Nat.lt_or_ge j k with h | h
    · exact hb j hj2 h
    · have hlen : s.length ≤ k := List.drop_eq_nil_iff.1 hd
      rw [List.getElem?_eq_none (by omega)]; simp
  | c :: t, a, k, hak, hd, ha, hb => by
    have hk : k < s.length := by
      rcases Nat.lt_or_ge k s.length with h | h
      · exact h
      · rw [List.drop_eq_nil_of_le h] at hd; cases hd
    have hd2 := hd
    rw [List.drop_eq_getElem_cons hk] at hd2
    injection hd2 with h1 h2
    have hsk : s[k]? = some c := by rw [List.getElem?_eq_getElem hk, h1]
    by_cases h47 : c = 47
    · subst h47
      rw [lastFrom, if_pos rfl]
      obtain ⟨a1, a2, a3⟩ := lastFrom_is s t k (k + 1) (by omega) h2 hsk (fun j h3 h4 => by omega)
      exact ⟨by omega, a2, a3⟩
    · rw [lastFrom, if_neg h47]
      refine lastFrom_is s t a (k + 1) (by omega) h2 ha fun j h3 h4 => ?_
      rcases Nat.lt_or_ge j k with h | h
      · exact hb j h3 h
      · obtain rfl : j = k := by omega
        rw [hsk]
        exact fun e => h47 (by injection e)
theorem last_cut {path : ByteArray} {r : Nat} (h1 : path.data.toList[r]? = some 47) (h2 : ∀ j, r < j → path.data.toList[j]? ≠ some 47) : cutOf path = r := by
  have hat : ∀ (j : Nat) (hj : j < path.data.size), path.data.toList[j]? = some path.data[j] := fun j hj => by rw [Array.getElem?_toList, Array.getElem?_eq_getElem hj]
  have hr : r < path.data.size := by
    rcases Nat.lt_or_ge r path.data.size with h | h
    · exact h
    · rw [List.getElem?_eq_none (by rw [Array.length_toList]; exact h)] at h1; cases h1
  unfold cutOf
  rcases Lib.lastIndexByte_spec path 47 with ⟨_, hn⟩ | ⟨i, hi, he, hc, hrest⟩
  · have h3 := hn r hr
    rw [getElem!_pos path.data r hr] at h3
    rw [hat r hr] at h1
    injection h1 with h1
    rw [h1] at h3
    exact absurd rfl h3
  · rw [he]
    have hi2 : i < path.data.size := hi
    have h47 : path.data.toList[i]? = some 47 := by
      rw [hat i hi2]
      rw [getElem!_pos path.data i hi2] at hc
      congr 1
      exact UInt8.toNat_inj.1 (by have h9 : ((path.data[i].toNat : Nat) : Int) = 47 := hc; show path.data[i].toNat = 47; omega)
    rcases Nat.lt_trichotomy i r with h | h | h
    · have h3 := hrest r h hr
      rw [getElem!_pos path.data r hr] at h3
      rw [hat r hr] at h1
      injection h1 with h1
      rw [h1] at h3
      exact absurd rfl h3
    · subst h; simp
    · exact absurd h47 (h2 i h)
/-- The path above, on both sides. -/
theorem path_yes {path : ByteArray} (h : hasName path.data.toList = true) : pathOf path.data.toList = some (plcOf path).d.data.toList := by
  obtain ⟨L, hL⟩ : ∃ L, path.data.toList = L := ⟨_, rfl⟩
  have hLh := h
  rw [hL] at hLh
  cases L with
  | nil => simp [hasName] at hLh
  | cons c l =>
    have h1 : (decide (c = 47) && (pieces l).all goodName) = true := hLh
    rw [Bool.and_eq_true, decide_eq_true_eq] at h1
    obtain ⟨rfl, hg⟩ := h1
    have hne : ¬ (47 :: l = [47]) := by
      intro e
      injection e with _ e
      subst e
      simp [pieces, goodName] at hg
    have hf := pathFrom_is (47 :: l) l.length 0 1 l (by omega) rfl rfl
    have e0 : 1 - 0 - 1 = 0 := rfl
    rw [e0, good_is, hg, if_pos rfl] at hf
    obtain ⟨_, a2, a3⟩ := lastFrom_is (47 :: l) l 0 1 (by omega) rfl rfl (fun j h3 h4 => by omega)
    obtain ⟨r, hr⟩ : ∃ r, lastFrom 0 1 l = r := ⟨_, rfl⟩
    rw [hr] at hf a2 a3
    have hcut : cutOf path = r := last_cut (by rw [hL]; exact a2) (by rw [hL]; exact a3)
    have hd : (plcOf path).d.data.toList = (47 :: l).take (max r 1) := by
      show (path.extract 0 (max (cutOf path) 1)).data.toList = _
      rw [Lib.extract_data, hL, hcut]; rfl
    rw [hL, hd]
    unfold pathOf
    rw [if_neg hne]
    dsimp only
    rw [if_pos rfl]
    have el : (47 :: l).length - 1 = l.length := by simp
    rw [el, hf]
    show some (if r = 0 then [47] else (47 :: l).take r) = _
    by_cases hr0 : r = 0
    · rw [if_pos hr0, hr0]; rfl
    · rw [if_neg hr0, Nat.max_eq_left (by omega)]
theorem path_no {L : List UInt8} (h : hasName L = false) (hne : L ≠ [47]) : pathOf L = none := by
  unfold pathOf
  rw [if_neg hne]
  cases L with
  | nil => rfl
  | cons c l =>
    dsimp only
    by_cases hc : c = 47
    · subst hc
      rw [if_pos rfl]
      have hf := pathFrom_is (47 :: l) l.length 0 1 l (by omega) rfl rfl
      have e0 : 1 - 0 - 1 = 0 := rfl
      have hg : (pieces l).all goodName = false := by
        have h1 : (decide ((47 : UInt8) = 47) && (pieces l).all goodName) = false := h
        simpa using h1
      rw [e0, good_is, hg] at hf
      have el : (47 :: l).length - 1 = l.length := by simp
      rw [el, hf]; rfl
    · rw [if_neg hc]
theorem path_root : pathOf [47] = some [] := by unfold pathOf; rw [if_pos rfl]
theorem root_none : hasName rootB.data.toList = false := by decide
/-- What the beginning of a call answers on the document's side. -/
theorem doc_begin (fs : Vf.Fs) (path : ByteArray) (root : Bool) : (Vf.beginRes fs path.data.toList root).2 = if fs.down = true ∨ fs.crash = 1 then 52 else if (if root = true then isPath path.data.toList else hasName path.data.toList) = true then 0 else 2 := by
  unfold Vf.beginRes
  by_cases h1 : fs.down = true
  · rw [if_pos h1, if_pos (.inl h1)]
  · rw [if_neg h1]
    by_cases h2 : fs.crash = 1
    · rw [if_pos h2, if_pos (.inr h2)]
    · rw [if_neg h2, if_neg (fun e => e.elim h1 h2)]
      cases hn : hasName path.data.toList with
      | true =>
        rw [path_yes hn]
        have hne : ¬ ((plcOf path).d.data.toList = [] ∧ root = false) := by
          rintro ⟨e, _⟩
          have hs := good_slashed hn
          have hl : (plcOf path).d.data.toList = path.data.toList.take (max (cutOf path) 1) := by
            show (path.extract 0 (max (cutOf path) 1)).data.toList = _
            rw [Lib.extract_data]; rfl
          rw [hl] at e
          have h3 := congrArg List.length e
          rw [List.length_take] at h3
          have h4 : path.size = path.data.toList.length := Lib.size_eq path
          have := hs.1
          simp only [List.length_nil] at h3
          omega
        dsimp only
        rw [if_neg hne]
        have : (if root = true then isPath path.data.toList else true) = true := by
          split
          · unfold isPath; rw [hn]; simp
          · rfl
        rw [this]; rfl
      | false =>
        by_cases hr : path.data.toList = [47]
        · rw [hr, path_root]
          dsimp only
          cases root with
          | true =>
            rw [if_neg (by simp)]
            have : isPath [47] = true := by decide
            rw [if_pos rfl, this]; rfl
          | false => rw [if_pos ⟨rfl, rfl⟩]; rfl
        · rw [path_no hn hr]
          dsimp only
          have : (if root = true then isPath path.data.toList else false) = false := by
            split
            · unfold isPath; rw [hn]; simp [hr]
            · rfl
          rw [this]; rfl
end Go.Proofs.YtdbcjiapbehacaaGreatDoor.Vp

/-! Layer 5: the program's file system and the document's say the same: what links them, told plainly. -/
namespace Go.Proofs.YtdbcjiapbehacaaGreatDoor.Vp
open Go.RowKit Go.Maps
open Go.Proofs.YtdbcjiapbehacaaGreatDoor.Vf (pathOf)

/-! ### Finding on the document's side -/
theorem firstIx_out {α : Type} {q : α → Bool} : ∀ {l : List α}, ¬ (Vf.firstIx q l < l.length) → ∀ x ∈ l, q x = false
  | [], _, _, h => by cases h
  | a :: l, h, x, hx => by
    unfold Vf.firstIx at h
    cases hq : q a with
    | true => rw [hq, if_pos rfl] at h; simp at h
    | false =>
      rw [hq, if_neg (by simp)] at h
      rcases List.mem_cons.1 hx with rfl | hx
      · exact hq
      · exact firstIx_out (by rw [List.length_cons] at h; omega) x hx
theorem find_at {path : ByteArray} : ∀ {ds : List Vf.Dr} {i k : Nat}, Vf.findIn path ds = some (i, k) → ∃ d x, ds[i]? = some d ∧ d.names[k]? = some x ∧ Vf.isAt path x = true
  | [], _, _, h => by cases h
  | d :: ds, i, k, h => by
    unfold Vf.findIn at h
    split at h
    · rename_i hlt
      injection h with h
      injection h with h1 h2
      subst h1; subst h2
      exact ⟨d, d.names[Vf.firstIx (Vf.isAt path) d.names], rfl, List.getElem?_eq_getElem hlt, Vf.firstIx_sat hlt _ (List.getElem?_eq_getElem hlt)⟩
    · cases hf : Vf.findIn path ds with
      | none => rw [hf] at h; cases h
      | some x =>
        rw [hf] at h
        injection h with h
        injection h with h1 h2
        subst h1; subst h2
        obtain ⟨d', x', a, b, c⟩ := find_at (i := x.1) (k := x.2) hf
        exact ⟨d', x', by simpa using a, b, c⟩
theorem find_out {path : ByteArray} : ∀ {ds : List Vf.Dr}, Vf.findIn path ds = none → ∀ d ∈ ds, ∀ x ∈ d.names, Vf.isAt path x = false
  | [], _, _, h => by cases h
  | e :: ds, h, d, hd => by
    unfold Vf.findIn at h
    split at h
    · cases h
    · rename_i hlt
      rcases List.mem_cons.1 hd with rfl | hd
      · exact firstIx_out hlt
      · exact find_out (Option.map_eq_none_iff.1 h) d hd
theorem bytes_eq {a b : ByteArray} : a.toList = b.toList ↔ a = b := by
  rw [Lib.toList_data, Lib.toList_data]
  exact ⟨fun h => ByteArray.ext (Array.ext' h), fun h => by rw [h]⟩
theorem isAt_eq (path : ByteArray) (x : Vf.Nm) : Vf.isAt path x = decide (x.p = path) := by
  unfold Vf.isAt
  by_cases h : x.p = path
  · rw [h]; simp
  · have : ¬ x.p.toList = path.toList := fun e => h (bytes_eq.1 e)
    simp [h, this]
theorem dirAt_some {fs : Vf.Fs} {path : ByteArray} (h : ∃ d ∈ fs.dirs, d.p = path) : ∃ (i : Nat) (d : Vf.Dr), Vf.dirAt fs path = i ∧ fs.dirs[i]? = some d ∧ d.p = path := by
  obtain ⟨d, hd, he⟩ := h
  have hlt : Vf.firstIx (fun d : Vf.Dr => d.p.toList == path.toList) fs.dirs < fs.dirs.length := by
    refine Decidable.byContradiction fun hn => ?_
    have := firstIx_out hn d hd
    rw [he] at this; simp at this
  refine ⟨_, fs.dirs[Vf.firstIx (fun d : Vf.Dr => d.p.toList == path.toList) fs.dirs], by unfold Vf.dirAt; rw [if_pos hlt], List.getElem?_eq_getElem hlt, ?_⟩
  have := Vf.firstIx_sat hlt _ (List.getElem?_eq_getElem hlt)
  exact bytes_eq.1 (by simpa using this)
theorem dirAt_none {fs : Vf.Fs} {path : ByteArray} (h : ∀ d ∈ fs.dirs, d.p ≠ path) : Vf.dirAt fs path = -1 :=
  Vf.dirAt_no fun j x hx => by
    have h1 := h x (List.mem_of_getElem? hx)
    have : ¬ x.p.toList = path.toList := fun e => h1 (bytes_eq.1 e)
    simp [this]

/-! ### Names -/
def toN (q : Plc × Nat) : Vf.Nm := ⟨pathOfP q.1, q.2 - 1⟩
/-- A directory's names. -/
def nmD (dir : ByteArray) (m : List (Plc × Nat)) : List Vf.Nm := (m.filter (inDir dir)).map toN
def goneP (dir n : ByteArray) : ByteArray := if n = ⟨#[]⟩ then ⟨#[]⟩ else pathOfP ⟨dir, n⟩
/-- A step, as the document has it. -/
def stP (dir : ByteArray) (x : Stp) : Vf.St := match x.file with
  | none => ⟨pathOfP ⟨dir, x.gone⟩, -1, ⟨#[]⟩⟩
  | some i => ⟨pathOfP ⟨dir, x.name⟩, (i : Int) - 1, goneP dir x.gone⟩
structure StOk (dir : ByteArray) (x : Stp) : Prop where
  name : ∀ i, x.file = some i → Canon ⟨dir, x.name⟩ ∧ 1 ≤ i
  gone : x.gone = ⟨#[]⟩ ∨ Canon ⟨dir, x.gone⟩
  none : x.file = none → Canon ⟨dir, x.gone⟩
structure NsOk (m : List (Plc × Nat)) : Prop where
  canon : ∀ q ∈ m, Canon q.1
  one : ∀ q ∈ m, 1 ≤ q.2
  apart : m.Pairwise fun p q => p.1 ≠ q.1
theorem path_full (x : Plc) : pathOfP x ≠ ⟨#[]⟩ := by
  intro e
  have h := congrArg ByteArray.size e
  unfold pathOfP at h
  rw [ByteArray.size_append, ByteArray.size_append] at h
  have h1 : rootB.size = 1 := rfl
  have h2 : (⟨#[]⟩ : ByteArray).size = 0 := rfl
  omega
theorem canon_full {x : Plc} (h : Canon x) : x.n ≠ ⟨#[]⟩ := by
  intro e
  have hn := h
  obtain ⟨_, path, hp, rfl⟩ := hn
  have hs := good_slashed hp
  have hcut := hs.cut
  have hpl : (plcOf path).n.data.toList = path.data.toList.drop (cutOf path + 1) := by
    show (path.extract (cutOf path + 1) path.size).data.toList = _
    rw [Lib.extract_data, List.take_of_length_le]
    rw [List.length_drop, ← Lib.size_eq]; omega
  rw [e] at hpl
  have hb := path_back hp
  have hlast : path.data.toList = path.data.toList.take (cutOf path) ++ 47 :: [] := by
    have hlt : cutOf path < path.data.toList.length := by rw [← Lib.size_eq]; exact hcut.2
    have h47 : path.data.toList[cutOf path]? = some 47 := by
      rcases Lib.lastIndexByte_spec path 47 with ⟨he, _⟩ | ⟨i, hi, he, hc, _⟩
      · rw [hcut.1] at he; omega
      · have hic : cutOf path = i := by have := hcut.1; omega
        rw [hic, Array.getElem?_toList, Array.getElem?_eq_getElem hi]
        rw [getElem!_pos path.data i hi] at hc
        congr 1
        exact UInt8.toNat_inj.1 (by have h9 : ((path.data[i].toNat : Nat) : Int) = 47 := hc; show path.data[i].toNat = 47; omega)
    have e1 := (List.take_append_drop (cutOf path) path.data.toList).symm
    have e2 : path.data.toList.drop (cutOf path) = 47 :: path.data.toList.drop (cutOf path + 1) := by
      rw [List.drop_eq_getElem_cons hlt]
      rw [List.getElem?_eq_getElem hlt] at h47
      injection h47 with h47; rw [h47]
    rw [e2, ← hpl] at e1
    exact e1
  rw [hlast] at hp
  cases hu : path.data.toList.take (cutOf path) with
  | nil => rw [hu] at hp; simp [hasName, pieces, goodName] at hp
  | cons c u =>
    rw [hu] at hp
    have h1 : (decide (c = 47) && (pieces (u ++ 47 :: [])).all goodName) = true := hp
    rw [Bool.and_eq_true] at h1
    have h2 := List.mem_of_mem_tail (pieces_last (t := []) (by simp) u)
    have h3 := List.all_eq_true.1 h1.2 [] h2
    simp [goodName] at h3
theorem stays_eq {q : Plc × Nat} (X : Vf.St) : Vf.stays X (toN q) = (decide (pathOfP q.1 ≠ X.p) && decide (pathOfP q.1 ≠ X.g)) := by
  have key : ∀ a b : ByteArray, (a.toList != b.toList) = decide (a ≠ b) := fun a b => by
    by_cases h : a = b
    · subst h; simp
    · have : ¬ a.toList = b.toList := fun e => h (bytes_eq.1 e)
      simp [h, this]
  unfold Vf.stays
  rw [key, key]; rfl
theorem filter_link {dir : ByteArray} {m : List (Plc × Nat)} {f : Vf.Nm → Bool} {g : Plc × Nat → Bool} (h : ∀ q ∈ m, q.1.d = dir → f (toN q) = g q) : (nmD dir m).filter f = nmD dir (m.filter g) := by
  unfold nmD
  rw [List.filter_map, List.filter_filter, List.filter_filter]
  congr 1
  refine List.filter_congr fun q hq => ?_
  unfold inDir
  by_cases hd : q.1.d = dir
  · have e := h q hq hd
    simp [hd]
    exact e
  · simp [hd]
theorem nmD_perm {dir : ByteArray} {m m' : List (Plc × Nat)} (h : m.Perm m') : (nmD dir m).Perm (nmD dir m') := (h.filter _).map _
theorem nmD_cons (dir : ByteArray) (q : Plc × Nat) (m : List (Plc × Nat)) : nmD dir (q :: m) = if q.1.d = dir then toN q :: nmD dir m else nmD dir m := by
  unfold nmD
  rw [List.filter_cons]
  unfold inDir
  by_cases h : q.1.d = dir <;> simp [h]
theorem mem_nmD {dir : ByteArray} {m : List (Plc × Nat)} {x : Vf.Nm} (h : x ∈ nmD dir m) : ∃ q ∈ m, q.1.d = dir ∧ x = toN q := by
  unfold nmD at h
  obtain ⟨q, hq, rfl⟩ := List.mem_map.1 h
  obtain ⟨h1, h2⟩ := List.mem_filter.1 hq
  unfold inDir at h2
  exact ⟨q, h1, by simpa using h2, rfl⟩
theorem nmD_mem {dir : ByteArray} {m : List (Plc × Nat)} {q : Plc × Nat} (h : q ∈ m) (hd : q.1.d = dir) : toN q ∈ nmD dir m := by
  unfold nmD
  exact List.mem_map.2 ⟨q, List.mem_filter.2 ⟨h, by unfold inDir; simpa using hd⟩, rfl⟩
theorem NsOk.strike {m : List (Plc × Nat)} (h : NsOk m) (a : Plc) : NsOk (strike m a) := ⟨fun q hq => h.canon q (mem_strike.1 hq).1, fun q hq => h.one q (mem_strike.1 hq).1, strike_apart h.apart a⟩
theorem NsOk.store {m : List (Plc × Nat)} (h : NsOk m) {a : Plc} (ha : Canon a) {i : Nat} (hi : 1 ≤ i) : NsOk (store m a i) := by
  refine ⟨fun q hq => ?_, fun q hq => ?_, store_apart h.apart a i⟩
  · rcases List.mem_cons.1 hq with rfl | hq
    · exact ha
    · exact h.canon q (mem_strike.1 hq).1
  · rcases List.mem_cons.1 hq with rfl | hq
    · exact hi
    · exact h.one q (mem_strike.1 hq).1
theorem NsOk.take {m : List (Plc × Nat)} {dir : ByteArray} {x : Stp} (h : NsOk m) (hx : StOk dir x) : NsOk (takeS m dir x) := by
  unfold takeS
  cases hf : x.file with
  | none => exact h.strike _
  | some i => exact (h.strike _).store (hx.name i hf).1 (hx.name i hf).2
/-- A step, on both sides. -/
theorem take_link {dir : ByteArray} {x : Stp} {m : List (Plc × Nat)} {l : List Vf.Nm} (hm : NsOk m) (hx : StOk dir x) (hl : l.Perm (nmD dir m)) : (Vf.takenOf l (stP dir x)).Perm (nmD dir (takeS m dir x)) := by
  have hne : ∀ q ∈ m, ∀ a : Plc, Canon a → (pathOfP q.1 ≠ pathOfP a ↔ q.1 ≠ a) := fun q hq a ha => ⟨fun h e => h (by rw [e]), fun h e => h ((hm.canon q hq).inj ha e)⟩
  unfold Vf.takenOf takeS stP
  cases hf : x.file with
  | none =>
    have ha := hx.none hf
    dsimp only
    rw [if_neg (by decide), List.append_nil]
    refine (hl.filter _).trans (.of_eq ?_)
    unfold strike
    refine filter_link fun q hq _ => ?_
    rw [stays_eq]
    have h1 := hne q hq _ ha
    have h2 := path_full q.1
    by_cases e : q.1 = ⟨dir, x.gone⟩
    · simp [e]
    · simp [e, h1.2 e, h2]
  | some i =>
    obtain ⟨hb, hi⟩ := hx.name i hf
    dsimp only
    rw [if_pos (by omega)]
    have e1 : (⟨pathOfP ⟨dir, x.name⟩, ((i : Int) - 1).toNat⟩ : Vf.Nm) = toN (⟨dir, x.name⟩, i) := by
      unfold toN
      congr 1
      omega
    rw [e1]
    unfold store
    rw [nmD_cons, if_pos rfl]
    refine List.perm_append_comm.trans (List.Perm.cons _ ?_)
    refine (hl.filter _).trans (.of_eq ?_)
    unfold strike
    rw [List.filter_filter]
    refine filter_link fun q hq hd => ?_
    rw [stays_eq]
    have h1 := hne q hq _ hb
    have h2 := path_full q.1
    have h3 : (pathOfP q.1 ≠ goneP dir x.gone ↔ q.1 ≠ ⟨dir, x.gone⟩) := by
      unfold goneP
      by_cases hg : x.gone = ⟨#[]⟩
      · rw [if_pos hg]
        refine ⟨fun _ e => ?_, fun _ => h2⟩
        have := canon_full (hm.canon q hq)
        rw [e] at this
        exact this hg
      · rw [if_neg hg]
        exact hne q hq _ (hx.gone.resolve_left hg)
    show (decide (pathOfP q.1 ≠ pathOfP ⟨dir, x.name⟩) && decide (pathOfP q.1 ≠ goneP dir x.gone)) = _
    have d1 : decide (pathOfP q.1 ≠ pathOfP ⟨dir, x.name⟩) = decide (q.1 ≠ ⟨dir, x.name⟩) := decide_eq_decide.2 h1
    have d3 : decide (pathOfP q.1 ≠ goneP dir x.gone) = decide (q.1 ≠ ⟨dir, x.gone⟩) := decide_eq_decide.2 h3
    rw [d1, d3]
    by_cases ea : q.1 = ⟨dir, x.gone⟩ <;> by_cases eb : q.1 = ⟨dir, x.name⟩ <;> simp [ea, eb]
theorem take_far {dir e : ByteArray} {x : Stp} {m : List (Plc × Nat)} (h : e ≠ dir) : nmD e (takeS m dir x) = nmD e m := by
  have key : ∀ (m : List (Plc × Nat)) (n : ByteArray), nmD e (strike m ⟨dir, n⟩) = nmD e m := fun m n => by
    unfold nmD strike
    rw [List.filter_filter]
    congr 1
    refine List.filter_congr fun q hq => ?_
    unfold inDir
    by_cases hd : q.1.d = e
    · have : q.1 ≠ ⟨dir, n⟩ := fun hc => h (by rw [← hd, hc])
      simp [hd, this]
    · simp [hd]
  unfold takeS
  cases x.file with
  | none => exact key m _
  | some i =>
    dsimp only
    unfold store
    rw [nmD_cons, if_neg (fun hc => h hc.symm), key, key]
theorem takeAll_link {dir : ByteArray} : ∀ {xs : List Stp} {m : List (Plc × Nat)} {l : List Vf.Nm}, (∀ x ∈ xs, StOk dir x) → NsOk m → l.Perm (nmD dir m) → ((xs.map (stP dir)).foldl Vf.takenOf l).Perm (nmD dir (takeAll m dir xs)) ∧ NsOk (takeAll m dir xs) ∧ ∀ e, e ≠ dir → nmD e (takeAll m dir xs) = nmD e m
  | [], _, _, _, hm, hl => ⟨hl, hm, fun _ _ => rfl⟩
  | x :: xs, m, l, hx, hm, hl => by
    have h1 := hx x (List.mem_cons_self ..)
    obtain ⟨a, b, c⟩ := takeAll_link (xs := xs) (fun y hy => hx y (List.mem_cons_of_mem _ hy)) (hm.take h1) (take_link hm h1 hl)
    exact ⟨a, b, fun e he => (c e he).trans (take_far he)⟩
end Go.Proofs.YtdbcjiapbehacaaGreatDoor.Vp

/-! Layer 5: what links the two sides, and what follows from it. -/
namespace Go.Proofs.YtdbcjiapbehacaaGreatDoor.Vp
open Go.RowKit Go.Maps
open Go.Proofs.YtdbcjiapbehacaaGreatDoor.Vf (pathOf)

structure Link (s : Pf) (fs : Vf.Fs) : Prop where
  room : fs.most = s.room
  down : fs.down = s.down
  crash : s.down = false → fs.crash = s.left
  pos : 0 ≤ s.left
  made : fs.files.length = s.made
  files : ∀ f x, fs.files[f]? = some x → s.files (f + 1) = ⟨x.b, x.d⟩
  dirs : (fs.dirs.map (·.p)).Perm (s.waits.map (·.1))
  names : NsOk s.names
  dur : NsOk s.dur
  steps : ∀ x ∈ s.waits, ∀ st ∈ x.2, StOk x.1 st
  each : ∀ d ∈ fs.dirs, d.names.Perm (nmD d.p s.names) ∧ d.dur.Perm (nmD d.p s.dur) ∧ d.waits = (waitsOf s d.p).map (stP d.p)
  apart : WApart s
section
variable {s : Pf} {fs : Vf.Fs} {path : ByteArray}
theorem isDir_mem {path : ByteArray} : isDirS s path = true ↔ path ∈ s.waits.map (·.1) := by
  unfold isDirS
  cases h : look s.waits path with
  | none =>
    have h1 := look_none.1 h
    constructor
    · intro e; cases e
    · intro e
      obtain ⟨p, hp, rfl⟩ := List.mem_map.1 e
      exact absurd rfl (h1 p hp)
  | some xs => exact ⟨fun _ => List.mem_map.2 ⟨_, look_mem h, rfl⟩, fun _ => rfl⟩
theorem Link.nodup (h : Link s fs) : (fs.dirs.map (·.p)).Nodup := by
  refine h.dirs.nodup_iff.2 ?_
  unfold List.Nodup
  rw [List.pairwise_map]
  exact h.apart
theorem Link.uniq (h : Link s fs) {i j : Nat} {a b : Vf.Dr} (ha : fs.dirs[i]? = some a) (hb : fs.dirs[j]? = some b) (e : a.p = b.p) : i = j := by
  have h1 := h.nodup
  have hi : (fs.dirs.map (·.p))[i]? = some a.p := by rw [List.getElem?_map, ha]; rfl
  have hj : (fs.dirs.map (·.p))[j]? = some b.p := by rw [List.getElem?_map, hb]; rfl
  rw [← e] at hj
  have hli := Vf.lt_of_get hi
  exact (List.getElem?_inj hli h1).1 (hi.trans hj.symm)
theorem Link.isDir (h : Link s fs) : isDirS s path = true ↔ ∃ d ∈ fs.dirs, d.p = path := by
  rw [isDir_mem, ← h.dirs.mem_iff, List.mem_map]
theorem Link.dir_yes (h : Link s fs) (hd : isDirS s path = true) : ∃ (i : Nat) (d : Vf.Dr), Vf.dirAt fs path = i ∧ fs.dirs[i]? = some d ∧ d.p = path := dirAt_some (h.isDir.1 hd)
theorem Link.dir_no (h : Link s fs) (hd : isDirS s path = false) : Vf.dirAt fs path = -1 := dirAt_none fun d hm e => by
  rw [h.isDir.2 ⟨d, hm, e⟩] at hd; cases hd
theorem Link.dir_neg (h : Link s fs) : (Vf.dirAt fs path < 0) = (isDirS s path = false) := by
  cases hd : isDirS s path with
  | true =>
    obtain ⟨i, d, e, _⟩ := h.dir_yes hd
    rw [e]; simp
  | false => rw [h.dir_no hd]; simp
theorem Link.dir_pos (h : Link s fs) : (0 ≤ Vf.dirAt fs path) = (isDirS s path = true) := by
  cases hd : isDirS s path with
  | true =>
    obtain ⟨i, d, e, _⟩ := h.dir_yes hd
    rw [e]; simp
  | false => rw [h.dir_no hd]; simp
/-- A file's name on both sides. -/
theorem Link.find_no (h : Link s fs) (ho : okS path) (hn : hasName path.data.toList = true) (hf : fileOf s path = none) : Vf.findIn path fs.dirs = none :=
  Vf.find_no fun i d hd j x hx => by
    rw [isAt_eq, decide_eq_false_iff_not]
    intro e
    have h1 := ((h.each d (List.mem_of_getElem? hd)).1.mem_iff).1 (List.mem_of_getElem? hx)
    obtain ⟨q, hq, _, rfl⟩ := mem_nmD h1
    have h2 : q.1 = plcOf path := (h.names.canon q hq).inj (canon_plc ho hn) (by rw [path_back hn]; exact e)
    have h3 : look s.names (plcOf path) = some q.2 := look_of_mem h.names.apart (by rw [← h2]; exact hq)
    unfold fileOf at hf
    rw [hf] at h3; cases h3
theorem Link.find_yes (h : Link s fs) (hi : Inv s) (ho : okS path) (hn : hasName path.data.toList = true) {i : Nat} (hf : fileOf s path = some i) : ∃ k j d x, Vf.findIn path fs.dirs = some (k, j) ∧ fs.dirs[k]? = some d ∧ d.names[j]? = some x ∧ x.f + 1 = i ∧ d.p = (plcOf path).d ∧ 1 ≤ i ∧ i ≤ s.made := by
  have hf2 : look s.names (plcOf path) = some i := hf
  have hmem := look_mem hf2
  have h1 := h.names.one _ hmem
  cases hfi : Vf.findIn path fs.dirs with
  | none =>
    obtain ⟨d, hd, he⟩ := h.isDir.1 (hi.dirsN hf2)
    have h2 := ((h.each d hd).1.mem_iff).2 (nmD_mem hmem he.symm)
    have h3 := find_out hfi d hd _ h2
    rw [isAt_eq, decide_eq_false_iff_not] at h3
    exact absurd (path_back hn) h3
  | some x =>
    obtain ⟨k, j⟩ := x
    obtain ⟨d, x, hd, hx, ha⟩ := find_at hfi
    rw [isAt_eq, decide_eq_true_eq] at ha
    have h4 := ((h.each d (List.mem_of_getElem? hd)).1.mem_iff).1 (List.mem_of_getElem? hx)
    obtain ⟨q, hq, hqd, rfl⟩ := mem_nmD h4
    have h2 : q.1 = plcOf path := (h.names.canon q hq).inj (canon_plc ho hn) (by rw [path_back hn]; exact ha)
    have h3 : look s.names (plcOf path) = some q.2 := look_of_mem h.names.apart (by rw [← h2]; exact hq)
    rw [hf2] at h3
    injection h3 with h3
    refine ⟨k, j, d, _, rfl, hd, hx, ?_, by rw [← hqd, h2], h1, hi.madeN hf2⟩
    show q.2 - 1 + 1 = i
    have h1' : 1 ≤ i := h1
    omega
theorem Link.find_root (h : Link s fs) : Vf.findIn rootB fs.dirs = none :=
  Vf.find_no fun i d hd j x hx => by
    rw [isAt_eq, decide_eq_false_iff_not]
    intro e
    have h1 := ((h.each d (List.mem_of_getElem? hd)).1.mem_iff).1 (List.mem_of_getElem? hx)
    obtain ⟨q, hq, _, rfl⟩ := mem_nmD h1
    obtain ⟨_, p, hp, hpq⟩ := h.names.canon q hq
    have h2 := path_back hp
    rw [hpq] at h2
    have h3 : pathOfP q.1 = rootB := e
    rw [h3] at h2
    rw [← h2, root_none] at hp; cases hp
theorem Link.get (h : Link s fs) {i : Nat} (h1 : 1 ≤ i) (h2 : i ≤ s.made) : ∃ x, fs.files[i - 1]? = some x ∧ s.files i = ⟨x.b, x.d⟩ := by
  have hl : i - 1 < fs.files.length := by rw [h.made]; omega
  refine ⟨_, List.getElem?_eq_getElem hl, ?_⟩
  have := h.files (i - 1) _ (List.getElem?_eq_getElem hl)
  rwa [show i - 1 + 1 = i by omega] at this

/-! ### How much there is -/
theorem sum_split {α : Type} (g : Plc × Nat → Nat) (ps : List ByteArray) (hp : ps.Nodup) : ∀ m : List (Plc × Nat), (∀ q ∈ m, q.1.d ∈ ps) → (ps.map fun p => ((m.filter (inDir p)).map g).sum).sum = (m.map g).sum
  | [], _ => by
    have : ∀ l : List ByteArray, (l.map fun _ => (0 : Nat)).sum = 0 := fun l => by induction l with
      | nil => rfl
      | cons a l ih => rw [List.map_cons, List.sum_cons, ih]
    simpa using this ps
  | q :: m, h => by
    have ih := sum_split (α := α) g ps hp m (fun q' hq' => h q' (List.mem_cons_of_mem _ hq'))
    have e1 : ∀ p, (((q :: m).filter (inDir p)).map g).sum = (if q.1.d = p then g q else 0) + ((m.filter (inDir p)).map g).sum := fun p => by
      rw [List.filter_cons]
      unfold inDir
      by_cases hd : q.1.d = p
      · simp [hd]
      · simp [hd]
    have e2 : ∀ l : List ByteArray, (l.map fun p => (((q :: m).filter (inDir p)).map g).sum).sum = (l.map fun p => if q.1.d = p then g q else 0).sum + (l.map fun p => ((m.filter (inDir p)).map g).sum).sum := fun l => by
      induction l with
      | nil => rfl
      | cons a l ih => rw [List.map_cons, List.sum_cons, ih, List.map_cons, List.sum_cons, List.map_cons, List.sum_cons, e1]; omega
    have e3 : ∀ l : List ByteArray, q.1.d ∉ l → (l.map fun p => if q.1.d = p then g q else 0).sum = 0 := fun l => by
      induction l with
      | nil => intro _; rfl
      | cons a l ih =>
        intro hn
        rw [List.map_cons, List.sum_cons, ih (fun e => hn (List.mem_cons_of_mem _ e)), if_neg (fun e => hn (by rw [e]; exact List.mem_cons_self ..))]
    have e4 : ∀ l : List ByteArray, l.Nodup → q.1.d ∈ l → (l.map fun p => if q.1.d = p then g q else 0).sum = g q := fun l => by
      induction l with
      | nil => intro _ hm; cases hm
      | cons a l ih =>
        intro hn hm
        obtain ⟨n1, n2⟩ := List.nodup_cons.1 hn
        rw [List.map_cons, List.sum_cons]
        by_cases e : q.1.d = a
        · rw [if_pos e, e3 l (by rw [e]; exact n1)]; omega
        · rw [if_neg e, ih n2 ((List.mem_cons.1 hm).resolve_left e)]; omega
    rw [e2, ih, e4 ps hp (h q (List.mem_cons_self ..)), List.map_cons, List.sum_cons]
theorem Link.home (h : Link s fs) (hi : Inv s) : ∀ q ∈ s.names, q.1.d ∈ fs.dirs.map (·.p) := fun q hq => by
  obtain ⟨d, hd, e⟩ := h.isDir.1 (hi.dirsN (look_of_mem h.names.apart hq))
  exact List.mem_map.2 ⟨d, hd, e⟩
theorem Link.sums (h : Link s fs) (hi : Inv s) (g : Plc × Nat → Nat) (gd : Vf.Nm → Nat) (hg : ∀ q ∈ s.names, gd (toN q) = g q) : (fs.dirs.map fun d => (d.names.map gd).sum).sum = (s.names.map g).sum := by
  rw [← sum_split (α := Nat) g _ h.nodup s.names (h.home hi), List.map_map]
  congr 1
  refine List.map_congr_left fun d hd => ?_
  rw [((h.each d hd).1.map gd).sum_nat]
  unfold nmD
  rw [List.map_map]
  congr 1
  exact List.map_congr_left fun q hq => hg q (List.mem_filter.1 hq).1
theorem Link.used (h : Link s fs) (hi : Inv s) : Vf.usedD fs fs.dirs = usedS s := by
  unfold Vf.usedD Vf.usedN usedS
  refine h.sums hi (fun p => (s.files p.2).c.size) (Vf.szOf fs) fun q hq => ?_
  obtain ⟨x, hx, e⟩ := h.get (h.names.one q hq) (hi.madeN (look_of_mem h.names.apart hq))
  unfold Vf.szOf
  show ((fs.files[q.2 - 1]?).map _).getD 0 = _
  rw [hx, e]; rfl
theorem sum_ones {α : Type} : ∀ l : List α, (l.map fun _ => 1).sum = l.length
  | [] => rfl
  | a :: l => by rw [List.map_cons, List.sum_cons, sum_ones l, List.length_cons]; omega
theorem Link.many (h : Link s fs) (hi : Inv s) : Vf.manyOf fs.dirs = s.names.length := by
  have := h.sums hi (fun _ => 1) (fun _ => 1) (fun _ _ => rfl)
  unfold Vf.manyOf
  rw [sum_ones s.names] at this
  rw [← this]
  congr 1
  exact List.map_congr_left fun d _ => (sum_ones d.names).symm
theorem Link.count (h : Link s fs) : fs.dirs.length = s.waits.length := by
  have := h.dirs.length_eq
  rwa [List.length_map, List.length_map] at this

/-! ### Beginning -/
theorem Link.begin_ (h : Link s fs) (path : ByteArray) (root : Bool) : (Vf.beginRes fs path.data.toList root).2 = beginRes s (if root = true then isPath path.data.toList else hasName path.data.toList) := by
  rw [doc_begin]
  unfold beginRes
  have e : ((fs.down = true ∨ fs.crash = 1) ↔ (tickS s).down = true) := by
    rw [h.down]
    unfold tickS
    cases hd : s.down with
    | true =>
      refine ⟨fun _ => ?_, fun _ => .inl rfl⟩
      split <;> simp [hd]
    | false =>
      rw [h.crash hd]
      have := h.pos
      split
      · simp
        omega
      · simp [hd]
        omega
  by_cases hb : fs.down = true ∨ fs.crash = 1
  · rw [if_pos hb, if_pos (e.1 hb)]
  · rw [if_neg hb, if_neg (fun h2 => hb (e.2 h2))]
theorem Link.tick (h : Link s fs) : Link (tickS s) (Vf.beginFs fs) := by
  have hF : (Vf.beginFs fs).files = fs.files := Vf.beginFs_files fs
  have hD : (Vf.beginFs fs).dirs = fs.dirs := Vf.beginFs_dirs fs
  have hM : (Vf.beginFs fs).most = fs.most := begin_most fs
  have hw : ∀ d, waitsOf (tickS s) d = waitsOf s d := fun d => by unfold waitsOf; rw [tick_waits]
  have key : (Vf.beginFs fs).down = (tickS s).down ∧ ((tickS s).down = false → (Vf.beginFs fs).crash = (tickS s).left) ∧ 0 ≤ (tickS s).left := by
    have hp := h.pos
    have hdn := h.down
    unfold Vf.beginFs tickS
    cases hd : s.down with
    | true =>
      rw [if_pos (by rw [hdn, hd])]
      rw [hdn, hd]
      split <;> simp [hd] <;> omega
    | false =>
      have hc := h.crash hd
      rw [if_neg (by rw [hdn, hd]; simp)]
      by_cases h1 : fs.crash = 1
      · rw [if_pos h1]
        have : s.left = 1 := by omega
        rw [if_pos (by omega)]
        simp [this]
      · rw [if_neg h1]
        by_cases h0 : 0 < s.left
        · rw [if_pos h0]
          have h2 : ¬ s.left - 1 = 0 := by omega
          have h3 : 0 < fs.crash := by omega
          simp [h2, h3]
          omega
        · rw [if_neg h0]
          have h3 : ¬ 0 < fs.crash := by omega
          simp [h3, hd]
          omega
  refine ⟨by rw [hM, tick_room]; exact h.room, key.1, key.2.1, key.2.2, by rw [hF, tick_made]; exact h.made, fun f x hx => by rw [hF] at hx; rw [tick_files]; exact h.files f x hx, by rw [hD, tick_waits]; exact h.dirs, by rw [tick_names]; exact h.names, by rw [tick_dur]; exact h.dur, fun x hx => by rw [tick_waits] at hx; exact h.steps x hx, fun d hd => by rw [hD] at hd; rw [tick_names, tick_dur, hw]; exact h.each d hd, by unfold WApart; rw [tick_waits]; exact h.apart⟩
theorem up_link (hn : hasName path.data.toList = true) (h0 : (Vf.beginRes fs path.data.toList false).2 = 0) : Vf.upB fs path = (plcOf path).d := by
  unfold Vf.upB
  have e : (Vf.beginRes fs path.data.toList false).1 = (plcOf path).d.data.toList := by
    unfold Vf.beginRes at h0 ⊢
    split at h0
    · cases h0
    · rename_i h1
      rw [if_neg h1]
      split at h0
      · cases h0
      · rename_i h2
        rw [if_neg h2]
        rw [path_yes hn] at h0 ⊢
        dsimp only at h0 ⊢
        split at h0
        · cases h0
        · rename_i h3
          rw [if_neg h3]
  rw [e]
end
end Go.Proofs.YtdbcjiapbehacaaGreatDoor.Vp

/-! Layer 5: what links the two sides holds behind each call, and the answers are the same (all but Reboot's and List's). -/
namespace Go.Proofs.YtdbcjiapbehacaaGreatDoor.Vp
open Go.RowKit Go.Maps
open Go.Proofs.YtdbcjiapbehacaaGreatDoor.Vf (pathOf)

section
variable {s : Pf} {fs : Vf.Fs} {path dir : ByteArray}
theorem begin_zero {r : Bool} (h : beginRes s r = 0) : r = true := by
  unfold beginRes at h
  split at h
  · cases h
  · cases r with
    | true => rfl
    | false => cases h
/-- A file that is asked for. -/
structure Found (s : Pf) (fs : Vf.Fs) (path : ByteArray) (i k j : Nat) (d : Vf.Dr) (x : Vf.Nm) : Prop where
  name : hasName path.data.toList = true
  file : fileOf s path = some i
  find : Vf.findIn path fs.dirs = some (k, j)
  dir : fs.dirs[k]? = some d
  nm : d.names[j]? = some x
  num : x.f + 1 = i
  at_ : d.p = (plcOf path).d
  made : i ≤ s.made
theorem Link.found (h : Link s fs) (hi : Inv s) (ho : okS path) (hn : hasName path.data.toList = true) {i : Nat} (hf : fileOf s path = some i) : ∃ k j d x, Found s fs path i k j d x := by
  obtain ⟨k, j, d, x, h1, h2, h3, h4, h5, _, h7⟩ := h.find_yes hi ho hn hf
  exact ⟨k, j, d, x, hn, hf, h1, h2, h3, h4, h5, h7⟩
theorem Link.file (h : Link s fs) (hi : Inv s) (ho : okS path) : (Vf.fileRes fs path).2 = (findRes s path).2 ∧ ((findRes s path).2 = 0 → ∃ i k j d x, findRes s path = (some i, 0) ∧ Vf.fileRes fs path = ((x.f : Int), 0) ∧ Found s fs path i k j d x) := by
  have hb := h.begin_ path false
  rw [if_neg (by simp)] at hb
  unfold Vf.fileRes findRes
  rw [hb]
  by_cases h0 : beginRes s (hasName path.data.toList) = 0
  · have hn := begin_zero h0
    have hbn : ¬ (beginRes s (hasName path.data.toList) ≠ 0) := by rw [h0]; simp
    rw [if_neg hbn, if_neg hbn]
    simp only [h.dir_pos]
    cases hd : isDirS s path with
    | true => exact ⟨rfl, fun e => by cases e⟩
    | false =>
      simp only [Bool.false_eq_true, if_false]
      cases hf : fileOf s path with
      | none =>
        unfold Vf.fileEnd
        rw [h.find_no ho hn hf]
        exact ⟨rfl, fun e => by cases e⟩
      | some i =>
        obtain ⟨k, j, d, x, hF⟩ := h.found hi ho hn hf
        have e : Vf.fileEnd fs path = ((x.f : Int), 0) := by
          unfold Vf.fileEnd
          rw [hF.find]
          simp [hF.dir, hF.nm]
        rw [e]
        exact ⟨rfl, fun _ => ⟨i, k, j, d, x, rfl, rfl, hF⟩⟩
  · rw [if_pos h0, if_pos h0]
    exact ⟨rfl, fun e => absurd e h0⟩
theorem Link.dirR (h : Link s fs) (hi : Inv s) (ho : okS path) : (Vf.dirRes fs path).2 = findDirRes s path ∧ (findDirRes s path = 0 → ∃ (k : Nat) (d : Vf.Dr), Vf.dirRes fs path = ((k : Int), 0) ∧ fs.dirs[k]? = some d ∧ d.p = path ∧ isDirS s path = true) := by
  have hb := h.begin_ path true
  rw [if_pos rfl] at hb
  unfold Vf.dirRes findDirRes
  rw [hb]
  by_cases h0 : beginRes s (isPath path.data.toList) = 0
  · have hp := begin_zero h0
    have hbn : ¬ (beginRes s (isPath path.data.toList) ≠ 0) := by rw [h0]; simp
    rw [if_neg hbn, if_neg hbn]
    have hfind : ((Vf.findIn path fs.dirs).isSome = true ↔ (path ≠ rootB ∧ (fileOf s path).isSome = true)) := by
      by_cases hr : path = rootB
      · subst hr
        rw [h.find_root]
        simp
      · have hn : hasName path.data.toList = true := by
          unfold isPath at hp
          rw [Bool.or_eq_true, decide_eq_true_eq] at hp
          refine hp.resolve_left fun e => hr ?_
          exact ByteArray.ext (Array.ext' e)
        cases hf : fileOf s path with
        | none => rw [h.find_no ho hn hf]; simp
        | some i =>
          obtain ⟨k, j, d, x, hF⟩ := h.found hi ho hn hf
          rw [hF.find]; simp [hr]
    by_cases hc : path ≠ rootB ∧ (fileOf s path).isSome = true
    · rw [if_pos hc, if_pos (hfind.2 hc)]
      exact ⟨rfl, fun e => by cases e⟩
    · have hc2 : ¬ ((Vf.findIn path fs.dirs).isSome = true) := fun e => hc (hfind.1 e)
      rw [if_neg hc, if_neg hc2]
      unfold Vf.dirEnd
      simp only [h.dir_neg]
      cases hd : isDirS s path with
      | true =>
        obtain ⟨k, d, e1, e2, e3⟩ := h.dir_yes hd
        exact ⟨by simp, fun _ => ⟨k, d, by simp [e1], e2, e3, by simp⟩⟩
      | false => exact ⟨by simp, fun e => by simp at e⟩
  · rw [if_pos h0, if_pos h0]
    exact ⟨rfl, fun e => absurd e h0⟩

/-! ### What turns -/
theorem keys_store {ws : List (ByteArray × List Stp)} {xs : List Stp} (ha : ws.Pairwise fun p q => p.1 ≠ q.1) (hd : (look ws dir).isSome = true) : ((store ws dir xs).map (·.1)).Perm (ws.map (·.1)) := by
  have n1 : (ws.map (·.1)).Nodup := by unfold List.Nodup; rw [List.pairwise_map]; exact ha
  have n2 : ((store ws dir xs).map (·.1)).Nodup := by unfold List.Nodup; rw [List.pairwise_map]; exact store_apart ha dir xs
  refine (List.perm_ext_iff_of_nodup n2 n1).2 fun x => ?_
  obtain ⟨ys, hy⟩ := Option.isSome_iff_exists.1 hd
  have hdm : dir ∈ ws.map (·.1) := List.mem_map.2 ⟨_, look_mem hy, rfl⟩
  unfold store
  rw [List.map_cons, List.mem_cons]
  constructor
  · rintro (rfl | h)
    · exact hdm
    · obtain ⟨p, hp, rfl⟩ := List.mem_map.1 h
      exact List.mem_map.2 ⟨p, (mem_strike.1 hp).1, rfl⟩
  · intro h
    by_cases e : x = dir
    · exact .inl e
    · obtain ⟨p, hp, rfl⟩ := List.mem_map.1 h
      exact .inr (List.mem_map.2 ⟨p, mem_strike.2 ⟨hp, e⟩, rfl⟩)
theorem mem_modify {α : Type} {l : List α} {k : Nat} {f : α → α} {y : α} (h : y ∈ l.modify k f) : ∃ j x, l[j]? = some x ∧ ((j = k ∧ y = f x) ∨ (j ≠ k ∧ y = x)) := by
  obtain ⟨j, hj⟩ := List.mem_iff_getElem?.1 h
  rw [List.getElem?_modify] at hj
  cases hx : l[j]? with
  | none => rw [hx] at hj; cases hj
  | some x =>
    rw [hx] at hj
    injection hj with hj
    have hj : (if k = j then f x else x) = y := hj
    by_cases e : k = j
    · subst e
      rw [if_pos rfl] at hj
      exact ⟨k, x, hx, .inl ⟨rfl, hj.symm⟩⟩
    · rw [if_neg e] at hj
      exact ⟨j, x, hx, .inr ⟨fun e' => e e'.symm, hj.symm⟩⟩
theorem map_modify {l : List Vf.Dr} {k : Nat} {f : Vf.Dr → Vf.Dr} (hf : ∀ d, (f d).p = d.p) : (l.modify k f).map (·.p) = l.map (·.p) := by
  refine List.ext_getElem? fun j => ?_
  rw [List.getElem?_map, List.getElem?_map, List.getElem?_modify]
  cases l[j]? with
  | none => rfl
  | some x =>
    show some (if k = j then f x else x).p = some x.p
    split
    · rw [hf]
    · rfl
theorem Link.change (h : Link s fs) {k : Nat} {d : Vf.Dr} {x : Stp} (hk : fs.dirs[k]? = some d) (hd : d.p = dir) (hx : StOk dir x) : Link (changeS s dir x) { fs with dirs := fs.dirs.modify k fun d => Vf.stepD d (stP dir x) } := by
  have hdir : isDirS s dir = true := h.isDir.2 ⟨d, List.mem_of_getElem? hk, hd⟩
  have hw : ∀ e, waitsOf (changeS s dir x) e = if e = dir then waitsOf s dir ++ [x] else waitsOf s e := fun e => waits_store _ _ _ _
  refine ⟨h.room, h.down, h.crash, h.pos, h.made, h.files, ?_, h.names.take hx, h.dur, fun y hy st hst => ?_, fun d' hd' => ?_, store_apart h.apart dir _⟩
  · show ((fs.dirs.modify k _).map (·.p)).Perm _
    rw [map_modify (f := fun d => Vf.stepD d (stP dir x)) (fun _ => rfl)]
    exact h.dirs.trans (keys_store h.apart hdir).symm
  · rcases List.mem_cons.1 hy with rfl | hy
    · rcases List.mem_append.1 hst with hst | hst
      · obtain ⟨ys, h1, h2⟩ := mem_waitsOf hst
        exact h.steps _ h1 st h2
      · rw [List.mem_singleton.1 hst]; exact hx
    · exact h.steps y (mem_strike.1 hy).1 st hst
  · obtain ⟨j, e, he, hcase⟩ := mem_modify hd'
    obtain ⟨a, b, c⟩ := h.each e (List.mem_of_getElem? he)
    rcases hcase with ⟨rfl, rfl⟩ | ⟨hne, rfl⟩
    · rw [hk] at he
      injection he with he
      subst he
      subst hd
      refine ⟨take_link h.names hx a, b, ?_⟩
      rw [hw]
      show d.waits ++ [stP d.p x] = (if d.p = d.p then waitsOf s d.p ++ [x] else _).map _
      rw [if_pos rfl, List.map_append, c]; rfl
    · have hp : d'.p ≠ dir := fun e2 => hne (h.uniq he hk (e2.trans hd.symm))
      refine ⟨?_, b, ?_⟩
      · show d'.names.Perm (nmD d'.p (takeS s.names dir x))
        rw [take_far hp]; exact a
      · rw [hw, if_neg hp]; exact c
theorem nm_same {m m' : List (Plc × Nat)} (h : NsOk m) (h' : NsOk m') (he : ∀ n, look m ⟨dir, n⟩ = look m' ⟨dir, n⟩) : (nmD dir m).Perm (nmD dir m') := by
  unfold nmD
  refine List.Perm.map _ ?_
  have nd : ∀ {m : List (Plc × Nat)}, NsOk m → (m.filter (inDir dir)).Nodup := fun hm => (hm.apart.filter _).imp fun hne e => hne (by rw [e])
  refine (List.perm_ext_iff_of_nodup (nd h) (nd h')).2 fun q => ?_
  have key : ∀ {m : List (Plc × Nat)}, NsOk m → (q ∈ m.filter (inDir dir) ↔ q.1.d = dir ∧ look m ⟨dir, q.1.n⟩ = some q.2) := fun {m} hm => by
    rw [List.mem_filter]
    unfold inDir
    rw [decide_eq_true_eq]
    constructor
    · rintro ⟨h1, h2⟩
      refine ⟨h2, ?_⟩
      rw [← h2]
      exact look_of_mem hm.apart h1
    · rintro ⟨h1, h2⟩
      refine ⟨?_, h1⟩
      rw [← h1] at h2
      exact look_mem h2
  rw [key h, key h', he]
theorem Link.keep (h : Link s fs) (hi : Inv s) {k : Nat} {d : Vf.Dr} (hk : fs.dirs[k]? = some d) (hd : d.p = dir) : Link (keepS s dir (waitsOf s dir).length) { fs with dirs := fs.dirs.modify k fun d => { d with dur := d.names, waits := [] } } := by
  have hdir : isDirS s dir = true := h.isDir.2 ⟨d, List.mem_of_getElem? hk, hd⟩
  have hst : ∀ x ∈ (waitsOf s dir).take (waitsOf s dir).length, StOk dir x := fun x hx => by
    obtain ⟨ys, h1, h2⟩ := mem_waitsOf (List.mem_of_mem_take hx)
    exact h.steps _ h1 x h2
  obtain ⟨_, t2, t3⟩ := takeAll_link hst h.dur (.refl _)
  refine ⟨h.room, h.down, h.crash, h.pos, h.made, h.files, ?_, h.names, t2, fun y hy st hst => ?_, fun d' hd' => ?_, store_apart h.apart dir _⟩
  · show ((fs.dirs.modify k _).map (·.p)).Perm _
    rw [map_modify (f := fun d : Vf.Dr => { d with dur := d.names, waits := [] }) (fun _ => rfl)]
    exact h.dirs.trans (keys_store h.apart hdir).symm
  · rcases List.mem_cons.1 hy with rfl | hy
    · cases hst
    · exact h.steps y (mem_strike.1 hy).1 st hst
  · obtain ⟨j, e, he, hcase⟩ := mem_modify hd'
    obtain ⟨a, b, c⟩ := h.each e (List.mem_of_getElem? he)
    rcases hcase with ⟨rfl, rfl⟩ | ⟨hne, rfl⟩
    · rw [hk] at he
      injection he with he
      subst he
      subst hd
      refine ⟨a, a.trans (nm_same h.names t2 fun n => ?_), ?_⟩
      · show look s.names ⟨d.p, n⟩ = look (takeAll s.dur d.p ((waitsOf s d.p).take (waitsOf s d.p).length)) ⟨d.p, n⟩
        rw [List.take_of_length_le (Nat.le_refl _)]; exact hi.full _ n
      · rw [keep_wait, if_pos rfl]; rfl
    · have hp : d'.p ≠ dir := fun e2 => hne (h.uniq he hk (e2.trans hd.symm))
      refine ⟨a, ?_, ?_⟩
      · show d'.dur.Perm (nmD d'.p (takeAll s.dur dir _))
        rw [t3 _ hp]; exact b
      · rw [keep_wait, if_neg hp]; exact c
theorem Link.put (h : Link s fs) {n : Nat} (y : Vf.Fl) : Link { s with files := putFile s.files (n + 1) ⟨y.b, y.d⟩ } { fs with files := fs.files.set n y } := by
  refine ⟨h.room, h.down, h.crash, h.pos, by show (fs.files.set n y).length = _; rw [List.length_set]; exact h.made, fun f x hx => ?_, h.dirs, h.names, h.dur, h.steps, h.each, h.apart⟩
  show putFile s.files (n + 1) ⟨y.b, y.d⟩ (f + 1) = _
  have hx2 : (fs.files.set n y)[f]? = some x := hx
  rw [List.getElem?_set] at hx2
  unfold putFile
  by_cases e : n = f
  · subst e
    rw [if_pos rfl] at hx2
    split at hx2
    · injection hx2 with hx2; rw [if_pos rfl, hx2]
    · cases hx2
  · rw [if_neg e] at hx2
    rw [if_neg (by omega)]
    exact h.files f x hx2

/-! ### Calls -/
theorem Link.mkdir (h : Link s fs) (hi : Inv s) (ho : okS path) : mkdirRes s path = Vf.mkdirRes fs path ∧ Link (mkdirS s path) (Vf.mkdirFs fs path) := by
  have hb := h.begin_ path false
  rw [if_neg (by simp)] at hb
  have hres : mkdirRes s path = Vf.mkdirRes fs path := by
    unfold mkdirRes Vf.mkdirRes
    rw [hb]
    by_cases h0 : beginRes s (hasName path.data.toList) = 0
    · have hn := begin_zero h0
      have hbn : ¬ (beginRes s (hasName path.data.toList) ≠ 0) := by rw [h0]; simp
      rw [if_neg hbn, if_neg hbn, up_link hn (hb.trans h0), h.count]
      simp only [h.dir_neg, h.dir_pos]
      have hff : (Vf.findIn path fs.dirs).isSome = (fileOf s path).isSome := by
        cases hf : fileOf s path with
        | none => rw [h.find_no ho hn hf]; rfl
        | some i =>
          obtain ⟨k, j, d, x, hF⟩ := h.found hi ho hn hf
          rw [hF.find]; rfl
      rw [hff]
      cases isDirS s (plcOf path).d <;> cases isDirS s path <;> cases (fileOf s path).isSome <;> simp
    · rw [if_pos h0, if_pos h0]
  refine ⟨hres, ?_⟩
  unfold mkdirS Vf.mkdirFs
  rw [← hres]
  by_cases hr : mkdirRes s path = 0
  · rw [if_pos hr, if_neg (by rw [hr]; simp)]
    have hn : hasName path.data.toList = true := by
      unfold mkdirRes at hr
      split at hr
      · rename_i h1; exact absurd hr h1
      · rename_i h1; exact begin_zero (Decidable.byContradiction h1)
    have hnd : isDirS s path = false := by
      cases hd : isDirS s path with
      | false => rfl
      | true =>
        unfold mkdirRes at hr
        rw [hd] at hr
        split at hr
        · rename_i h1; exact absurd hr h1
        · split at hr
          · cases hr
          · rw [if_pos (by simp)] at hr; cases hr
    rw [path_back hn]
    have ht := h.tick
    have hnone : look s.waits path = none := by unfold isDirS at hnd; cases hl : look s.waits path with
      | none => rfl
      | some _ => rw [hl] at hnd; cases hnd
    have hst : store s.waits path [] = (path, []) :: s.waits := by unfold store; rw [strike_none hnone]
    have hw : ∀ e, waitsOf { tickS s with waits := store s.waits path [] } e = if e = path then [] else waitsOf s e := fun e => waits_store _ _ _ _
    have hno : ∀ (m : List (Plc × Nat)), (∀ q ∈ m, isDirS s q.1.d = true) → nmD path m = [] := fun m hm => by
      unfold nmD
      rw [List.map_eq_nil_iff, List.filter_eq_nil_iff]
      intro q hq e
      unfold inDir at e
      rw [decide_eq_true_eq] at e
      have := hm q hq
      rw [e, hnd] at this; cases this
    refine ⟨ht.room, ht.down, ht.crash, ht.pos, ht.made, ht.files, ?_, ht.names, ht.dur, fun y hy st hst' => ?_, fun d' hd' => ?_, ?_⟩
    · show ((fs.dirs ++ [(⟨path, [], [], []⟩ : Vf.Dr)]).map (fun x : Vf.Dr => x.p)).Perm ((store s.waits path []).map (fun x : ByteArray × List Stp => x.1))
      rw [hst, List.map_append, List.map_cons]
      exact List.perm_append_comm.trans (List.Perm.cons _ h.dirs)
    · have hy2 : y ∈ store s.waits path [] := hy
      rw [hst] at hy2
      rcases List.mem_cons.1 hy2 with rfl | hy2
      · cases hst'
      · exact h.steps y hy2 st hst'
    · have hd2 : d' ∈ fs.dirs ++ [⟨path, [], [], []⟩] := hd'
      show d'.names.Perm (nmD d'.p (tickS s).names) ∧ d'.dur.Perm (nmD d'.p (tickS s).dur) ∧ _
      rw [tick_names, tick_dur, hw]
      rcases List.mem_append.1 hd2 with hd2 | hd2
      · have hp : d'.p ≠ path := fun e => by rw [h.isDir.2 ⟨d', hd2, e⟩] at hnd; cases hnd
        rw [if_neg hp]; exact h.each d' hd2
      · rw [List.mem_singleton.1 hd2]
        rw [if_pos rfl]
        refine ⟨.of_eq (hno _ fun q hq => hi.dirsN (look_of_mem h.names.apart hq)).symm, .of_eq (hno _ fun q hq => hi.base.dirs q.1 q.2 (look_of_mem h.dur.apart hq)).symm, rfl⟩
    · show (store s.waits path []).Pairwise _
      exact store_apart h.apart path []
  · rw [if_neg hr, if_pos hr]; exact h.tick
theorem Link.sync (h : Link s fs) (hi : Inv s) (ho : okS path) : (findRes s path).2 = (Vf.fileRes fs path).2 ∧ Link (syncS s path) (Vf.syncFs fs path) := by
  obtain ⟨hr, hf⟩ := h.file hi ho
  refine ⟨hr.symm, ?_⟩
  unfold syncS Vf.syncFs
  by_cases h0 : (findRes s path).2 = 0
  · obtain ⟨i, k, j, d, x, e1, e2, hF⟩ := hf h0
    rw [e1, e2, if_neg (by simp)]
    obtain ⟨y, hy, hfy⟩ := h.get (i := i) (by have := hF.num; omega) hF.made
    have hxf : ((x.f : Int), (0 : Int)).1.toNat = x.f := by simp
    have hi1 : i - 1 = x.f := by have := hF.num; omega
    rw [hi1] at hy
    rw [hxf, hy]
    dsimp only
    have := h.tick.put (n := x.f) ⟨y.b, y.b⟩
    rw [tick_files, Vf.beginFs_files, hF.num] at this
    rw [hfy]
    exact this
  · rw [hr, if_pos h0]
    have : (findRes s path).1 = none := by
      unfold findRes at h0 ⊢
      split
      · rfl
      · split
        · rfl
        · rename_i h1 h2
          rw [if_neg h1, if_neg h2] at h0
          cases hfo : fileOf s path with
          | none => rfl
          | some i => rw [hfo] at h0; exact absurd rfl h0
    rw [this]; exact h.tick
theorem Link.syncDir (h : Link s fs) (hi : Inv s) (ho : okS path) : findDirRes s path = (Vf.dirRes fs path).2 ∧ Link (syncDirS s path) (Vf.syncDirFs fs path) := by
  obtain ⟨hr, hf⟩ := h.dirR hi ho
  refine ⟨hr.symm, ?_⟩
  unfold syncDirS Vf.syncDirFs
  rw [hr]
  by_cases h0 : findDirRes s path = 0
  · obtain ⟨k, d, e1, e2, e3, _⟩ := hf h0
    have hbn : ¬ (findDirRes s path ≠ 0) := by rw [h0]; simp
    rw [if_neg hbn, if_neg hbn, e1]
    have hw : waitsOf s path = waitsOf (tickS s) path := by unfold waitsOf; rw [tick_waits]
    rw [hw]
    have hkk : (Vf.beginFs fs).dirs[k]? = some d := by rw [Vf.beginFs_dirs]; exact e2
    have := h.tick.keep hi.tick hkk e3
    rw [Vf.beginFs_dirs] at this
    exact this
  · rw [if_pos h0, if_pos h0]; exact h.tick
theorem Link.remove (h : Link s fs) (hi : Inv s) (ho : okS path) : (findRes s path).2 = Vf.removeRes fs path ∧ Link (removeS s path) (Vf.removeFs fs path) := by
  obtain ⟨hr, hf⟩ := h.file hi ho
  refine ⟨hr.symm, ?_⟩
  unfold removeS Vf.removeFs
  rw [hr]
  by_cases h0 : (findRes s path).2 = 0
  · obtain ⟨i, k, j, d, x, e1, e2, hF⟩ := hf h0
    have hbn : ¬ ((findRes s path).2 ≠ 0) := by rw [h0]; simp
    rw [if_neg hbn, if_neg hbn, hF.find]
    dsimp only
    have hc := canon_plc ho hF.name
    have hst : StOk (plcOf path).d ⟨(plcOf path).n, ⟨#[]⟩, none⟩ := ⟨fun i e => (by cases e), .inr hc, fun _ => hc⟩
    have hkk : (Vf.beginFs fs).dirs[k]? = some d := by rw [Vf.beginFs_dirs]; exact hF.dir
    have := h.tick.change hkk hF.at_ hst
    have es : stP (plcOf path).d ⟨(plcOf path).n, ⟨#[]⟩, none⟩ = ⟨path, -1, ⟨#[]⟩⟩ := by
      unfold stP
      dsimp only
      congr 1
      exact path_back hF.name
    rw [es, Vf.beginFs_dirs] at this
    exact this
  · rw [if_pos h0, if_pos h0]; exact h.tick
theorem Link.read (h : Link s fs) (hi : Inv s) (ho : okS path) : (findRes s path).2 = (Vf.readRes fs path).2 ∧ readX s path = (Vf.readRes fs path).1 := by
  obtain ⟨hr, hf⟩ := h.file hi ho
  unfold readX Vf.readRes
  rw [hr]
  by_cases h0 : (findRes s path).2 = 0
  · obtain ⟨i, k, j, d, x, e1, e2, hF⟩ := hf h0
    obtain ⟨y, hy, hfy⟩ := h.get (i := i) (by have := hF.num; omega) hF.made
    have hi1 : i - 1 = x.f := by have := hF.num; omega
    rw [hi1] at hy
    have hxf : ((x.f : Int), (0 : Int)).1.toNat = x.f := by simp
    have hbn : ¬ ((findRes s path).2 ≠ 0) := by rw [h0]; simp
    rw [if_pos h0, if_neg hbn, e2, hxf, hy]
    unfold readB
    rw [e1]
    exact ⟨rfl, by show (s.files i).c = _; rw [hfy]⟩
  · rw [if_neg h0, if_pos h0]; exact ⟨rfl, rfl⟩
end
end Go.Proofs.YtdbcjiapbehacaaGreatDoor.Vp
