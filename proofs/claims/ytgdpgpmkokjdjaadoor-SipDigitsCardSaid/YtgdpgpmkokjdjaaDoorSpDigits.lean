/-
  The law SipDigits: a key's digits tell that key. Plain facts, and the loop that tells them.
-/
import Derived.Test.YtgdpgpmkokjdjaaDoorSpWorks
import Derived.Laws.BytesArg
namespace Go.Proofs.YtgdpgpmkokjdjaaDoor.Sp
open Go.RowKit

/-- The digit at place j of a key, told. -/
def nibk (k : List Int) (j : Nat) : Int := if j % 2 = 0 then k.getD (j / 2) 0 / 16 else k.getD (j / 2) 0 % 16
def smallS : ByteArray := ⟨#[48, 49, 50, 51, 52, 53, 54, 55, 56, 57, 97, 98, 99, 100, 101, 102]⟩
def capsS : ByteArray := ⟨#[48, 49, 50, 51, 52, 53, 54, 55, 56, 57, 65, 66, 67, 68, 69, 70]⟩
theorem dig_small : ∀ d : Fin 16, dig ((smallS.data[d.val]'d.isLt).toNat : Int) = (d.val : Int) := by decide +kernel
theorem dig_caps : ∀ d : Fin 16, dig ((capsS.data[d.val]'d.isLt).toNat : Int) = (d.val : Int) := by decide +kernel
theorem dig_s (d : Nat) (h : d < (⟨#[48, 49, 50, 51, 52, 53, 54, 55, 56, 57, 97, 98, 99, 100, 101, 102]⟩ : ByteArray).size) : dig (((⟨#[48, 49, 50, 51, 52, 53, 54, 55, 56, 57, 97, 98, 99, 100, 101, 102]⟩ : ByteArray)[d]'h).toNat : Int) = (d : Int) := dig_small ⟨d, h⟩
theorem dig_c' (d : Nat) (h : d < (⟨#[48, 49, 50, 51, 52, 53, 54, 55, 56, 57, 65, 66, 67, 68, 69, 70]⟩ : ByteArray).size) : dig (((⟨#[48, 49, 50, 51, 52, 53, 54, 55, 56, 57, 65, 66, 67, 68, 69, 70]⟩ : ByteArray)[d]'h).toNat : Int) = (d : Int) := dig_caps ⟨d, h⟩
/-- Bytes that tell the first so many digits of a key. -/
def Tell (k : List Int) (n : Nat) (xs : List Int) : Prop := xs.length = n ∧ Bytes xs ∧ ∀ j, j < n → dig (xs.getD j 0) = nibk k j
theorem tell_nil (k : List Int) : Tell k 0 [] := ⟨rfl, (fun z hz => by cases hz), (fun j hj => absurd hj (by omega))⟩
theorem tell_succ {k xs : List Int} {n : Nat} {c : Int} (h : Tell k n xs) (hc : 0 ≤ c ∧ c ≤ 255) (hd : dig c = nibk k n) : Tell k (n + 1) (xs ++ [c]) := by
  obtain ⟨h1, h2, h3⟩ := h
  refine ⟨by rw [List.length_append, h1]; rfl, h2.app (fun z hz => by rw [List.mem_singleton.1 hz]; exact hc), fun j hj => ?_⟩
  rcases Nat.lt_or_ge j n with a | a
  · have := h3 j a
    rw [List.getD, List.getElem?_append_left (by omega)]
    exact this
  · obtain rfl : j = n := by omega
    rw [List.getD, List.getElem?_append_right (by omega), h1, Nat.sub_self]
    exact hd
def lst (xs : List Int) : List UInt8 := xs.map fun z => UInt8.ofNat z.toNat
theorem lst_len (xs : List Int) : (lst xs).length = xs.length := by simp [lst]
theorem lst_dg {xs : List Int} (h : Bytes xs) (i : Nat) (hi : i < xs.length) : dg (lst xs) i = dig (xs.getD i 0) := by
  unfold dg lst
  have h1 : (xs.map fun z => UInt8.ofNat z.toNat).getD i 0 = UInt8.ofNat (xs.getD i 0).toNat := by
    simp [List.getD, List.getElem?_map, List.getElem?_eq_getElem hi]
  rw [h1]
  have := h.get i
  congr 1
  rw [UInt8.toNat_ofNat']
  omega
/-- 32 digits of a key tell it, whatever blanks stand behind. -/
theorem tell_key {k xs : List Int} (h : Tell k 32 xs) (hk : k.length = 16) (hkb : Bytes k) (z : List UInt8) (hz : ∀ c ∈ z, blk c = true) : keyOf (lst xs ++ z) = k ∧ keyIs (lst xs ++ z) = true := by
  obtain ⟨h1, h2, h3⟩ := h
  have hd : ∀ i, i < 32 → dg (lst xs) i = nibk k i := fun i hi => by rw [lst_dg h2 i (by omega), h3 i hi]
  have hnn : ∀ i, 0 ≤ nibk k i := fun i => by
    have := hkb.get (i / 2)
    unfold nibk
    split <;> omega
  have hik : isKey (lst xs) := ⟨by rw [lst_len, h1], fun i hi => by rw [hd i hi]; exact hnn i⟩
  obtain ⟨a, b⟩ := is_key (l := lst xs ++ z) rfl hz (.inl (by rw [lst_len, h1]; omega)) hik
  refine ⟨?_, b⟩
  rw [a]
  refine List.ext_getElem? fun i => ?_
  unfold pairs
  rw [List.getElem?_map]
  rcases Nat.lt_or_ge i 16 with hi | hi
  · rw [List.getElem?_range hi, List.getElem?_eq_getElem (by omega)]
    simp only [Option.map_some, Option.some.injEq]
    rw [hd (2 * i) (by omega), hd (2 * i + 1) (by omega)]
    unfold nibk
    rw [if_pos (by omega), if_neg (by omega), show 2 * i / 2 = i by omega, show (2 * i + 1) / 2 = i by omega]
    have e : k.getD i 0 = k[i]'(by omega) := by simp [List.getD, List.getElem?_eq_getElem (show i < k.length by omega)]
    rw [e]; omega
  · rw [List.getElem?_eq_none (by simpa using hi), List.getElem?_eq_none (by omega)]; rfl
/-- .. with one less, none. -/
theorem tell_less {k xs : List Int} (h : Tell k 32 xs) : keyOf (lst (xs.drop 1)) = zeros ∧ keyIs (lst (xs.drop 1)) = false :=
  not_key (l := lst (xs.drop 1)) (m := lst (xs.drop 1)) (z := []) (by simp) (fun c hc => by cases hc) (.inl (by rw [lst_len, List.length_drop, h.1]; omega)) (fun hk => by
    have := hk.1
    rw [lst_len, List.length_drop, h.1] at this
    omega)

/-- Where the digits lie. -/
def DL (w0 : World) (k : List Int) (gb : Nat) (xs : List Int) (W : World) : Prop :=
  Hold W w0.heap.size 23 (k.map by8) ∧ (gb < W.heap.size ∧ ∀ i, i < xs.length → W.cell? ⟨gb, i, none⟩ = some (by8 (xs.getD i 0)) ∧ W.frozen? ⟨gb, i, none⟩ = false) ∧ Below w0.heap.size w0 W
theorem DL.go {w0 W W' : World} {k xs : List Int} {gb : Nat} (h : DL w0 k gb xs W) (hb : Below W.heap.size W W') : DL w0 k gb xs W' :=
  ⟨h.1.below hb h.1.lt, ⟨Nat.lt_of_lt_of_le h.2.1.1 hb.size, fun i hi => by
    obtain ⟨a, b⟩ := h.2.1.2 i hi
    exact ⟨(hb.cell (p := ⟨gb, i, none⟩) h.2.1.1).trans a, (hb.frozen (p := ⟨gb, i, none⟩) h.2.1.1).trans b⟩⟩, h.2.2.trans (hb.mono h.2.2.size)⟩
theorem DL.conv {w0 W : World} {k xs : List Int} {gb : Nat} (h : DL w0 k gb xs W) (len cap : Nat) (hl : xs.length = len) : Sem.run Tryd.prog (convert 24 9 (.slice (some ⟨gb, 0, none⟩) len cap)) W = .ok (.string (strOfNums xs)) W :=
  run_convert_bytes_arg W 24 5 Tryd.underlying24 Tryd.underlying5 gb 0 len cap xs hl (fun i hi => by rw [show 0 + i = i by omega]; exact (h.2.1.2 i (by omega)).1) 9 Tryd.underlying9
theorem DL.conv1 {w0 W : World} {k xs : List Int} {gb : Nat} (h : DL w0 k gb xs W) (len cap : Nat) (hl : xs.length = len + 1) : Sem.run Tryd.prog (convert 24 9 (.slice (some ⟨gb, 1, none⟩) len cap)) W = .ok (.string (strOfNums (xs.drop 1))) W :=
  run_convert_bytes_arg W 24 5 Tryd.underlying24 Tryd.underlying5 gb 1 len cap (xs.drop 1) (by rw [List.length_drop]; omega) (fun i hi => by
    have := (h.2.1.2 (1 + i) (by omega)).1
    rw [this]
    congr 2
    simp [List.getD, Nat.add_comm 1 i]) 9 Tryd.underlying9
theorem DL.set {w0 W : World} {k xs : List Int} {gb : Nat} (h : DL w0 k gb xs W) (j : Nat) (z : Int) (hj : j < xs.length) (hg : w0.heap.size < gb) : DL w0 k gb (xs.set j z) (W.setCell ⟨gb, j, none⟩ (by8 z)) := by
  refine ⟨h.1.far (by show w0.heap.size ≠ gb; omega) _, ⟨by rw [set_size]; exact h.2.1.1, fun i hi => ?_⟩, h.2.2.setCell (by show w0.heap.size ≤ gb; omega) _⟩
  rw [List.length_set] at hi
  obtain ⟨a, b⟩ := h.2.1.2 i hi
  refine ⟨?_, by rw [show (W.setCell ⟨gb, j, none⟩ (by8 z)).frozen? ⟨gb, i, none⟩ = W.frozen? ⟨gb, i, none⟩ by simp]; exact b⟩
  by_cases e : i = j
  · subst e
    rw [World.cell?_setCell_same _ _ _ a]
    simp [List.getD, hj]
  · rw [World.cell?_setCell_other _ _ _ _ (fun h2 => by injection h2 with _ h3; exact e h3.symm), a]
    congr 2
    simp [List.getD, Ne.symm e]
theorem Own.where_ {w : World} {base : Nat} {v : Value} {xs : List Int} (h : Own w base v xs) (hx : 0 < xs.length) : ∃ gb cap, v = .slice (some ⟨gb, 0, none⟩) xs.length cap ∧ base ≤ gb ∧ gb < w.heap.size ∧ xs.length ≤ cap ∧ cap ≤ maxLen ∧
    ∀ i, i < xs.length → w.cell? ⟨gb, i, none⟩ = some (by8 (xs.getD i 0)) ∧ w.frozen? ⟨gb, i, none⟩ = false := by
  have h' := h
  rcases h.2 with ⟨rfl, h0⟩ | ⟨gb, cap, cur, rfl, hbg, hh, hnc, hcm, hsz, htk⟩
  · omega
  · refine ⟨gb, cap, rfl, hbg, (h'.lt gb rfl).2, hnc, hcm, fun i hi => ⟨?_, World.ownsRow.frozenAt h' i⟩⟩
    have h1 := World.ownsRow.cellAt h' i (by omega)
    rw [h1, List.getElem?_map, List.getElem?_eq_getElem hi]
    simp [List.getD, List.getElem?_eq_getElem hi]
end Go.Proofs.YtgdpgpmkokjdjaaDoor.Sp
