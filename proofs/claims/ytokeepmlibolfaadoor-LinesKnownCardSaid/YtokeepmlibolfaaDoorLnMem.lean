/-
  Layer 11 (lines): a file's lines in memory; bytes of one's own as a text; whole lines, over lists.
-/
import Derived.Test.YtokeepmlibolfaaDoorLnAny
import Derived.Lib.SplitLaws
import Derived.Lib.AppendStr
import Derived.Laws.BytesArg
import Derived.Lib.BufferRead
namespace Go.Proofs.YtokeepmlibolfaaDoor.Ln
open Go.RowKit

/-- Bytes as cells. -/
def cellsU (l : List UInt8) : List Value := l.map fun b => .int .u8 b.toNat
theorem cellsU_len (l : List UInt8) : (cellsU l).length = l.length := by simp [cellsU]
theorem cellsU_app (a b : List UInt8) : cellsU a ++ cellsU b = cellsU (a ++ b) := by simp [cellsU]
theorem strCells_bs (l : List UInt8) : Lib.strCells (bs l) = cellsU l := by unfold Lib.strCells cellsU; rw [bs_list]
theorem nums_bs (l : List UInt8) : strOfNums (l.map fun b => (b.toNat : Int)) = bs l := by
  unfold strOfNums
  rw [List.map_map]
  congr 2
  conv => rhs; rw [← List.map_id l]
  refine List.map_congr_left fun b _ => ?_
  simp
/-- Bytes of one's own, as a text. -/
theorem own_conv {W : World} {B : Nat} {v : Value} {xs : List UInt8} (h : W.ownsRowF B 5 1 v xs.length (cellsU xs)) : (convert 22 9 v).run Tryd.prog W = .ok (.string (bs xs)) W := by
  rcases h.2 with ⟨rfl, h0⟩ | ⟨g, cap, cur, fz, rfl, _, hg, _, hn, _, hc, ht⟩
  · obtain rfl : xs = [] := List.eq_nil_of_length_eq_zero h0
    exact Lib.run_convert_nil_bytes W 22 9 5 0 Tryd.underlying22 Tryd.underlying5 Tryd.underlying9
  · have hlen : (xs.map fun b => (b.toNat : Int)).length = xs.length := by simp
    have := run_convert_bytes_arg (P := Tryd.prog) (w := W) 22 5 Tryd.underlying22 Tryd.underlying5 g 0 xs.length cap (xs.map fun b => (b.toNat : Int)) hlen (fun i hi => by
      have h1 : (cellsU xs)[i]? = some (.int .u8 (xs[i].toNat : Int)) := by unfold cellsU; rw [List.getElem?_map, List.getElem?_eq_getElem hi]; rfl
      rw [← ht, List.getElem?_take, if_pos (by omega), Array.getElem?_toList] at h1
      rw [Nat.zero_add, List.getD_eq_getElem?_getD, List.getElem?_map, List.getElem?_eq_getElem hi]
      simp only [World.cell?, hg, Option.map_some, Option.getD_some]
      exact h1) 9 Tryd.underlying9
    rw [this, nums_bs]
/-- A file's lines. -/
def linesL (l : List UInt8) : List (List UInt8) := Lib.split l [10]
theorem split_bs (l : List UInt8) : Lib.splitB (bs [10]) 0 (Lib.countB (bs l) (bs [10])) (bs l) = (linesL l).map bs := by
  have h := Lib.splitB_data (bs [10]) 0 (Lib.countB (bs l) (bs [10])) (bs l)
  rw [bs_list, bs_list] at h
  have h2 : (Lib.splitB (bs [10]) 0 (Lib.countB (bs l) (bs [10])) (bs l)).map (fun s => bs s.data.toList) = (linesL l).map bs := by
    have := congrArg (List.map bs) h
    rw [List.map_map] at this
    refine this.trans ?_
    unfold linesL Lib.split Lib.countB
    rw [bs_list, bs_list]
  rw [← h2]
  conv => lhs; rw [← List.map_id (Lib.splitB (bs [10]) 0 (Lib.countB (bs l) (bs [10])) (bs l))]
  exact List.map_congr_left fun s _ => (bs_of s).symm
theorem lines_len (l : List UInt8) : (linesL l).length = Lib.countB (bs l) (bs [10]) + 1 := by
  have h := Lib.splitB_all (bs [10]) (by decide) 0 _ (bs l) rfl
  rw [split_bs, List.length_map] at h
  exact h
/-- A line of its own. -/
def crL (l : List UInt8) : List UInt8 := Lib.trimSuffix l [13]
def skips (b : Nat) (l : List UInt8) : Bool := remB l || (decide (b = 0) && blankB l)
def onB (l : List UInt8) : Bool := Lib.hasSuffix l [92]
def partL (l : List UInt8) : List UInt8 := Lib.trimSuffix l [92]
/-- Whole lines, each with the line in which it begins. -/
def wholesL : List (List UInt8) → Nat → Nat → List UInt8 → List (Nat × List UInt8)
  | [], _, b, w => if b = 0 then [] else [(b, trimL w)]
  | l :: ls, i, b, w =>
    if skips b (crL l) then wholesL ls (i + 1) b w
    else if onB (crL l) then wholesL ls (i + 1) (if b = 0 then i + 1 else b) ((w ++ partL (crL l)) ++ [32])
    else ((if b = 0 then i + 1 else b), trimL (w ++ partL (crL l))) :: wholesL ls (i + 1) 0 []
theorem suffix_le (l p : List UInt8) : (Lib.trimSuffix l p).length ≤ l.length := by
  unfold Lib.trimSuffix
  split
  · rw [List.length_take]; exact Nat.min_le_right _ _
  · exact Nat.le_refl _
end Go.Proofs.YtokeepmlibolfaaDoor.Ln
