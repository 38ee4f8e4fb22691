/-
  Layer 5: the program's List.
-/
import Derived.Test.YtdbcjiapbehacaaGreatDoorVpI
import Derived.Sort.OwnSorted
namespace Go.Proofs.YtdbcjiapbehacaaGreatDoor.Vp
open Go.RowKit Go.Maps Go.Sort Go.Shelf Go.WideShapes
open Go.Proofs.YtdbcjiapbehacaaGreatDoor.Vf (Hold OwnR Moves ret_int Reads Elems OwnR.reads OwnR.kept OwnR.lt OwnR.kind OwnR.alloc OwnR.nil OwnR.below OwnR.keep Hold.cell Hold.frozen Hold.keep Hold.lt Hold.set plain_append_one new_cells Moves.refl Moves.trans)

theorem enc_flat : ∀ zs : List (List UInt8), (zs.map fun x => [encStr x]).flatten = zs.map encStr
  | [] => rfl
  | z :: zs => by simp [enc_flat zs]
theorem str_info : (Tryz.prog.info? 9).map (fun i => (i.zero, i.size, i.bytes)) = some (some (.string ⟨#[]⟩), 1, 16) := by kernel_rfl
theorem sort_any (v : Value) (base : Nat) (ss : List (List UInt8)) (w : World) (ho : OwnR w base 9 1 v (ss.map fun x => [encStr x])) (hl : ss.length ≤ 1000000) :
    Calls Tryz.prog 59 #[v] w fun e w' => e = .returned (.tuple #[]) ∧ OwnR w' base 9 1 v ((sortB ss).map fun x => [encStr x]) ∧ w.grownBy w' v.ownBlock := by
  have h1 := ho.1
  rw [enc_flat, List.length_map] at h1
  rcases h1.2 with ⟨rfl, h0⟩ | ⟨g, cap, cur, rfl, hbase, hb, hc1, hc2, hc3, hc4⟩
  · have hk : ss = [] := List.eq_nil_of_length_eq_zero h0
    subst hk
    refine (AnyM.slices_Sort_string_none Tryz.sortOf none 0 w).mono ?_
    rintro e w' ⟨he, hw⟩
    subst hw
    exact ⟨he, by simp [sortB]; exact ho, World.grownBy.refl _ _⟩
  · refine (AnyM.slices_Sort_string Tryz.sortOf g 0 cap ss w (holds_of_block hb (by simpa using hc4)) (Array.getElem?_eq_some_iff.1 hb).1 (by omega)).mono ?_
    rintro e w' ⟨he, n, os, hw⟩
    subst hw
    have hsl : (sortB ss).length = ss.length := by unfold sortB; rw [List.length_mergeSort]
    have h2 := ownsRow_sorted (n := n) (os := os) (ss := ss) (ts := sortB ss) hsl hbase hb hc1 hc2 hc3
    refine ⟨he, ⟨?_, fun x hx => by obtain ⟨y, _, rfl⟩ := List.mem_map.1 hx; rfl⟩, grownBy_sorted _⟩
    rw [enc_flat, List.length_map, hsl]
    exact h2
def inDir (path : ByteArray) (q : Plc × Nat) : Bool := decide (q.1.d = path)
def nmsOf (path : ByteArray) (l : List (Plc × Nat)) : List (List UInt8) := (l.filter (inDir path)).map fun q => q.1.n.data.toList
def listP (s : Pf) (path : ByteArray) : List (List UInt8) := sortB (nmsOf path s.names)
theorem nms_perm {path : ByteArray} {l l' : List (Plc × Nat)} (h : l.Perm l') : (nmsOf path l).Perm (nmsOf path l') := (h.filter _).map _
theorem nms_cons (path : ByteArray) (q : Plc × Nat) (l : List (Plc × Nat)) : nmsOf path (q :: l) = if q.1.d = path then q.1.n.data.toList :: nmsOf path l else nmsOf path l := by
  unfold nmsOf inDir
  rw [List.filter_cons]
  by_cases h : q.1.d = path <;> simp [h]
theorem nms_len (path : ByteArray) (l : List (Plc × Nat)) : (nmsOf path l).length ≤ l.length := by
  unfold nmsOf; rw [List.length_map]; exact List.length_filter_le _ _
set_option maxRecDepth 100000 in
set_option maxHeartbeats 4000000 in
theorem list_any (p : Nat) (s : Pf) (l : Loc) (path : ByteArray) (w : World) (h : At w p s l) (hl : -9223372036854775808 ≤ s.left ∧ s.left ≤ 9223372036854775807) (ho : okS path) (hn : s.names.length ≤ 1000000) :
    Calls Tryz.prog 26 #[.pointer (some ⟨p, 0, none⟩), .string path] w fun e w' => (∃ v, e = .returned (.tuple #[v, .int .i64 (findDirRes s path)]) ∧ ((findDirRes s path ≠ 0 ∧ v = .slice none 0 0) ∨ (findDirRes s path = 0 ∧ OwnR w' w.heap.size 9 1 v ((listP s path).map fun x => [encStr x])))) ∧ At w' p (tickS s) l ∧ w.grownBy w' (some p) := by
  have HF := Lib.hid (findDir_any p s l path w h hl ho)
  obtain ⟨r, hr⟩ : ∃ r, findDirRes s path = r := ⟨_, rfl⟩
  rw [hr] at HF ⊢
  by_cases h0 : r = 0
  · subst h0
    have HLP : Hid (listP s path = sortB (nmsOf path s.names)) := Lib.hid rfl
    have hnn := nms_len path s.names
    clear h hr
    go_enter Tryz.func26, Tryz.ntmps26
    go_wp2_with (first
      | (go_at_call 49; refine HF.out.mono ?_; rintro e w1 ⟨rfl, hA, hg⟩; have h2 : w1.cell? ⟨p, 2, none⟩ = some (.map (some l.bn)) := (by rw [hA.cell]; rfl); have HA := Lib.hid hA; have HG := Lib.hid hg; have HN := Lib.hid hA.names; rw [tick_names] at HN; clear hA hg)
      | (at_range; refine wpList_range_l plc_laid Tryz.underlying56 rfl (.tmp 18) rfl HN.out rfl ?_; intro w0 hrg0 hg0 hs0; have HR0 := Lib.hid hrg0; have HG0 := Lib.hid hg0; clear hrg0 hg0 hs0)
      | fail)
    go_frame
    go_loopw [7] (fun o wr => ∃ (todo : List (Plc × Nat)) (acc : List (List UInt8)), OwnR wr w1.heap.size 9 1 o (acc.map fun x => [encStr x]) ∧ (nmsOf path s.names).Perm (acc ++ nmsOf path todo) ∧ RangeL Tryz.prog 79 mkPlc (pv l) okP wr l.bn w1.heap.size s.names todo ∧ Below w1.heap.size w1 wr) (fun _ wr => wr.rangeLeft l.bn w1.heap.size)
    case atStart => exact ⟨s.names, [], OwnR.nil _ _ _ _, by simp, HR0.out, (Below.refl _ _).grown HG0.out (Nat.le_refl _) (fun k e => by cases e)⟩
    case round =>
      obtain ⟨todo, acc, hown, hperm, hrg, hb⟩ := hrel
      have HOW := Lib.hid hown; have HP := Lib.hid hperm; have HRG := Lib.hid hrg; have HB := Lib.hid hb
      have hrl := hrg.lt
      clear hown hperm hrg hb
      go_wp2_with (first
        | (at_next; refine wpList_next_l plc_laid rfl (.tmp 19) rfl HRG.out rfl ?_ ?_)
        | fail)
      · intro htd
        have hpp := HP.out
        rw [htd] at hpp
        have hpp2 : (nmsOf path s.names).Perm acc := by simpa [nmsOf] using hpp
        have hal : acc.length ≤ 1000000 := by have := hpp2.length_eq; omega
        have HPP := Lib.hid hpp2
        have hlen := HOW.out.reads.len
        obtain ⟨A7, c7, hv7⟩ := hlen
        rw [List.length_map] at hv7
        have HV7 := Lib.hid hv7
        clear htd hpp hpp2 hv7
        go_wp2_with (first
          | (go_at_call 59; refine (sort_any _ w1.heap.size acc wr HOW.out hal).mono ?_; rintro e w3 ⟨rfl, hr3, hg3⟩; have HR3 := Lib.hid hr3; have HG3 := Lib.hid hg3; clear hr3 hg3)
          | fail)
        go_ret2
        have hb3 : Below w1.heap.size w1 w3 := HB.out.grown HG3.out HB.out.size fun k hk => (HOW.out.lt k hk).1
        refine ⟨⟨u7, rfl, .inr ⟨by trivial, ?_⟩⟩, HA.out.below hb3, gb_below HG.out hb3⟩
        rw [HLP.out, sortB_perm_eq HPP.out]
        exact HR3.out.mono HG.out.size
      · intro x i todo' w2 hpm hrg2 hlt hg2 hs2 hen
        unfold mkPlc at hen
        obtain ⟨xd, xn⟩ := x
        dsimp only at hen hpm
        have hs2' : wr.heap.size ≤ w2.heap.size := by omega
        clear hs2
        have hiter : ∀ k, u7.ownBlock = some k → some k ≠ some w1.heap.size := fun k hk e => by
          injection e with e
          subst e
          obtain ⟨cur, hc⟩ := HOW.out.kind hk
          obtain ⟨m, s2, seen, c2, hc2⟩ := HRG.out.kind
          rw [hc] at hc2; cases hc2
        have hO2 : OwnR w2 w1.heap.size 9 1 u7 (acc.map fun x => [encStr x]) := HOW.out.kept hg2 (by
          cases hv : u7.ownBlock with
          | none => exact .inl rfl
          | some k => exact .inr (hiter k hv))
        have hb2 : Below w1.heap.size w1 w2 := HB.out.grown hg2 (Nat.le_of_lt hrl) (fun k e => by cases e; exact Nat.le_refl _)
        have hbn : some l.bn ≠ u7.ownBlock := fun e => by
          obtain ⟨cur, hc⟩ := HOW.out.kind e.symm
          obtain ⟨es, clock, hc2⟩ := HRG.out.mp.kind
          rw [hc] at hc2; cases hc2
        have hir : some w1.heap.size ≠ u7.ownBlock := fun e => (hiter _ e.symm) rfl
        have hpl : (nmsOf path s.names).Perm (acc ++ nmsOf path ((⟨xd, xn⟩, i) :: todo')) := HP.out.trans ((nms_perm hpm).append_left acc)
        rw [nms_cons] at hpl
        have hal : acc.length ≤ 1000000 := by have := hpl.length_eq; rw [List.length_append] at this; omega
        have hws := hb2.size
        have HO2 := Lib.hid hO2; have HB2 := Lib.hid hb2; have HR2 := Lib.hid hrg2; have HLT := Lib.hid hlt; have HBN := Lib.hid hbn; have HIR := Lib.hid hir; have HPL := Lib.hid hpl
        clear hO2 hb2 hrg2 hlt hbn hir hpl hg2 hpm hiter hs2'
        by_cases hd : xd = path
        · have hd' : path = xd := hd.symm
          have hpl := HPL.out
          rw [if_pos hd] at hpl
          have HPL2 := Lib.hid hpl
          clear hpl HPL hd
          have hq : (xd.toList == path.toList) = true := by rw [← hd']; simp
          have HO3 := Lib.hid ((HO2.out.alloc (.cells #[.string xd, .string xn] 79)).alloc (.cells #[.string xn] 9))
          have HB3 : Hid (Below w1.heap.size w1 ((w2.alloc (.cells #[.string xd, .string xn] 79)).alloc (.cells #[.string xn] 9))) := Lib.hid ((HB2.out.alloc HB2.out.size _).alloc (by simp; omega) _)
          have HR3 := Lib.hid ((HR2.out.kept (World.grownBy_alloc w2 (.cells #[.string xd, .string xn] 79) none) (by simp) (by simp)).kept (World.grownBy_alloc _ (.cells #[.string xn] 9) none) (by simp) (by simp))
          have HL3 := Lib.hid (((HR2.out.kept (World.grownBy_alloc w2 (.cells #[.string xd, .string xn] 79) none) (by simp) (by simp)).left_kept (World.grownBy_alloc _ (.cells #[.string xn] 9) none) (by simp) (by simp)).trans (HR2.out.left_kept (World.grownBy_alloc w2 (.cells #[.string xd, .string xn] 79) none) (by simp) (by simp)))
          clear hd'
          go_wp2_with (first
            | (at_builtin; refine plain_append_one (v := u7) (.tmp 28) (.tmp 31) rfl 43 9 1 16 _ rfl Tryz.underlying43 str_info rfl (by decide) (by decide) w1.heap.size _ [.string xn] ⟨w2.heap.size + 1, 0, none⟩ 1 rfl rfl HO3.out rfl (new_cells (w2.alloc (.cells #[.string xd, .string xn] 79)) _ (by simp) _ _) (by simp [Value.oneCell']) (by rw [List.length_map]; omega) (by simp; omega) ?_; intro v' w' hown hgr hat; have HOV := Lib.hid hown; have HGR := Lib.hid hgr; clear hown hgr hat)
            | fail)
          have henc : [[Value.string xn]] = [xn.data.toList].map (fun x => [encStr x]) := by simp [encStr]
          have hO4 := HOV.out
          rw [henc, ← List.map_append] at hO4
          refine ⟨⟨todo', acc ++ [xn.data.toList], hO4, by simpa using HPL2.out, HR3.out.kept HGR.out HBN.out HIR.out, HB3.out.trans (HO3.out.below HGR.out (Nat.le_refl _) (by simp; omega))⟩, ?_⟩
          have := HR3.out.left_kept HGR.out HBN.out HIR.out
          rw [this, HL3.out]; exact HLT.out
        · have hq : (xd.toList == path.toList) = false := by
            rw [beq_eq_false_iff_ne]
            intro e
            rw [Lib.toList_data, Lib.toList_data] at e
            exact hd (ByteArray.ext (Array.ext' e))
          have hpl := HPL.out
          rw [if_neg hd] at hpl
          have HPL2 := Lib.hid hpl
          clear hpl HPL
          go_wp2_with fail
          refine ⟨⟨todo', acc, HO2.out.alloc _, HPL2.out, HR2.out.kept (World.grownBy_alloc w2 _ none) (by simp) (by simp), HB2.out.alloc HB2.out.size _⟩, ?_⟩
          rw [HR2.out.left_kept (World.grownBy_alloc w2 _ none) (by simp) (by simp)]; exact HLT.out
  · have hr1 : (r != 0) = true := by simpa using h0
    have hr2 : (r == 0) = false := by simpa using h0
    have H0 := Lib.hid h0
    clear hr h0 h
    go_enter Tryz.func26, Tryz.ntmps26
    go_wp2_with (go_at_call 49; refine HF.out.mono ?_; rintro e w1 ⟨rfl, hA, hg⟩; have HA := Lib.hid hA; have HG := Lib.hid hg; clear hA hg)
    go_ret2
    exact ⟨⟨_, rfl, .inl ⟨H0.out, rfl⟩⟩, HA.out, HG.out⟩
end Go.Proofs.YtdbcjiapbehacaaGreatDoor.Vp
