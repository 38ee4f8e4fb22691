/-
  Layer 5: VpMkdir VpMade VpWrite VpWritten VpNew, one behind the other.
-/
import Derived.Test.YtdbcjiapbehacaaGreatDoorVpC
import Derived.Lib.ConvBytes
/-! Layer 5: the program's Mkdir. -/
namespace Go.Proofs.YtdbcjiapbehacaaGreatDoor.Vp
open Go.RowKit Go.Maps
open Go.Proofs.YtdbcjiapbehacaaGreatDoor.Vf (Hold OwnR Moves ret_int wp_region_mix wpMix_free wpMix_turn wpMix_end Hold.cell Hold.frozen Hold.keep Hold.lt OwnR.nil Moves.refl Moves.trans)

theorem pathOfP_ok {path : ByteArray} (ho : okS path) (hs : Slashed path) : okS (pathOfP (plcOf path)) := by
  have h1 := hs.cut.2
  have h2 := hs.1
  unfold okS at ho ⊢
  have e1 : (pathOfP (plcOf path)).size = (Lib.trimSuffix (plcOf path).d.data.toList [47]).length + 1 + (plcOf path).n.size := by
    unfold pathOfP
    rw [ByteArray.size_append, ByteArray.size_append]
    show (Lib.trimSuffix (plcOf path).d.data.toList [47]).toArray.size + 1 + _ = _
    rw [List.size_toArray]
  have e2 : (plcOf path).n.size = path.size - (cutOf path + 1) := by show (path.extract (cutOf path + 1) path.size).size = _; rw [ByteArray.size_extract]; omega
  have e3 : (plcOf path).d.data.toList = path.data.toList.take (max (cutOf path) 1) := by show (path.extract 0 (max (cutOf path) 1)).data.toList = _; rw [Lib.extract_data]; rfl
  have e4 : (Lib.trimSuffix (plcOf path).d.data.toList [47]).length ≤ cutOf path := by
    obtain ⟨l, hl⟩ := hs.2
    rw [e3]
    unfold Lib.trimSuffix
    by_cases h0 : cutOf path = 0
    · rw [h0, hl]
      simp [Lib.hasSuffix, List.isSuffixOf]
    · rw [show max (cutOf path) 1 = cutOf path by omega]
      split
      · rw [List.length_take]; rw [List.length_take]; omega
      · rw [List.length_take]; omega
  omega
theorem mkdirRes_0 {s : Pf} {path : ByteArray} (h : beginRes s (hasName path.data.toList) = 0) : mkdirRes s path = if !isDirS s (plcOf path).d then 50 else if isDirS s path || (fileOf s path).isSome then 53 else if 256 ≤ s.waits.length then 3 else 0 := by
  unfold mkdirRes; rw [if_neg (by rw [h]; decide)]
theorem mkdirRes_n {s : Pf} {path : ByteArray} (h : beginRes s (hasName path.data.toList) ≠ 0) : mkdirRes s path = beginRes s (hasName path.data.toList) := by
  unfold mkdirRes; rw [if_pos h]
/-- What the walks of Mkdir take as known. -/
structure MkIn (p : Nat) (s : Pf) (l : Loc) (path : ByteArray) (x : Plc) (f : Option Nat) (dx dp : Bool) (w : World) : Prop where
  beg : Calls Tryz.prog 42 #[.pointer (some ⟨p, 0, none⟩), .func (.func 43) #[] #[], .slice (some ⟨w.heap.size, 0, none⟩) 1 1] (w.alloc (.cells #[.string path] 9)) fun e w' => e = .returned (.int .i64 0) ∧ At w' p (tickS s) l ∧ w.grownBy w' (some p)
  pa : ∀ W : World, Calls Tryz.prog 44 #[.string path] W fun e w' => e = .returned (.agg #[.string x.d, .string x.n]) ∧ Below W.heap.size W w'
  xo : okP x
  fv : fileV (tickS s) l x = ptrOf l f
  ix : ∀ W : World, At W p (tickS s) l → Calls Tryz.prog 45 #[.pointer (some ⟨p, 0, none⟩), .string x.d] W fun e w' => e = .returned (.bool dx) ∧ Below W.heap.size W w'
  ip : ∀ W : World, At W p (tickS s) l → Calls Tryz.prog 45 #[.pointer (some ⟨p, 0, none⟩), .string path] W fun e w' => e = .returned (.bool dp) ∧ Below W.heap.size W w'
theorem same_below {P : Program} {f : FuncId} {args : Array Value} {W : World} {R : Ending → Prop} (h : Calls P f args W fun e w' => R e ∧ W = w') : Calls P f args W fun e w' => R e ∧ Below W.heap.size W w' :=
  h.mono fun _ _ ⟨he, hw⟩ => ⟨he, by rw [← hw]; exact Below.refl _ _⟩
/-- A directory more. -/
theorem mkdir_left {w w6 w7 : World} {p : Nat} {s : Pf} {l : Loc} {q : ByteArray} (hA : At w6 p (tickS s) l) (hG : w.grownBy w6 (some p)) (hw : MapL Tryz.prog 9 Value.string (id : Value → Value) okS w7 l.bw (store ((tickS s).waits.map fun y => (y.1, l.rows y.1)) q (.slice none 0 0))) (hg : w6.grownBy w7 (some l.bw)) :
    After w p s { tickS s with waits := store s.waits q [] } l w7 := by
  have hk : ∀ g, g < w6.heap.size → g ≠ l.bw → w7.heap[g]? = w6.heap[g]? := fun g hgl h1 => hg.block g hgl (by simpa using h1)
  have hlive : ∀ i, Live { tickS s with names := (tickS s).names, dur := (tickS s).dur, waits := store (tickS s).waits q [] } i → Live (tickS s) i := fun i hi => by
    rcases hi with ⟨r, hr, e⟩ | ⟨r, hr, e⟩ | ⟨y, hy, st, hst, e⟩
    · exact .inl ⟨r, hr, e⟩
    · exact .inr (.inl ⟨r, hr, e⟩)
    · rcases mem_storeW hy with rfl | ⟨hy, _⟩
      · cases hst
      · exact .inr (.inr ⟨y, hy, st, hst, e⟩)
  have hat : ∀ g, (Value.slice none 0 0).ownBlock = some g → (rowOf (tickS s) l q).ownBlock = some g ∨ w6.heap.size ≤ g := fun g e => by cases e
  have h2 := at_turn hA (dir := q) (ns := (tickS s).names) (ds := (tickS s).dur) (xs := []) (v := .slice none 0 0) (w' := w7) (fun i hi => by
      have hi2 := hA.files i (hlive i hi)
      have hc : w6.heap[l.loc i]? = _ := hi2.2.2
      exact ⟨hi2.1, hi2.2.1, hi2.2.2.keep (hk _ hi2.2.2.lt (cells_ne hc hA.waits.kind))⟩) (hA.names.same (hk _ hA.names.lt hA.apart.1.symm)) (hA.dur.same (hk _ hA.dur.lt hA.apart.2.1.symm)) hw (OwnR.nil _ _ _ _) hat fun g hgl _ _ h3 _ => hk g hgl h3
  have h3 := foot_turn (w := w6) (p := p) (s := tickS s) (l := l) (dir := q) (E := fun _ => False) (ns := (tickS s).names) (ds := (tickS s).dur) (xs := []) (v := .slice none 0 0) (fun i hi => .inl (hlive i hi)) hat
  have e : ({ tickS s with names := (tickS s).names, dur := (tickS s).dur, waits := store (tickS s).waits q [] } : Pf) = { tickS s with waits := store s.waits q [] } := by rw [tick_waits]
  rw [e] at h2 h3
  refine ⟨_, h2, (moves_tick (s := s) (l := l) hG).trans ⟨hg.os, hg.tape, hg.output, hg.size, fun g hgl hn => hk g hgl fun e => hn (.inr (.inl e)), fun g hgf => ?_⟩⟩
  rcases h3 g hgf with (h4 | ⟨_, h4, _⟩) | h4
  · exact .inl h4
  · exact h4.elim
  · exact .inr h4

set_option maxRecDepth 100000 in
set_option maxHeartbeats 4000000 in
theorem mk_noent (p : Nat) (s : Pf) (l : Loc) (path : ByteArray) (x : Plc) (f : Option Nat) (dp : Bool) (w : World) (K : MkIn p s l path x f false dp w) :
    Calls Tryz.prog 23 #[.pointer (some ⟨p, 0, none⟩), .string path] w fun e w' => e = .returned (.int .i64 50) ∧ At w' p (tickS s) l ∧ w.grownBy w' (some p) := by
  have HBG := Lib.hid K.beg; have HPA := Lib.hid K.pa; have HIX := Lib.hid K.ix; have HIP := Lib.hid K.ip; have hxo := K.xo; have HV := Lib.hid K.fv
  clear K
  go_enter Tryz.func23, Tryz.ntmps23
  go_wp2_with (first
    | (go_at_call 42; refine HBG.out.mono ?_; rintro e w1 ⟨rfl, hA, hg⟩; have HA := Lib.hid hA; have HG := Lib.hid hg; clear hA hg)
    | (go_at_call 44; refine (HPA.out _).mono ?_; clear HPA; rintro e w3 ⟨rfl, hb3⟩; have HA3 := Lib.hid ((HA.out.below hb3).below ((Below.refl _ _).alloc (Nat.le_refl _) (.cells #[.string x.d, .string x.n] 79))); have HG3 := Lib.hid (gb_below (gb_below HG.out hb3) ((Below.refl _ _).alloc (Nat.le_refl _) (.cells #[.string x.d, .string x.n] 79))); clear hb3)
    | (go_at_call 45; refine (HIX.out _ HA3.out).mono ?_; clear HIX; rintro e w4 ⟨rfl, hb4⟩; have hx0 := (hb4.cell (p := ⟨w3.heap.size, 0, none⟩) (by simp)).trans (show (w3.alloc (.cells #[.string x.d, .string x.n] 79)).cell? ⟨w3.heap.size, 0, none⟩ = some (.string x.d) by simp); have hx1 := (hb4.cell (p := ⟨w3.heap.size, 1, none⟩) (by simp)).trans (show (w3.alloc (.cells #[.string x.d, .string x.n] 79)).cell? ⟨w3.heap.size, 1, none⟩ = some (.string x.n) by simp); have hs4 : w3.heap.size < w4.heap.size := (by have := hb4.size; simp at this; omega); have HA4 := Lib.hid (HA3.out.below hb4); have HG4 := Lib.hid (gb_below HG3.out hb4); clear hb4)
    | fail)
  go_ret
  exact ⟨rfl, HA4.out, HG4.out⟩

set_option maxRecDepth 100000 in
set_option maxHeartbeats 4000000 in
theorem mk_dir (p : Nat) (s : Pf) (l : Loc) (path : ByteArray) (x : Plc) (f : Option Nat) (w : World) (K : MkIn p s l path x f true true w) :
    Calls Tryz.prog 23 #[.pointer (some ⟨p, 0, none⟩), .string path] w fun e w' => e = .returned (.int .i64 53) ∧ At w' p (tickS s) l ∧ w.grownBy w' (some p) := by
  have HBG := Lib.hid K.beg; have HPA := Lib.hid K.pa; have HIX := Lib.hid K.ix; have HIP := Lib.hid K.ip; have hxo := K.xo; have HV := Lib.hid K.fv
  clear K
  go_enter Tryz.func23, Tryz.ntmps23
  go_wp2_with (first
    | (go_at_call 42; refine HBG.out.mono ?_; rintro e w1 ⟨rfl, hA, hg⟩; have HA := Lib.hid hA; have HG := Lib.hid hg; clear hA hg)
    | (go_at_call 44; refine (HPA.out _).mono ?_; clear HPA; rintro e w3 ⟨rfl, hb3⟩; have HA3 := Lib.hid ((HA.out.below hb3).below ((Below.refl _ _).alloc (Nat.le_refl _) (.cells #[.string x.d, .string x.n] 79))); have HG3 := Lib.hid (gb_below (gb_below HG.out hb3) ((Below.refl _ _).alloc (Nat.le_refl _) (.cells #[.string x.d, .string x.n] 79))); clear hb3)
    | (go_at_call 45; refine (HIX.out _ HA3.out).mono ?_; clear HIX; rintro e w4 ⟨rfl, hb4⟩; have hx0 := (hb4.cell (p := ⟨w3.heap.size, 0, none⟩) (by simp)).trans (show (w3.alloc (.cells #[.string x.d, .string x.n] 79)).cell? ⟨w3.heap.size, 0, none⟩ = some (.string x.d) by simp); have hx1 := (hb4.cell (p := ⟨w3.heap.size, 1, none⟩) (by simp)).trans (show (w3.alloc (.cells #[.string x.d, .string x.n] 79)).cell? ⟨w3.heap.size, 1, none⟩ = some (.string x.n) by simp); have hs4 : w3.heap.size < w4.heap.size := (by have := hb4.size; simp at this; omega); have HA4 := Lib.hid (HA3.out.below hb4); have HG4 := Lib.hid (gb_below HG3.out hb4); clear hb4)
    | fail)
  obtain ⟨B, hB⟩ : ∃ B, w3.heap.size = B := ⟨_, rfl⟩
  rw [hB] at hx0 hx1 hs4 ⊢
  have hq2 : ∀ d os, (Sort.grow (redrawn w4 d) os).cell? ⟨p, 2, none⟩ = some (.map (some l.bn)) := fun d os => by rw [(HA4.out.regrown d os).cell]; rfl
  have hqx0 : ∀ d os, (Sort.grow (redrawn w4 d) os).cell? ⟨B, 0, none⟩ = some (.string x.d) := fun d os => cell_regrown hx0 d os
  have hqx1 : ∀ d os, (Sort.grow (redrawn w4 d) os).cell? ⟨B, 1, none⟩ = some (.string x.n) := fun d os => cell_regrown hx1 d os
  have hlf : ∀ d os, (Instr.lookup 56 (.map (some l.bn)) (.agg #[.string x.d, .string x.n]) false).run Tryz.prog (Sort.grow (redrawn w4 d) os) = .ok (ptrOf l f) (Sort.grow (redrawn w4 d) os) := fun d os => by
    have := (HA4.out.regrown d os).look_file hxo
    rw [HV.out] at this
    exact this
  clear hB
  refine wp_region_quiet_below (by kernel_rfl) (by kernel_rfl) ?_
  repeat (first | go_big_quiet_step ((go_at_call 45; with_reducible exact Calls.regrown_of (HIP.out _ (HA4.out.regrown _ _)))))
  refine wpQuiet_nil ?_
  intro w5 hV
  have hB5 := below_class hV
  have hz0 := (hB5.cell (p := ⟨B, 0, none⟩) hs4).trans hx0
  have hz1 := (hB5.cell (p := ⟨B, 1, none⟩) hs4).trans hx1
  have hs5 : B < w5.heap.size := Nat.lt_of_lt_of_le hs4 hB5.size
  have HA5 := Lib.hid (HA4.out.below hB5); have HG5 := Lib.hid (gb_below HG4.out hB5)
  have hw1 : w5.cell? ⟨p, 1, none⟩ = some (.map (some l.bw)) := by rw [HA5.out.cell]; rfl
  have hln := fun ty => HA5.out.len_dirs ty
  rw [tick_waits] at hln
  clear hV hB5 hq2 hqx0 hqx1 hlf hx0 hx1
  go_wp2_with fail
  go_ret
  exact ⟨rfl, HA5.out, HG5.out⟩

set_option maxRecDepth 100000 in
set_option maxHeartbeats 4000000 in
theorem mk_file (p : Nat) (s : Pf) (l : Loc) (path : ByteArray) (x : Plc) (i : Nat) (w : World) (K : MkIn p s l path x (some i) true false w) :
    Calls Tryz.prog 23 #[.pointer (some ⟨p, 0, none⟩), .string path] w fun e w' => e = .returned (.int .i64 53) ∧ At w' p (tickS s) l ∧ w.grownBy w' (some p) := by
  have HBG := Lib.hid K.beg; have HPA := Lib.hid K.pa; have HIX := Lib.hid K.ix; have HIP := Lib.hid K.ip; have hxo := K.xo; have HV := Lib.hid K.fv
  clear K
  go_enter Tryz.func23, Tryz.ntmps23
  go_wp2_with (first
    | (go_at_call 42; refine HBG.out.mono ?_; rintro e w1 ⟨rfl, hA, hg⟩; have HA := Lib.hid hA; have HG := Lib.hid hg; clear hA hg)
    | (go_at_call 44; refine (HPA.out _).mono ?_; clear HPA; rintro e w3 ⟨rfl, hb3⟩; have HA3 := Lib.hid ((HA.out.below hb3).below ((Below.refl _ _).alloc (Nat.le_refl _) (.cells #[.string x.d, .string x.n] 79))); have HG3 := Lib.hid (gb_below (gb_below HG.out hb3) ((Below.refl _ _).alloc (Nat.le_refl _) (.cells #[.string x.d, .string x.n] 79))); clear hb3)
    | (go_at_call 45; refine (HIX.out _ HA3.out).mono ?_; clear HIX; rintro e w4 ⟨rfl, hb4⟩; have hx0 := (hb4.cell (p := ⟨w3.heap.size, 0, none⟩) (by simp)).trans (show (w3.alloc (.cells #[.string x.d, .string x.n] 79)).cell? ⟨w3.heap.size, 0, none⟩ = some (.string x.d) by simp); have hx1 := (hb4.cell (p := ⟨w3.heap.size, 1, none⟩) (by simp)).trans (show (w3.alloc (.cells #[.string x.d, .string x.n] 79)).cell? ⟨w3.heap.size, 1, none⟩ = some (.string x.n) by simp); have hs4 : w3.heap.size < w4.heap.size := (by have := hb4.size; simp at this; omega); have HA4 := Lib.hid (HA3.out.below hb4); have HG4 := Lib.hid (gb_below HG3.out hb4); clear hb4)
    | fail)
  obtain ⟨B, hB⟩ : ∃ B, w3.heap.size = B := ⟨_, rfl⟩
  rw [hB] at hx0 hx1 hs4 ⊢
  have hq2 : ∀ d os, (Sort.grow (redrawn w4 d) os).cell? ⟨p, 2, none⟩ = some (.map (some l.bn)) := fun d os => by rw [(HA4.out.regrown d os).cell]; rfl
  have hqx0 : ∀ d os, (Sort.grow (redrawn w4 d) os).cell? ⟨B, 0, none⟩ = some (.string x.d) := fun d os => cell_regrown hx0 d os
  have hqx1 : ∀ d os, (Sort.grow (redrawn w4 d) os).cell? ⟨B, 1, none⟩ = some (.string x.n) := fun d os => cell_regrown hx1 d os
  have hlf : ∀ d os, (Instr.lookup 56 (.map (some l.bn)) (.agg #[.string x.d, .string x.n]) false).run Tryz.prog (Sort.grow (redrawn w4 d) os) = .ok (.pointer (some ⟨l.loc i, 0, none⟩)) (Sort.grow (redrawn w4 d) os) := fun d os => by
    have := (HA4.out.regrown d os).look_file hxo
    rw [HV.out] at this
    exact this
  clear hB
  refine wp_region_quiet_below (by kernel_rfl) (by kernel_rfl) ?_
  repeat (first | go_big_quiet_step ((go_at_call 45; with_reducible exact Calls.regrown_of (HIP.out _ (HA4.out.regrown _ _)))))
  refine wpQuiet_nil ?_
  intro w5 hV
  have hB5 := below_class hV
  have hz0 := (hB5.cell (p := ⟨B, 0, none⟩) hs4).trans hx0
  have hz1 := (hB5.cell (p := ⟨B, 1, none⟩) hs4).trans hx1
  have hs5 : B < w5.heap.size := Nat.lt_of_lt_of_le hs4 hB5.size
  have HA5 := Lib.hid (HA4.out.below hB5); have HG5 := Lib.hid (gb_below HG4.out hB5)
  have hw1 : w5.cell? ⟨p, 1, none⟩ = some (.map (some l.bw)) := by rw [HA5.out.cell]; rfl
  have hln := fun ty => HA5.out.len_dirs ty
  rw [tick_waits] at hln
  clear hV hB5 hq2 hqx0 hqx1 hlf hx0 hx1
  go_wp2_with fail
  go_ret
  exact ⟨rfl, HA5.out, HG5.out⟩

set_option maxRecDepth 100000 in
set_option maxHeartbeats 4000000 in
theorem mk_full (p : Nat) (s : Pf) (l : Loc) (path : ByteArray) (x : Plc) (w : World) (K : MkIn p s l path x none true false w) (hln256 : 256 ≤ (s.waits.length : Int)) :
    Calls Tryz.prog 23 #[.pointer (some ⟨p, 0, none⟩), .string path] w fun e w' => e = .returned (.int .i64 3) ∧ At w' p (tickS s) l ∧ w.grownBy w' (some p) := by
  have HBG := Lib.hid K.beg; have HPA := Lib.hid K.pa; have HIX := Lib.hid K.ix; have HIP := Lib.hid K.ip; have hxo := K.xo; have HV := Lib.hid K.fv
  clear K
  go_enter Tryz.func23, Tryz.ntmps23
  go_wp2_with (first
    | (go_at_call 42; refine HBG.out.mono ?_; rintro e w1 ⟨rfl, hA, hg⟩; have HA := Lib.hid hA; have HG := Lib.hid hg; clear hA hg)
    | (go_at_call 44; refine (HPA.out _).mono ?_; clear HPA; rintro e w3 ⟨rfl, hb3⟩; have HA3 := Lib.hid ((HA.out.below hb3).below ((Below.refl _ _).alloc (Nat.le_refl _) (.cells #[.string x.d, .string x.n] 79))); have HG3 := Lib.hid (gb_below (gb_below HG.out hb3) ((Below.refl _ _).alloc (Nat.le_refl _) (.cells #[.string x.d, .string x.n] 79))); clear hb3)
    | (go_at_call 45; refine (HIX.out _ HA3.out).mono ?_; clear HIX; rintro e w4 ⟨rfl, hb4⟩; have hx0 := (hb4.cell (p := ⟨w3.heap.size, 0, none⟩) (by simp)).trans (show (w3.alloc (.cells #[.string x.d, .string x.n] 79)).cell? ⟨w3.heap.size, 0, none⟩ = some (.string x.d) by simp); have hx1 := (hb4.cell (p := ⟨w3.heap.size, 1, none⟩) (by simp)).trans (show (w3.alloc (.cells #[.string x.d, .string x.n] 79)).cell? ⟨w3.heap.size, 1, none⟩ = some (.string x.n) by simp); have hs4 : w3.heap.size < w4.heap.size := (by have := hb4.size; simp at this; omega); have HA4 := Lib.hid (HA3.out.below hb4); have HG4 := Lib.hid (gb_below HG3.out hb4); clear hb4)
    | fail)
  obtain ⟨B, hB⟩ : ∃ B, w3.heap.size = B := ⟨_, rfl⟩
  rw [hB] at hx0 hx1 hs4 ⊢
  have hq2 : ∀ d os, (Sort.grow (redrawn w4 d) os).cell? ⟨p, 2, none⟩ = some (.map (some l.bn)) := fun d os => by rw [(HA4.out.regrown d os).cell]; rfl
  have hqx0 : ∀ d os, (Sort.grow (redrawn w4 d) os).cell? ⟨B, 0, none⟩ = some (.string x.d) := fun d os => cell_regrown hx0 d os
  have hqx1 : ∀ d os, (Sort.grow (redrawn w4 d) os).cell? ⟨B, 1, none⟩ = some (.string x.n) := fun d os => cell_regrown hx1 d os
  have hlf : ∀ d os, (Instr.lookup 56 (.map (some l.bn)) (.agg #[.string x.d, .string x.n]) false).run Tryz.prog (Sort.grow (redrawn w4 d) os) = .ok (.pointer none) (Sort.grow (redrawn w4 d) os) := fun d os => by
    have := (HA4.out.regrown d os).look_file hxo
    rw [HV.out] at this
    exact this
  clear hB
  refine wp_region_quiet_below (by kernel_rfl) (by kernel_rfl) ?_
  repeat (first | go_big_quiet_step ((go_at_call 45; with_reducible exact Calls.regrown_of (HIP.out _ (HA4.out.regrown _ _)))))
  refine wpQuiet_nil ?_
  intro w5 hV
  have hB5 := below_class hV
  have hz0 := (hB5.cell (p := ⟨B, 0, none⟩) hs4).trans hx0
  have hz1 := (hB5.cell (p := ⟨B, 1, none⟩) hs4).trans hx1
  have hs5 : B < w5.heap.size := Nat.lt_of_lt_of_le hs4 hB5.size
  have HA5 := Lib.hid (HA4.out.below hB5); have HG5 := Lib.hid (gb_below HG4.out hB5)
  have hw1 : w5.cell? ⟨p, 1, none⟩ = some (.map (some l.bw)) := by rw [HA5.out.cell]; rfl
  have hln := fun ty => HA5.out.len_dirs ty
  rw [tick_waits] at hln
  clear hV hB5 hq2 hqx0 hqx1 hlf hx0 hx1
  go_wp2_with fail
  go_ret
  exact ⟨rfl, HA5.out, HG5.out⟩

set_option maxRecDepth 100000 in
set_option maxHeartbeats 4000000 in
theorem mk_ok (p : Nat) (s : Pf) (l : Loc) (path : ByteArray) (x : Plc) (w : World) (K : MkIn p s l path x none true false w) (hln256 : ¬ 256 ≤ (s.waits.length : Int)) (hpo : okS (pathOfP x)) :
    Calls Tryz.prog 23 #[.pointer (some ⟨p, 0, none⟩), .string path] w fun e w' => e = .returned (.int .i64 0) ∧ After w p s { tickS s with waits := store s.waits (pathOfP x) [] } l w' := by
  have HBG := Lib.hid K.beg; have HPA := Lib.hid K.pa; have HIX := Lib.hid K.ix; have HIP := Lib.hid K.ip; have hxo := K.xo; have HV := Lib.hid K.fv
  clear K
  go_enter Tryz.func23, Tryz.ntmps23
  go_wp2_with (first
    | (go_at_call 42; refine HBG.out.mono ?_; rintro e w1 ⟨rfl, hA, hg⟩; have HA := Lib.hid hA; have HG := Lib.hid hg; clear hA hg)
    | (go_at_call 44; refine (HPA.out _).mono ?_; clear HPA; rintro e w3 ⟨rfl, hb3⟩; have HA3 := Lib.hid ((HA.out.below hb3).below ((Below.refl _ _).alloc (Nat.le_refl _) (.cells #[.string x.d, .string x.n] 79))); have HG3 := Lib.hid (gb_below (gb_below HG.out hb3) ((Below.refl _ _).alloc (Nat.le_refl _) (.cells #[.string x.d, .string x.n] 79))); clear hb3)
    | (go_at_call 45; refine (HIX.out _ HA3.out).mono ?_; clear HIX; rintro e w4 ⟨rfl, hb4⟩; have hx0 := (hb4.cell (p := ⟨w3.heap.size, 0, none⟩) (by simp)).trans (show (w3.alloc (.cells #[.string x.d, .string x.n] 79)).cell? ⟨w3.heap.size, 0, none⟩ = some (.string x.d) by simp); have hx1 := (hb4.cell (p := ⟨w3.heap.size, 1, none⟩) (by simp)).trans (show (w3.alloc (.cells #[.string x.d, .string x.n] 79)).cell? ⟨w3.heap.size, 1, none⟩ = some (.string x.n) by simp); have hs4 : w3.heap.size < w4.heap.size := (by have := hb4.size; simp at this; omega); have HA4 := Lib.hid (HA3.out.below hb4); have HG4 := Lib.hid (gb_below HG3.out hb4); clear hb4)
    | fail)
  obtain ⟨B, hB⟩ : ∃ B, w3.heap.size = B := ⟨_, rfl⟩
  rw [hB] at hx0 hx1 hs4 ⊢
  have hq2 : ∀ d os, (Sort.grow (redrawn w4 d) os).cell? ⟨p, 2, none⟩ = some (.map (some l.bn)) := fun d os => by rw [(HA4.out.regrown d os).cell]; rfl
  have hqx0 : ∀ d os, (Sort.grow (redrawn w4 d) os).cell? ⟨B, 0, none⟩ = some (.string x.d) := fun d os => cell_regrown hx0 d os
  have hqx1 : ∀ d os, (Sort.grow (redrawn w4 d) os).cell? ⟨B, 1, none⟩ = some (.string x.n) := fun d os => cell_regrown hx1 d os
  have hlf : ∀ d os, (Instr.lookup 56 (.map (some l.bn)) (.agg #[.string x.d, .string x.n]) false).run Tryz.prog (Sort.grow (redrawn w4 d) os) = .ok (.pointer none) (Sort.grow (redrawn w4 d) os) := fun d os => by
    have := (HA4.out.regrown d os).look_file hxo
    rw [HV.out] at this
    exact this
  clear hB
  refine wp_region_quiet_below (by kernel_rfl) (by kernel_rfl) ?_
  repeat (first | go_big_quiet_step ((go_at_call 45; with_reducible exact Calls.regrown_of (HIP.out _ (HA4.out.regrown _ _)))))
  refine wpQuiet_nil ?_
  intro w5 hV
  have hB5 := below_class hV
  have hz0 := (hB5.cell (p := ⟨B, 0, none⟩) hs4).trans hx0
  have hz1 := (hB5.cell (p := ⟨B, 1, none⟩) hs4).trans hx1
  have hs5 : B < w5.heap.size := Nat.lt_of_lt_of_le hs4 hB5.size
  have HA5 := Lib.hid (HA4.out.below hB5); have HG5 := Lib.hid (gb_below HG4.out hB5)
  have hw1 : w5.cell? ⟨p, 1, none⟩ = some (.map (some l.bw)) := by rw [HA5.out.cell]; rfl
  have hln := fun ty => HA5.out.len_dirs ty
  rw [tick_waits] at hln
  clear hV hB5 hq2 hqx0 hqx1 hlf hx0 hx1
  go_wp2_with fail
  clear hln
  refine wp_region_mix (fun z => z.cell? ⟨p, 1, none⟩ = some (.map (some l.bw)) ∧ z.cell? ⟨B, 0, none⟩ = some (.string x.d) ∧ z.cell? ⟨B, 1, none⟩ = some (.string x.n))
    [true, true, true, true, true, false] _ (by kernel_rfl) rfl (by kernel_rfl) ⟨hw1, hz0, hz1⟩ ?_
  dsimp only [List.dropLast, List.zip, List.zipWith, List.getLast]
  repeat (apply wpMix_free
          · intro z hz
            try dsimp only at hz
            go_simp
            all_goals with_reducible rfl
          simp only [Act.put, List.setIfInBounds_toArray, List.set_cons_zero, List.set_cons_succ])
  refine wpMix_turn (fun K hK => ?_)
  have HK := Lib.hid hK; clear hK
  go_simp
  refine (path_any x _ hxo).mono ?_
  rintro e w6 ⟨rfl, hb6'⟩
  have hb6 : Below w5.heap.size w5 w6 := (Below.refl _ _).drew.trans hb6'
  have HA6 := Lib.hid (HA5.out.below hb6); have HG6 := Lib.hid (gb_below HG5.out hb6)
  refine HK.out _ _ ⟨by rw [HA6.out.cell]; rfl, (hb6.cell (p := ⟨B, 0, none⟩) hs5).trans hz0, (hb6.cell (p := ⟨B, 1, none⟩) hs5).trans hz1⟩ ?_
  clear HK hb6 hb6'
  try simp only [Act.put, List.setIfInBounds_toArray, List.set_cons_zero, List.set_cons_succ]
  refine wpMix_end ?_
  have hwt := HA6.out.waits
  refine wp_store str_laid Tryz.underlying55 (.tmp 45) (.tmp 47) (.const (.slice none 0 0)) rfl hwt (by rw [List.length_map, tick_waits]; unfold maxLen; omega) rfl rfl hpo (.slice none 0 0) rfl ?_
  intro w7 hw7 hg7 _
  simp only [Act.put]
  have HW7 := Lib.hid hw7; have HG7 := Lib.hid hg7
  clear hw7 hg7 hwt
  go_wp2_with fail
  go_ret
  exact ⟨rfl, mkdir_left HA6.out HG6.out HW7.out HG7.out⟩

set_option maxRecDepth 100000 in
set_option maxHeartbeats 4000000 in
theorem mk_wrong (p : Nat) (s : Pf) (l : Loc) (path : ByteArray) (r : Int) (w : World) (hr0 : r ≠ 0) (HBG : Hid (Calls Tryz.prog 42 #[.pointer (some ⟨p, 0, none⟩), .func (.func 43) #[] #[], .slice (some ⟨w.heap.size, 0, none⟩) 1 1] (w.alloc (.cells #[.string path] 9)) fun e w' => e = .returned (.int .i64 r) ∧ At w' p (tickS s) l ∧ w.grownBy w' (some p))) :
    Calls Tryz.prog 23 #[.pointer (some ⟨p, 0, none⟩), .string path] w fun e w' => e = .returned (.int .i64 r) ∧ At w' p (tickS s) l ∧ w.grownBy w' (some p) := by
  have hr1 : (r != 0) = true := by simpa using hr0
  have hr2 : (r == 0) = false := by simpa using hr0
  clear hr0
  go_enter Tryz.func23, Tryz.ntmps23
  go_wp2_with (go_at_call 42; refine HBG.out.mono ?_; rintro e w1 ⟨rfl, hA, hg⟩; have HA := Lib.hid hA; have HG := Lib.hid hg; clear hA hg)
  go_ret
  exact ⟨rfl, HA.out, HG.out⟩

theorem mkdir_any (p : Nat) (s : Pf) (l : Loc) (T : Nat) (path : ByteArray) (w : World) (h : At w p s l) (hf : Fits s T) (ho : okS path) :
    Calls Tryz.prog 23 #[.pointer (some ⟨p, 0, none⟩), .string path] w fun e w' => e = .returned (.int .i64 (mkdirRes s path)) ∧ After w p s (mkdirS s path) l w' := by
  have HBG := begin_has p s l path w h hf.left ho
  obtain ⟨r, hr⟩ : ∃ r, beginRes s (hasName path.data.toList) = r := ⟨_, rfl⟩
  rw [hr] at HBG
  have tick : ∀ {R : Int}, mkdirRes s path = R → R ≠ 0 → (Calls Tryz.prog 23 #[.pointer (some ⟨p, 0, none⟩), .string path] w fun e w' => e = .returned (.int .i64 R) ∧ At w' p (tickS s) l ∧ w.grownBy w' (some p)) → Calls Tryz.prog 23 #[.pointer (some ⟨p, 0, none⟩), .string path] w fun e w' => e = .returned (.int .i64 (mkdirRes s path)) ∧ After w p s (mkdirS s path) l w' := fun {R} hR hn hc => hc.mono fun e w' ⟨he, hA, hg⟩ => by
    have hsy : mkdirS s path = tickS s := by unfold mkdirS; rw [if_neg (by rw [hR]; exact hn)]
    exact ⟨by rw [he, hR], l, by rw [hsy]; exact hA, by rw [hsy]; exact moves_tick hg⟩
  by_cases hr0 : r = 0
  · subst hr0
    have hgn := begin_good hr
    have hsl := good_slashed hgn
    have hres := mkdirRes_0 hr
    have hpo := pathOfP_ok ho hsl
    obtain ⟨x, hx⟩ : ∃ x, plcOf path = x := ⟨_, rfl⟩
    have hxo : okP x := by rw [← hx]; exact plc_ok ho hsl
    obtain ⟨f, hfo⟩ : ∃ f, fileOf s path = f := ⟨_, rfl⟩
    obtain ⟨dx, hdx⟩ : ∃ dx, isDirS s x.d = dx := ⟨_, rfl⟩
    obtain ⟨dp, hdp⟩ : ∃ dp, isDirS s path = dp := ⟨_, rfl⟩
    have K : MkIn p s l path x f dx dp w := ⟨HBG, fun W => by rw [← hx]; exact placeOf_any path W ho hsl, hxo, by rw [tick_fileV, ← hx, fileV_eq, hfo],
      fun W hW => by have := isDir_any p (tickS s) l x.d W hW hxo.1; rw [tick_dir, hdx] at this; exact same_below this, fun W hW => by have := isDir_any p (tickS s) l path W hW ho; rw [tick_dir, hdp] at this; exact same_below this⟩
    rw [hfo, hx, hdx, hdp] at hres
    cases dx with
    | false => exact tick hres (by simp) (by simpa using mk_noent p s l path x f dp w K)
    | true =>
      cases dp with
      | true => exact tick hres (by simp) (by simpa using mk_dir p s l path x f w K)
      | false =>
        cases f with
        | some i => exact tick hres (by simp) (by simpa using mk_file p s l path x i w K)
        | none =>
          by_cases h256 : 256 ≤ s.waits.length
          · exact tick hres (by simp [h256]) (by simpa [h256] using mk_full p s l path x w K (by omega))
          · have hR : mkdirRes s path = 0 := by rw [hres]; simp [h256]
            have hsy : mkdirS s path = { tickS s with waits := store s.waits (pathOfP x) [] } := by unfold mkdirS; rw [if_pos hR, hx]
            rw [hR, hsy]
            exact mk_ok p s l path x w K (by omega) (by rw [← hx]; exact hpo)
  · have hR : mkdirRes s path = r := by rw [mkdirRes_n (by rw [hr]; exact hr0), hr]
    exact tick hR hr0 (mk_wrong p s l path r w hr0 HBG)
end Go.Proofs.YtdbcjiapbehacaaGreatDoor.Vp

/-! Layer 5: rows of bytes; a file that is made. -/
namespace Go.Proofs.YtdbcjiapbehacaaGreatDoor.Vp
open Go.RowKit Go.Maps
open Go.Proofs.YtdbcjiapbehacaaGreatDoor.Vf (Hold OwnR Moves ret_int Hold.cell Hold.frozen Hold.keep Hold.lt Hold.set OwnR.blk OwnR.kind OwnR.lt kind_ne gb_set Moves.refl Moves.trans)

/-! ### Rows of bytes -/
/-- A slice of bytes that reads as s. -/
def BytesAt (w : World) (v : Value) (s : ByteArray) : Prop := ∃ A c, v = .slice A s.size c ∧ (s.size = 0 ∨ ∃ g o cur fr, A = some ⟨g, o, none⟩ ∧ w.heap[g]? = some (.cells cur 5 fr) ∧ ∀ j (hj : j < s.data.toList.length), w.cell? ⟨g, o + j, none⟩ = some (.int .u8 (s.data.toList[j].toNat : Int)))
theorem BytesAt.len {w : World} {v : Value} {s : ByteArray} (h : BytesAt w v s) : ∃ A c, v = .slice A s.size c := by
  obtain ⟨A, c, h, _⟩ := h; exact ⟨A, c, h⟩
theorem BytesAt.text {w : World} {v : Value} {s : ByteArray} (h : BytesAt w v s) : (convert 38 9 v).run Tryz.prog w = .ok (.string s) w := by
  obtain ⟨A, c, rfl, h⟩ := h
  rcases h with h0 | ⟨g, o, cur, fr, rfl, _, hc⟩
  · have hs : s = ⟨#[]⟩ := by
      have : s.data.size = 0 := h0
      exact ByteArray.ext (Array.eq_empty_of_size_eq_zero this)
    subst hs
    rw [show (⟨#[]⟩ : ByteArray).size = 0 from rfl]
    rw [run_convert_bytes_string w 38 9 5 A 0 c Tryz.underlying38 Tryz.underlying5 Tryz.underlying9]
    cases A with
    | none => simp [Conv.bytesToString]; rfl
    | some a => exact run_bytesToString w a 0 c [] (by simp [loadCells]; rfl)
  · have := run_convert_bytes_back (P := Tryz.prog) w 38 9 5 ⟨g, o, none⟩ c s.data.toList Tryz.underlying38 Tryz.underlying5 Tryz.underlying9 (fun j hj => by rw [Addr.add_lit]; exact hc j hj)
    rw [Lib.size_eq]
    rw [this]
theorem BytesAt.keep {w w' : World} {v : Value} {s : ByteArray} (h : BytesAt w v s) (hk : ∀ (g : Nat) (cur : Array Value) (fr : Nat × Nat), w.heap[g]? = some (Obj.cells cur 5 fr) → w'.heap[g]? = w.heap[g]?) : BytesAt w' v s := by
  obtain ⟨A, c, e, h⟩ := h
  refine ⟨A, c, e, h.imp id ?_⟩
  rintro ⟨g, o, cur, fr, e, hg, hc⟩
  exact ⟨g, o, cur, fr, e, (hk g cur fr hg).trans hg, fun j hj => (World.cell?_of_block (a := ⟨g, o + j, none⟩) (hk g cur fr hg)).trans (hc j hj)⟩
theorem BytesAt.below {w w' : World} {v : Value} {s : ByteArray} (h : BytesAt w v s) (hb : Below w.heap.size w w') : BytesAt w' v s :=
  h.keep fun g _ _ hg => hb.block g (Array.getElem?_eq_some_iff.1 hg).1
section
variable {w w' : World} {p : Nat} {s : Pf} {l : Loc}
theorem cells_ty {a b : Nat} {x y : Array Value} {t u : TypeId} {f f' : Nat × Nat} (h : w.heap[a]? = some (.cells x t f)) (k : w.heap[b]? = some (.cells y u f')) (hne : t ≠ u) : a ≠ b := by
  rintro rfl
  rw [h] at k
  injection k with k; injection k with _ k; exact hne k
/-- No row of bytes is among the blocks that it writes. -/
theorem At.no_bytes (h : At w p s l) {g : Nat} {cur : Array Value} {fr : Nat × Nat} (hg : w.heap[g]? = some (.cells cur 5 fr)) : ¬ Foot p s l g := by
  have hm : ∀ {b : Nat}, (∃ es clock, w.heap[b]? = some (.map es clock)) → g ≠ b := by
    rintro b ⟨es, clock, hb⟩ rfl
    rw [hg] at hb; cases hb
  rintro (e | e | e | e | ⟨i, hi, e⟩ | ⟨x, hx, e⟩)
  · exact cells_ty hg (show w.heap[p]? = _ from h.top) (by decide) e
  · exact hm h.waits.kind e
  · exact hm h.names.kind e
  · exact hm h.dur.kind e
  · exact cells_ty hg (show w.heap[l.loc i]? = _ from (h.files i hi).2.2) (by decide) e
  · obtain ⟨cur2, hc⟩ := (h.rows x hx).kind e
    exact cells_ty hg hc (by decide) rfl
/-- Rows of bytes stay while it turns. -/
theorem BytesAt.moves {F' : Nat → Prop} {v : Value} {b : ByteArray} (hb : BytesAt w v b) (h : At w p s l) (hm : Moves w w' (Foot p s l) F') : BytesAt w' v b :=
  hb.keep fun g _ _ hg => hm.stay g (Array.getElem?_eq_some_iff.1 hg).1 (h.no_bytes hg)
theorem BytesAt.gb {v : Value} {b : ByteArray} (hb : BytesAt w v b) (h : At w p s l) (hm : w.grownBy w' (some p)) : BytesAt w' v b :=
  hb.keep fun g _ _ hg => hm.block g (Array.getElem?_eq_some_iff.1 hg).1 fun e => by injection e with e; exact h.no_bytes hg (.inl e)

/-! ### A file that is made -/
theorem MapL.congr {α β : Type} {P : Program} {k : TypeId} {ok : α → Prop} {mk : α → Value} {mv mv' : β → Value} {b : Nat} {ns : List (α × β)} (h : MapL P k mk mv ok w b ns) (he : ∀ q ∈ ns, mv q.2 = mv' q.2) : MapL P k mk mv' ok w b ns := by
  refine ⟨?_, h.good, h.apart⟩
  have e : dat P k mk mv ns = dat P k mk mv' ns := by
    unfold dat
    congr 2
    refine List.map_congr_left fun q hq => ?_
    unfold ent
    rw [he q hq]
  rw [← e]; exact h.own
/-- One more was made. -/
theorem at_made (h : At w p s l) : At (w.setCell ⟨p, 4, none⟩ (.int .i64 ((s.made : Int) + 1))) p { s with made := s.made + 1 } l := by
  have hg : w.grownBy (w.setCell ⟨p, 4, none⟩ (.int .i64 ((s.made : Int) + 1))) (some p) := gb_set (World.grownBy.refl _ _) _ _
  have hpt : w.heap[p]? = some (.cells (topCells s l).toArray 58 (0, 0)) := h.top
  have hk : ∀ g, g < w.heap.size → g ≠ p → (w.setCell ⟨p, 4, none⟩ (.int .i64 ((s.made : Int) + 1))).heap[g]? = w.heap[g]? := fun g hl hne => hg.block g hl (by simpa using hne)
  refine ⟨h.top.set 4 _, h.waits.same (hk _ h.waits.lt (cells_ne hpt h.waits.kind).symm), h.names.same (hk _ h.names.lt (cells_ne hpt h.names.kind).symm), h.dur.same (hk _ h.dur.lt (cells_ne hpt h.dur.kind).symm), h.apart, fun i hi => ?_, fun x hx => ?_, h.own⟩
  · have hf := h.files i hi
    have hc : w.heap[l.loc i]? = _ := hf.2.2
    exact ⟨hf.1, Nat.le_succ_of_le hf.2.1, hf.2.2.keep (hk _ hf.2.2.lt (kind_ne hc hpt (by decide)))⟩
  · refine (h.rows x hx).blk fun g hgb => ?_
    obtain ⟨cur, hc⟩ := (h.rows x hx).kind hgb
    exact hk g ((h.rows x hx).lt g hgb).2 (kind_ne hc hpt (by decide))
def setLoc (l : Loc) (i g : Nat) : Loc := { l with loc := fun j => if j = i then g else l.loc j }
theorem setLoc_same (l : Loc) (i g : Nat) : (setLoc l i g).loc i = g := by simp [setLoc]
theorem setLoc_other {l : Loc} {i j g : Nat} (h : j ≠ i) : (setLoc l i g).loc j = l.loc j := by simp [setLoc, h]
/-- A number that none has stands for another block. -/
theorem at_loc (h : At w p s l) (i g : Nat) (x : Fil) (hi : ∀ j, Live s j → j ≠ i) : At w p { s with files := putFile s.files i x } (setLoc l i g) := by
  have hpv : ∀ j, Live s j → pv l j = pv (setLoc l i g) j := fun j hj => by unfold pv; rw [setLoc_other (hi j hj)]
  refine ⟨h.top, h.waits, h.names.congr fun q hq => hpv _ (.inl ⟨q, hq, rfl⟩), h.dur.congr fun q hq => hpv _ (.inr (.inl ⟨q, hq, rfl⟩)), h.apart, fun j hj => ?_, fun y hy => ?_, h.own⟩
  · have hj' : Live s j := hj
    have hne := hi j hj'
    obtain ⟨h1, h2, h3⟩ := h.files j hj'
    refine ⟨h1, h2, ?_⟩
    rw [setLoc_other hne]
    show Hold w (l.loc j) _ (filCells j (putFile s.files i x j))
    rw [show putFile s.files i x j = s.files j by simp [putFile, hne]]
    exact h3
  · have := h.rows y hy
    have e : y.2.map (stCells (setLoc l i g)) = y.2.map (stCells l) := by
      refine List.map_congr_left fun st hst => ?_
      unfold stCells
      cases hf : st.file with
      | none => rfl
      | some j => simp only []; rw [hpv j (.inr (.inr ⟨y, hy, st, hst, hf⟩))]
    rw [e]; exact this
theorem At.made_lt (h : At w p s l) : ∀ j, Live s j → j ≠ s.made + 1 := fun j hj => by have := (h.files j hj).2.1; omega
end
end Go.Proofs.YtdbcjiapbehacaaGreatDoor.Vp

/-! Layer 5: the program's Write. -/
namespace Go.Proofs.YtdbcjiapbehacaaGreatDoor.Vp
open Go.RowKit Go.Maps
open Go.Proofs.YtdbcjiapbehacaaGreatDoor.Vf (Hold OwnR Moves ret_int wp_region_mix wpMix_free wpMix_turn wpMix_end Hold.cell Hold.frozen Hold.keep Hold.lt Hold.set OwnR.nil gb_set Moves.refl Moves.trans)

def wrTail (f : Option Nat) (few : Bool) (n : Nat) (U : Int) (L : Nat) (R : Int) : Int := if 65536 < n ∨ (f = none ∧ few = true) then 3 else if U - L + n > R then 51 else 0
theorem writeRes_0 {s : Pf} {path b : ByteArray} (h : beginRes s (hasName path.data.toList) = 0) : writeRes s path b = if !isDirS s (plcOf path).d then 50 else if isDirS s path then 53 else wrTail (fileOf s path) (decide (256 ≤ s.names.length)) b.size (usedS s) (longS s (fileOf s path)) s.room := by
  unfold writeRes wrTail
  rw [if_neg (by rw [h]; decide)]
  simp only [decide_eq_true_eq]
theorem writeRes_n {s : Pf} {path b : ByteArray} (h : beginRes s (hasName path.data.toList) ≠ 0) : writeRes s path b = beginRes s (hasName path.data.toList) := by
  unfold writeRes; rw [if_pos h]
/-- What the walks of Write take as known besides. -/
structure WrIn (p : Nat) (s : Pf) (l : Loc) (f : Option Nat) (U L : Nat) (R : Int) : Prop where
  us : ∀ W : World, At W p (tickS s) l → Calls Tryz.prog 22 #[.pointer (some ⟨p, 0, none⟩)] W fun e w' => e = .returned (.int .i64 U) ∧ Below W.heap.size W w'
  lg : ∀ W : World, At W p (tickS s) l → Calls Tryz.prog 46 #[ptrOf l f] W fun e w' => e = .returned (.int .i64 L) ∧ Below W.heap.size W w'
  ro : (tickS s).room = R
  ub : U ≤ 4611686018427387904
  lb : L ≤ 1048576
/-- A file that was made, by a name. -/
def madeS (s : Pf) (x : Plc) : Pf := changeS { tickS s with made := s.made + 1, files := putFile s.files (s.made + 1) ⟨⟨#[]⟩, ⟨#[]⟩⟩ } x.d ⟨⟨#[]⟩, x.n, some (s.made + 1)⟩
def madeL (s : Pf) (l : Loc) (x : Plc) (g : Nat) (v : Value) : Loc := setRow (setLoc l (s.made + 1) g) x.d v
theorem made_live (s : Pf) (x : Plc) : Live (madeS s x) (s.made + 1) := .inl ⟨(⟨x.d, x.n⟩, s.made + 1), by simp [madeS, changeS, takeS, store], rfl⟩
theorem At.made_hold {w : World} {p g : Nat} {s : Pf} {l : Loc} {x : Plc} {v : Value} (h : At w p (madeS s x) (madeL s l x g v)) : Hold w g 83 (filCells (s.made + 1) ⟨⟨#[]⟩, ⟨#[]⟩⟩) := by
  have := (h.files _ (made_live s x)).2.2
  have e : (madeL s l x g v).loc (s.made + 1) = g := setLoc_same l (s.made + 1) g
  have e2 : (madeS s x).files (s.made + 1) = ⟨⟨#[]⟩, ⟨#[]⟩⟩ := by simp [madeS, changeS, putFile]
  rw [e, e2] at this
  exact this
theorem made_file {w w7 : World} {p : Nat} {s : Pf} {l : Loc} {x : Plc} (h : At w7 p (tickS s) l) (hg : w.grownBy w7 (some p)) (hsm : s.names.length ≤ 1000000 ∧ (waitsOf s x.d).length ≤ 1000000 ∧ s.waits.length ≤ 1000000) (hx : okP x) :
    Calls Tryz.prog 47 #[.pointer (some ⟨p, 0, none⟩), .string x.d, .agg #[.string ⟨#[]⟩, .string x.n, .pointer (some ⟨w7.heap.size, 0, none⟩)]] ((w7.setCell ⟨p, 4, none⟩ (.int .i64 ((s.made : Int) + 1))).alloc (.cells #[.int .i64 ((s.made : Int) + 1), .string ⟨#[]⟩, .string ⟨#[]⟩] 83)) fun e w' => (∃ r, e = .returned r) ∧ ∃ v, At w' p (madeS s x) (madeL s l x w7.heap.size v) ∧ Moves w w' (Foot p s l) (Foot p (madeS s x) (madeL s l x w7.heap.size v)) ∧ ∀ u b, BytesAt w7 u b → BytesAt w' u b := by
  obtain ⟨W, hW⟩ : ∃ W, (w7.setCell ⟨p, 4, none⟩ (.int .i64 ((s.made : Int) + 1))).alloc (.cells #[.int .i64 ((s.made : Int) + 1), .string ⟨#[]⟩, .string ⟨#[]⟩] 83) = W := ⟨_, rfl⟩
  have h1 := at_made h
  rw [tick_made] at h1
  have hbl : Below (w7.setCell ⟨p, 4, none⟩ (.int .i64 ((s.made : Int) + 1))).heap.size (w7.setCell ⟨p, 4, none⟩ (.int .i64 ((s.made : Int) + 1))) W := by rw [← hW]; exact (Below.refl _ _).alloc (Nat.le_refl _) _
  have hg7 : w7.grownBy W (some p) := gb_below (gb_set (World.grownBy.refl _ _) _ _) hbl
  have h2 := at_loc (h1.below hbl) (s.made + 1) w7.heap.size ⟨⟨#[]⟩, ⟨#[]⟩⟩ fun j hj => by have := h.made_lt j hj; rwa [tick_made] at this
  have e1 : ({ ({ tickS s with made := s.made + 1 } : Pf) with files := putFile ({ tickS s with made := s.made + 1 } : Pf).files (s.made + 1) ⟨⟨#[]⟩, ⟨#[]⟩⟩ } : Pf) = { tickS s with made := s.made + 1, files := putFile s.files (s.made + 1) ⟨⟨#[]⟩, ⟨#[]⟩⟩ } := by rw [← tick_files s]
  rw [e1] at h2
  have hH : Hold W w7.heap.size 83 (filCells (s.made + 1) ⟨⟨#[]⟩, ⟨#[]⟩⟩) := by
    rw [← hW]
    have := heap_alloc_new (w7.setCell ⟨p, 4, none⟩ (.int .i64 ((s.made : Int) + 1))) (.cells #[.int .i64 ((s.made : Int) + 1), .string ⟨#[]⟩, .string ⟨#[]⟩] 83)
    simpa [Hold, filCells] using this
  have hwt : waitsOf { tickS s with made := s.made + 1, files := putFile s.files (s.made + 1) ⟨⟨#[]⟩, ⟨#[]⟩⟩ } x.d = waitsOf s x.d := by unfold waitsOf; rw [show ({ tickS s with made := s.made + 1, files := putFile s.files (s.made + 1) ⟨⟨#[]⟩, ⟨#[]⟩⟩ } : Pf).waits = s.waits from tick_waits s]
  have hc := change_any p _ _ x.d ⟨⟨#[]⟩, x.n, some (s.made + 1)⟩ W h2 hx.1 ok_empty hx.2 (by show (tickS s).names.length ≤ _; rw [tick_names]; exact hsm.1) (by rw [hwt]; exact hsm.2.1) (by show (tickS s).waits.length ≤ _; rw [tick_waits]; exact hsm.2.2) (fun i hi => by
    injection hi with hi; subst hi
    refine ⟨by omega, Nat.le_refl _, ?_⟩
    rw [setLoc_same]
    show Hold W _ _ (filCells (s.made + 1) (putFile s.files (s.made + 1) ⟨⟨#[]⟩, ⟨#[]⟩⟩ (s.made + 1)))
    rw [show putFile s.files (s.made + 1) ⟨⟨#[]⟩, ⟨#[]⟩⟩ (s.made + 1) = ⟨⟨#[]⟩, ⟨#[]⟩⟩ by simp [putFile]]
    exact hH)
  have ep : ptrOf (setLoc l (s.made + 1) w7.heap.size) (some (s.made + 1)) = .pointer (some ⟨w7.heap.size, 0, none⟩) := by show pv _ _ = _; unfold pv; rw [setLoc_same]
  simp only [] at hc
  rw [ep] at hc
  rw [hW]
  refine hc.mono ?_
  rintro e w' ⟨hr, v, hA, hM⟩
  have hfoot : ∀ g, (Foot p { tickS s with made := s.made + 1, files := putFile s.files (s.made + 1) ⟨⟨#[]⟩, ⟨#[]⟩⟩ } (setLoc l (s.made + 1) w7.heap.size) g ∨ ∃ i, some (s.made + 1) = some i ∧ g = (setLoc l (s.made + 1) w7.heap.size).loc i) → Foot p (tickS s) l g ∨ g = w7.heap.size := by
    rintro g (hf | ⟨i, hi, rfl⟩)
    · rcases hf with e | e | e | e | ⟨i, hi, e⟩ | hx
      · exact .inl (.inl e)
      · exact .inl (.inr (.inl e))
      · exact .inl (.inr (.inr (.inl e)))
      · exact .inl (.inr (.inr (.inr (.inl e))))
      · have hi' : Live (tickS s) i := hi
        have hne := h.made_lt i hi'
        rw [tick_made] at hne
        rw [setLoc_other hne] at e
        exact .inl (.inr (.inr (.inr (.inr (.inl ⟨i, hi', e⟩)))))
      · exact .inl (.inr (.inr (.inr (.inr (.inr hx)))))
    · injection hi with hi; subst hi; exact .inr (setLoc_same _ _ _)
  have hsz : w7.heap.size ≤ W.heap.size := hg7.size
  refine ⟨hr, v, hA, ?_, fun u b hb => ?_⟩
  · have m1 := (moves_tick (s := s) (l := l) (hg.trans hg7))
    refine ⟨hM.os.trans m1.os, hM.tape.trans m1.tape, hM.output.trans m1.output, Nat.le_trans m1.size hM.size, fun g hgl hn => ?_, fun g hgf => ?_⟩
    · refine (hM.stay g (Nat.lt_of_lt_of_le hgl m1.size) fun hf => ?_).trans (m1.stay g hgl hn)
      rcases hfoot g hf with h4 | h4
      · exact hn (foot_tickS.1 h4)
      · have := hg.size; omega
    · rcases hM.new g hgf with h4 | h4
      · rcases hfoot g h4 with h5 | h5
        · exact .inl (foot_tickS.1 h5)
        · exact .inr (by have := hg.size; omega)
      · exact .inr (Nat.le_trans m1.size h4)
  · have hb2 := hb.gb h hg7
    refine hb2.keep fun g cur fr hgc => hM.stay g (Array.getElem?_eq_some_iff.1 hgc).1 fun hf => ?_
    rcases hf with hf | ⟨i, hi, e⟩
    · exact h2.no_bytes hgc hf
    · injection hi with hi; subst hi
      rw [setLoc_same] at e
      exact cells_ty hgc (show W.heap[w7.heap.size]? = _ from hH) (by decide) e
theorem made_left {w w8 : World} {p g : Nat} {s : Pf} {l : Loc} {x : Plc} {v : Value} {b : ByteArray} (hA : At w8 p (madeS s x) (madeL s l x g v)) (hM : Moves w w8 (Foot p s l) (Foot p (madeS s x) (madeL s l x g v))) (hF : Hold w8 g 83 (filCells (s.made + 1) ⟨⟨#[]⟩, ⟨#[]⟩⟩)) :
    After w p s { changeS { tickS s with made := s.made + 1 } x.d ⟨⟨#[]⟩, x.n, some (s.made + 1)⟩ with files := putFile s.files (s.made + 1) ⟨b, ⟨#[]⟩⟩ } l (w8.setCell ⟨g, 1, none⟩ (.string b)) := by
  have e : (madeL s l x g v).loc (s.made + 1) = g := setLoc_same l (s.made + 1) g
  have ht := at_file hA (made_live s x) ⟨b, ⟨#[]⟩⟩ (w' := w8.setCell ⟨g, 1, none⟩ (.string b)) (by rw [e]; exact gb_set (World.grownBy.refl _ _) _ _) (by rw [e]; exact hF.set 1 (.string b))
  have e2 : ({ madeS s x with files := putFile (madeS s x).files (s.made + 1) ⟨b, ⟨#[]⟩⟩ } : Pf) = { changeS { tickS s with made := s.made + 1 } x.d ⟨⟨#[]⟩, x.n, some (s.made + 1)⟩ with files := putFile s.files (s.made + 1) ⟨b, ⟨#[]⟩⟩ } := by
    have : putFile (madeS s x).files (s.made + 1) ⟨b, ⟨#[]⟩⟩ = putFile s.files (s.made + 1) ⟨b, ⟨#[]⟩⟩ := by
      funext j
      show putFile (putFile s.files (s.made + 1) ⟨⟨#[]⟩, ⟨#[]⟩⟩) (s.made + 1) ⟨b, ⟨#[]⟩⟩ j = _
      unfold putFile
      split <;> rfl
    rw [this]; rfl
  rw [e2] at ht
  refine ⟨_, ht, hM.trans ⟨rfl, rfl, rfl, by simp [World.setCell], fun h hg hn => Below.heap_setCell _ _ _ h (fun e3 => hn ?_), fun h hg => .inl hg⟩⟩
  exact .inr (.inr (.inr (.inr (.inl ⟨_, made_live s x, by rw [e]; exact e3⟩))))

set_option maxRecDepth 100000 in
set_option maxHeartbeats 4000000 in
theorem wr_noent (p : Nat) (s : Pf) (l : Loc) (path : ByteArray) (x : Plc) (f : Option Nat) (dp : Bool) (A : Option Addr) (n c : Nat) (w : World) (K : MkIn p s l path x f false dp w) :
    Calls Tryz.prog 16 #[.pointer (some ⟨p, 0, none⟩), .string path, .slice A n c] w fun e w' => e = .returned (.int .i64 50) ∧ At w' p (tickS s) l ∧ w.grownBy w' (some p) := by
  have HBG := Lib.hid K.beg; have HPA := Lib.hid K.pa; have HIX := Lib.hid K.ix; have HIP := Lib.hid K.ip; have hxo := K.xo; have HV := Lib.hid K.fv
  clear K
  go_enter Tryz.func16, Tryz.ntmps16
  go_wp2_with (first
    | (go_at_call 42; refine HBG.out.mono ?_; rintro e w1 ⟨rfl, hA, hg⟩; have HA := Lib.hid hA; have HG := Lib.hid hg; clear hA hg)
    | (go_at_call 44; refine (HPA.out _).mono ?_; clear HPA; rintro e w3 ⟨rfl, hb3⟩; have HA3 := Lib.hid ((HA.out.below hb3).below ((Below.refl _ _).alloc (Nat.le_refl _) (.cells #[.string x.d, .string x.n] 79))); have HG3 := Lib.hid (gb_below (gb_below HG.out hb3) ((Below.refl _ _).alloc (Nat.le_refl _) (.cells #[.string x.d, .string x.n] 79))); clear hb3)
    | fail)
  obtain ⟨B, hB⟩ : ∃ B, w3.heap.size = B := ⟨_, rfl⟩
  obtain ⟨W, hW⟩ : ∃ W, w3.alloc (.cells #[.string x.d, .string x.n] 79) = W := ⟨_, rfl⟩
  have hsW : B < W.heap.size := by rw [← hW, ← hB]; simp
  have hx0 : W.drew.cell? ⟨B, 0, none⟩ = some (.string x.d) := by rw [← hW, ← hB]; simp
  have hx1 : W.drew.cell? ⟨B, 1, none⟩ = some (.string x.n) := by rw [← hW, ← hB]; simp
  rw [hW] at HA3 HG3 ⊢
  rw [hB]
  have HA4 := Lib.hid (HA3.out.below (Below.refl W.heap.size W).drew); have HG4 := Lib.hid (gb_below HG3.out (Below.refl W.heap.size W).drew)
  have hc2 : W.drew.cell? ⟨p, 2, none⟩ = some (.map (some l.bn)) := by rw [HA4.out.cell]; rfl
  have hlf : (Instr.lookup 56 (.map (some l.bn)) (.agg #[.string x.d, .string x.n]) false).run Tryz.prog W.drew = .ok (ptrOf l f) W.drew := by
    have := HA4.out.look_file hxo
    rw [HV.out] at this
    exact this
  have hsV : B < W.drew.heap.size := hsW
  clear hB hW hsW
  refine wp_region_mix (fun z => z.cell? ⟨p, 2, none⟩ = some (.map (some l.bn)) ∧ z.cell? ⟨B, 0, none⟩ = some (.string x.d) ∧ z.cell? ⟨B, 1, none⟩ = some (.string x.n) ∧ (Instr.lookup 56 (.map (some l.bn)) (.agg #[.string x.d, .string x.n]) false).run Tryz.prog z = .ok (ptrOf l f) z)
    [true, true, true, true, true, true] _ (by kernel_rfl) rfl (by kernel_rfl) ⟨hc2, hx0, hx1, hlf⟩ ?_
  dsimp only [List.dropLast, List.zip, List.zipWith, List.getLast]
  repeat (apply wpMix_free
          · intro z hz
            try dsimp only at hz
            go_simp
            all_goals with_reducible rfl
          simp only [Act.put, List.setIfInBounds_toArray, List.set_cons_zero, List.set_cons_succ])
  refine wpMix_end ?_
  clear hc2 hlf
  go_simp
  generalize W.drew = V at HA4 HG4 hsV hx0 hx1 ⊢
  go_wp2_with (first
    | (go_at_call 45; refine (HIX.out _ HA4.out).mono ?_; clear HIX; rintro e w4 ⟨rfl, hb4⟩; have hz0 := (hb4.cell (p := ⟨B, 0, none⟩) hsV).trans hx0; have hz1 := (hb4.cell (p := ⟨B, 1, none⟩) hsV).trans hx1; have hs4 := Nat.lt_of_lt_of_le hsV hb4.size; have HA5 := Lib.hid (HA4.out.below hb4); have HG5 := Lib.hid (gb_below HG4.out hb4); clear hb4)
    | (go_at_call 45; refine (HIP.out _ HA5.out).mono ?_; clear HIP; rintro e w5 ⟨rfl, hb5⟩; have hy0 := (hb5.cell (p := ⟨B, 0, none⟩) hs4).trans hz0; have hy1 := (hb5.cell (p := ⟨B, 1, none⟩) hs4).trans hz1; have hs5 := Nat.lt_of_lt_of_le hs4 hb5.size; have HA6 := Lib.hid (HA5.out.below hb5); have HG6 := Lib.hid (gb_below HG5.out hb5); have hw2 : w5.cell? ⟨p, 2, none⟩ = some (.map (some l.bn)) := (by rw [HA6.out.cell]; rfl); have hln : ∀ ty, (Builtin.len_ #[56] ty #[.map (some l.bn)]).run Tryz.prog w5 = .ok (.int .i64 s.names.length) w5 := (fun ty => by have := HA6.out.len_names ty; rwa [tick_names] at this); clear hb5)
    | fail)
  go_ret
  exact ⟨rfl, HA5.out, HG5.out⟩

set_option maxRecDepth 100000 in
set_option maxHeartbeats 4000000 in
theorem wr_dir (p : Nat) (s : Pf) (l : Loc) (path : ByteArray) (x : Plc) (f : Option Nat) (A : Option Addr) (n c : Nat) (w : World) (K : MkIn p s l path x f true true w) :
    Calls Tryz.prog 16 #[.pointer (some ⟨p, 0, none⟩), .string path, .slice A n c] w fun e w' => e = .returned (.int .i64 53) ∧ At w' p (tickS s) l ∧ w.grownBy w' (some p) := by
  have HBG := Lib.hid K.beg; have HPA := Lib.hid K.pa; have HIX := Lib.hid K.ix; have HIP := Lib.hid K.ip; have hxo := K.xo; have HV := Lib.hid K.fv
  clear K
  go_enter Tryz.func16, Tryz.ntmps16
  go_wp2_with (first
    | (go_at_call 42; refine HBG.out.mono ?_; rintro e w1 ⟨rfl, hA, hg⟩; have HA := Lib.hid hA; have HG := Lib.hid hg; clear hA hg)
    | (go_at_call 44; refine (HPA.out _).mono ?_; clear HPA; rintro e w3 ⟨rfl, hb3⟩; have HA3 := Lib.hid ((HA.out.below hb3).below ((Below.refl _ _).alloc (Nat.le_refl _) (.cells #[.string x.d, .string x.n] 79))); have HG3 := Lib.hid (gb_below (gb_below HG.out hb3) ((Below.refl _ _).alloc (Nat.le_refl _) (.cells #[.string x.d, .string x.n] 79))); clear hb3)
    | fail)
  obtain ⟨B, hB⟩ : ∃ B, w3.heap.size = B := ⟨_, rfl⟩
  obtain ⟨W, hW⟩ : ∃ W, w3.alloc (.cells #[.string x.d, .string x.n] 79) = W := ⟨_, rfl⟩
  have hsW : B < W.heap.size := by rw [← hW, ← hB]; simp
  have hx0 : W.drew.cell? ⟨B, 0, none⟩ = some (.string x.d) := by rw [← hW, ← hB]; simp
  have hx1 : W.drew.cell? ⟨B, 1, none⟩ = some (.string x.n) := by rw [← hW, ← hB]; simp
  rw [hW] at HA3 HG3 ⊢
  rw [hB]
  have HA4 := Lib.hid (HA3.out.below (Below.refl W.heap.size W).drew); have HG4 := Lib.hid (gb_below HG3.out (Below.refl W.heap.size W).drew)
  have hc2 : W.drew.cell? ⟨p, 2, none⟩ = some (.map (some l.bn)) := by rw [HA4.out.cell]; rfl
  have hlf : (Instr.lookup 56 (.map (some l.bn)) (.agg #[.string x.d, .string x.n]) false).run Tryz.prog W.drew = .ok (ptrOf l f) W.drew := by
    have := HA4.out.look_file hxo
    rw [HV.out] at this
    exact this
  have hsV : B < W.drew.heap.size := hsW
  clear hB hW hsW
  refine wp_region_mix (fun z => z.cell? ⟨p, 2, none⟩ = some (.map (some l.bn)) ∧ z.cell? ⟨B, 0, none⟩ = some (.string x.d) ∧ z.cell? ⟨B, 1, none⟩ = some (.string x.n) ∧ (Instr.lookup 56 (.map (some l.bn)) (.agg #[.string x.d, .string x.n]) false).run Tryz.prog z = .ok (ptrOf l f) z)
    [true, true, true, true, true, true] _ (by kernel_rfl) rfl (by kernel_rfl) ⟨hc2, hx0, hx1, hlf⟩ ?_
  dsimp only [List.dropLast, List.zip, List.zipWith, List.getLast]
  repeat (apply wpMix_free
          · intro z hz
            try dsimp only at hz
            go_simp
            all_goals with_reducible rfl
          simp only [Act.put, List.setIfInBounds_toArray, List.set_cons_zero, List.set_cons_succ])
  refine wpMix_end ?_
  clear hc2 hlf
  go_simp
  generalize W.drew = V at HA4 HG4 hsV hx0 hx1 ⊢
  go_wp2_with (first
    | (go_at_call 45; refine (HIX.out _ HA4.out).mono ?_; clear HIX; rintro e w4 ⟨rfl, hb4⟩; have hz0 := (hb4.cell (p := ⟨B, 0, none⟩) hsV).trans hx0; have hz1 := (hb4.cell (p := ⟨B, 1, none⟩) hsV).trans hx1; have hs4 := Nat.lt_of_lt_of_le hsV hb4.size; have HA5 := Lib.hid (HA4.out.below hb4); have HG5 := Lib.hid (gb_below HG4.out hb4); clear hb4)
    | (go_at_call 45; refine (HIP.out _ HA5.out).mono ?_; clear HIP; rintro e w5 ⟨rfl, hb5⟩; have hy0 := (hb5.cell (p := ⟨B, 0, none⟩) hs4).trans hz0; have hy1 := (hb5.cell (p := ⟨B, 1, none⟩) hs4).trans hz1; have hs5 := Nat.lt_of_lt_of_le hs4 hb5.size; have HA6 := Lib.hid (HA5.out.below hb5); have HG6 := Lib.hid (gb_below HG5.out hb5); have hw2 : w5.cell? ⟨p, 2, none⟩ = some (.map (some l.bn)) := (by rw [HA6.out.cell]; rfl); have hln : ∀ ty, (Builtin.len_ #[56] ty #[.map (some l.bn)]).run Tryz.prog w5 = .ok (.int .i64 s.names.length) w5 := (fun ty => by have := HA6.out.len_names ty; rwa [tick_names] at this); clear hb5)
    | fail)
  go_ret
  exact ⟨rfl, HA6.out, HG6.out⟩

set_option maxRecDepth 100000 in
set_option maxHeartbeats 4000000 in
theorem wr_big (p : Nat) (s : Pf) (l : Loc) (path : ByteArray) (x : Plc) (f : Option Nat) (A : Option Addr) (n c : Nat) (w : World) (K : MkIn p s l path x f true false w) (hn1 : 65536 < (n : Int)) :
    Calls Tryz.prog 16 #[.pointer (some ⟨p, 0, none⟩), .string path, .slice A n c] w fun e w' => e = .returned (.int .i64 3) ∧ At w' p (tickS s) l ∧ w.grownBy w' (some p) := by
  have HBG := Lib.hid K.beg; have HPA := Lib.hid K.pa; have HIX := Lib.hid K.ix; have HIP := Lib.hid K.ip; have hxo := K.xo; have HV := Lib.hid K.fv
  clear K
  go_enter Tryz.func16, Tryz.ntmps16
  go_wp2_with (first
    | (go_at_call 42; refine HBG.out.mono ?_; rintro e w1 ⟨rfl, hA, hg⟩; have HA := Lib.hid hA; have HG := Lib.hid hg; clear hA hg)
    | (go_at_call 44; refine (HPA.out _).mono ?_; clear HPA; rintro e w3 ⟨rfl, hb3⟩; have HA3 := Lib.hid ((HA.out.below hb3).below ((Below.refl _ _).alloc (Nat.le_refl _) (.cells #[.string x.d, .string x.n] 79))); have HG3 := Lib.hid (gb_below (gb_below HG.out hb3) ((Below.refl _ _).alloc (Nat.le_refl _) (.cells #[.string x.d, .string x.n] 79))); clear hb3)
    | fail)
  obtain ⟨B, hB⟩ : ∃ B, w3.heap.size = B := ⟨_, rfl⟩
  obtain ⟨W, hW⟩ : ∃ W, w3.alloc (.cells #[.string x.d, .string x.n] 79) = W := ⟨_, rfl⟩
  have hsW : B < W.heap.size := by rw [← hW, ← hB]; simp
  have hx0 : W.drew.cell? ⟨B, 0, none⟩ = some (.string x.d) := by rw [← hW, ← hB]; simp
  have hx1 : W.drew.cell? ⟨B, 1, none⟩ = some (.string x.n) := by rw [← hW, ← hB]; simp
  rw [hW] at HA3 HG3 ⊢
  rw [hB]
  have HA4 := Lib.hid (HA3.out.below (Below.refl W.heap.size W).drew); have HG4 := Lib.hid (gb_below HG3.out (Below.refl W.heap.size W).drew)
  have hc2 : W.drew.cell? ⟨p, 2, none⟩ = some (.map (some l.bn)) := by rw [HA4.out.cell]; rfl
  have hlf : (Instr.lookup 56 (.map (some l.bn)) (.agg #[.string x.d, .string x.n]) false).run Tryz.prog W.drew = .ok (ptrOf l f) W.drew := by
    have := HA4.out.look_file hxo
    rw [HV.out] at this
    exact this
  have hsV : B < W.drew.heap.size := hsW
  clear hB hW hsW
  refine wp_region_mix (fun z => z.cell? ⟨p, 2, none⟩ = some (.map (some l.bn)) ∧ z.cell? ⟨B, 0, none⟩ = some (.string x.d) ∧ z.cell? ⟨B, 1, none⟩ = some (.string x.n) ∧ (Instr.lookup 56 (.map (some l.bn)) (.agg #[.string x.d, .string x.n]) false).run Tryz.prog z = .ok (ptrOf l f) z)
    [true, true, true, true, true, true] _ (by kernel_rfl) rfl (by kernel_rfl) ⟨hc2, hx0, hx1, hlf⟩ ?_
  dsimp only [List.dropLast, List.zip, List.zipWith, List.getLast]
  repeat (apply wpMix_free
          · intro z hz
            try dsimp only at hz
            go_simp
            all_goals with_reducible rfl
          simp only [Act.put, List.setIfInBounds_toArray, List.set_cons_zero, List.set_cons_succ])
  refine wpMix_end ?_
  clear hc2 hlf
  go_simp
  generalize W.drew = V at HA4 HG4 hsV hx0 hx1 ⊢
  go_wp2_with (first
    | (go_at_call 45; refine (HIX.out _ HA4.out).mono ?_; clear HIX; rintro e w4 ⟨rfl, hb4⟩; have hz0 := (hb4.cell (p := ⟨B, 0, none⟩) hsV).trans hx0; have hz1 := (hb4.cell (p := ⟨B, 1, none⟩) hsV).trans hx1; have hs4 := Nat.lt_of_lt_of_le hsV hb4.size; have HA5 := Lib.hid (HA4.out.below hb4); have HG5 := Lib.hid (gb_below HG4.out hb4); clear hb4)
    | (go_at_call 45; refine (HIP.out _ HA5.out).mono ?_; clear HIP; rintro e w5 ⟨rfl, hb5⟩; have hy0 := (hb5.cell (p := ⟨B, 0, none⟩) hs4).trans hz0; have hy1 := (hb5.cell (p := ⟨B, 1, none⟩) hs4).trans hz1; have hs5 := Nat.lt_of_lt_of_le hs4 hb5.size; have HA6 := Lib.hid (HA5.out.below hb5); have HG6 := Lib.hid (gb_below HG5.out hb5); have hw2 : w5.cell? ⟨p, 2, none⟩ = some (.map (some l.bn)) := (by rw [HA6.out.cell]; rfl); have hln : ∀ ty, (Builtin.len_ #[56] ty #[.map (some l.bn)]).run Tryz.prog w5 = .ok (.int .i64 s.names.length) w5 := (fun ty => by have := HA6.out.len_names ty; rwa [tick_names] at this); clear hb5)
    | fail)
  go_ret
  exact ⟨rfl, HA6.out, HG6.out⟩

set_option maxRecDepth 100000 in
set_option maxHeartbeats 4000000 in
theorem wr_full (p : Nat) (s : Pf) (l : Loc) (path : ByteArray) (x : Plc) (A : Option Addr) (n c : Nat) (w : World) (K : MkIn p s l path x none true false w) (hn1 : ¬ 65536 < (n : Int)) (hn2 : 256 ≤ (s.names.length : Int)) :
    Calls Tryz.prog 16 #[.pointer (some ⟨p, 0, none⟩), .string path, .slice A n c] w fun e w' => e = .returned (.int .i64 3) ∧ At w' p (tickS s) l ∧ w.grownBy w' (some p) := by
  have HBG := Lib.hid K.beg; have HPA := Lib.hid K.pa; have HIX := Lib.hid K.ix; have HIP := Lib.hid K.ip; have hxo := K.xo; have HV := Lib.hid K.fv
  clear K
  go_enter Tryz.func16, Tryz.ntmps16
  go_wp2_with (first
    | (go_at_call 42; refine HBG.out.mono ?_; rintro e w1 ⟨rfl, hA, hg⟩; have HA := Lib.hid hA; have HG := Lib.hid hg; clear hA hg)
    | (go_at_call 44; refine (HPA.out _).mono ?_; clear HPA; rintro e w3 ⟨rfl, hb3⟩; have HA3 := Lib.hid ((HA.out.below hb3).below ((Below.refl _ _).alloc (Nat.le_refl _) (.cells #[.string x.d, .string x.n] 79))); have HG3 := Lib.hid (gb_below (gb_below HG.out hb3) ((Below.refl _ _).alloc (Nat.le_refl _) (.cells #[.string x.d, .string x.n] 79))); clear hb3)
    | fail)
  obtain ⟨B, hB⟩ : ∃ B, w3.heap.size = B := ⟨_, rfl⟩
  obtain ⟨W, hW⟩ : ∃ W, w3.alloc (.cells #[.string x.d, .string x.n] 79) = W := ⟨_, rfl⟩
  have hsW : B < W.heap.size := by rw [← hW, ← hB]; simp
  have hx0 : W.drew.cell? ⟨B, 0, none⟩ = some (.string x.d) := by rw [← hW, ← hB]; simp
  have hx1 : W.drew.cell? ⟨B, 1, none⟩ = some (.string x.n) := by rw [← hW, ← hB]; simp
  rw [hW] at HA3 HG3 ⊢
  rw [hB]
  have HA4 := Lib.hid (HA3.out.below (Below.refl W.heap.size W).drew); have HG4 := Lib.hid (gb_below HG3.out (Below.refl W.heap.size W).drew)
  have hc2 : W.drew.cell? ⟨p, 2, none⟩ = some (.map (some l.bn)) := by rw [HA4.out.cell]; rfl
  have hlf : (Instr.lookup 56 (.map (some l.bn)) (.agg #[.string x.d, .string x.n]) false).run Tryz.prog W.drew = .ok (.pointer none) W.drew := by
    have := HA4.out.look_file hxo
    rw [HV.out] at this
    exact this
  have hsV : B < W.drew.heap.size := hsW
  clear hB hW hsW
  refine wp_region_mix (fun z => z.cell? ⟨p, 2, none⟩ = some (.map (some l.bn)) ∧ z.cell? ⟨B, 0, none⟩ = some (.string x.d) ∧ z.cell? ⟨B, 1, none⟩ = some (.string x.n) ∧ (Instr.lookup 56 (.map (some l.bn)) (.agg #[.string x.d, .string x.n]) false).run Tryz.prog z = .ok (.pointer none) z)
    [true, true, true, true, true, true] _ (by kernel_rfl) rfl (by kernel_rfl) ⟨hc2, hx0, hx1, hlf⟩ ?_
  dsimp only [List.dropLast, List.zip, List.zipWith, List.getLast]
  repeat (apply wpMix_free
          · intro z hz
            try dsimp only at hz
            go_simp
            all_goals with_reducible rfl
          simp only [Act.put, List.setIfInBounds_toArray, List.set_cons_zero, List.set_cons_succ])
  refine wpMix_end ?_
  clear hc2 hlf
  go_simp
  generalize W.drew = V at HA4 HG4 hsV hx0 hx1 ⊢
  go_wp2_with (first
    | (go_at_call 45; refine (HIX.out _ HA4.out).mono ?_; clear HIX; rintro e w4 ⟨rfl, hb4⟩; have hz0 := (hb4.cell (p := ⟨B, 0, none⟩) hsV).trans hx0; have hz1 := (hb4.cell (p := ⟨B, 1, none⟩) hsV).trans hx1; have hs4 := Nat.lt_of_lt_of_le hsV hb4.size; have HA5 := Lib.hid (HA4.out.below hb4); have HG5 := Lib.hid (gb_below HG4.out hb4); clear hb4)
    | (go_at_call 45; refine (HIP.out _ HA5.out).mono ?_; clear HIP; rintro e w5 ⟨rfl, hb5⟩; have hy0 := (hb5.cell (p := ⟨B, 0, none⟩) hs4).trans hz0; have hy1 := (hb5.cell (p := ⟨B, 1, none⟩) hs4).trans hz1; have hs5 := Nat.lt_of_lt_of_le hs4 hb5.size; have HA6 := Lib.hid (HA5.out.below hb5); have HG6 := Lib.hid (gb_below HG5.out hb5); have hw2 : w5.cell? ⟨p, 2, none⟩ = some (.map (some l.bn)) := (by rw [HA6.out.cell]; rfl); have hln : ∀ ty, (Builtin.len_ #[56] ty #[.map (some l.bn)]).run Tryz.prog w5 = .ok (.int .i64 s.names.length) w5 := (fun ty => by have := HA6.out.len_names ty; rwa [tick_names] at this); clear hb5)
    | fail)
  go_ret
  exact ⟨rfl, HA6.out, HG6.out⟩

set_option maxRecDepth 100000 in
set_option maxHeartbeats 4000000 in
theorem wr_room_some (p : Nat) (s : Pf) (l : Loc) (path : ByteArray) (x : Plc) (i : Nat) (A : Option Addr) (n c : Nat) (U L : Nat) (R : Int) (w : World) (K : MkIn p s l path x (some i) true false w) (KW : WrIn p s l (some i) U L R) (hn1 : ¬ 65536 < (n : Int)) (hsp : R < (U : Int) - L + n) :
    Calls Tryz.prog 16 #[.pointer (some ⟨p, 0, none⟩), .string path, .slice A n c] w fun e w' => e = .returned (.int .i64 51) ∧ At w' p (tickS s) l ∧ w.grownBy w' (some p) := by
  have HBG := Lib.hid K.beg; have HPA := Lib.hid K.pa; have HIX := Lib.hid K.ix; have HIP := Lib.hid K.ip; have hxo := K.xo; have HV := Lib.hid K.fv
  clear K
  have HUS := Lib.hid KW.us; have HLG := Lib.hid KW.lg; have hro := KW.ro; have hub := KW.ub; have hlb := KW.lb
  clear KW
  go_enter Tryz.func16, Tryz.ntmps16
  go_wp2_with (first
    | (go_at_call 42; refine HBG.out.mono ?_; rintro e w1 ⟨rfl, hA, hg⟩; have HA := Lib.hid hA; have HG := Lib.hid hg; clear hA hg)
    | (go_at_call 44; refine (HPA.out _).mono ?_; clear HPA; rintro e w3 ⟨rfl, hb3⟩; have HA3 := Lib.hid ((HA.out.below hb3).below ((Below.refl _ _).alloc (Nat.le_refl _) (.cells #[.string x.d, .string x.n] 79))); have HG3 := Lib.hid (gb_below (gb_below HG.out hb3) ((Below.refl _ _).alloc (Nat.le_refl _) (.cells #[.string x.d, .string x.n] 79))); clear hb3)
    | fail)
  obtain ⟨B, hB⟩ : ∃ B, w3.heap.size = B := ⟨_, rfl⟩
  obtain ⟨W, hW⟩ : ∃ W, w3.alloc (.cells #[.string x.d, .string x.n] 79) = W := ⟨_, rfl⟩
  have hsW : B < W.heap.size := by rw [← hW, ← hB]; simp
  have hx0 : W.drew.cell? ⟨B, 0, none⟩ = some (.string x.d) := by rw [← hW, ← hB]; simp
  have hx1 : W.drew.cell? ⟨B, 1, none⟩ = some (.string x.n) := by rw [← hW, ← hB]; simp
  rw [hW] at HA3 HG3 ⊢
  rw [hB]
  have HA4 := Lib.hid (HA3.out.below (Below.refl W.heap.size W).drew); have HG4 := Lib.hid (gb_below HG3.out (Below.refl W.heap.size W).drew)
  have hc2 : W.drew.cell? ⟨p, 2, none⟩ = some (.map (some l.bn)) := by rw [HA4.out.cell]; rfl
  have hlf : (Instr.lookup 56 (.map (some l.bn)) (.agg #[.string x.d, .string x.n]) false).run Tryz.prog W.drew = .ok (.pointer (some ⟨l.loc i, 0, none⟩)) W.drew := by
    have := HA4.out.look_file hxo
    rw [HV.out] at this
    exact this
  have hsV : B < W.drew.heap.size := hsW
  clear hB hW hsW
  refine wp_region_mix (fun z => z.cell? ⟨p, 2, none⟩ = some (.map (some l.bn)) ∧ z.cell? ⟨B, 0, none⟩ = some (.string x.d) ∧ z.cell? ⟨B, 1, none⟩ = some (.string x.n) ∧ (Instr.lookup 56 (.map (some l.bn)) (.agg #[.string x.d, .string x.n]) false).run Tryz.prog z = .ok (.pointer (some ⟨l.loc i, 0, none⟩)) z)
    [true, true, true, true, true, true] _ (by kernel_rfl) rfl (by kernel_rfl) ⟨hc2, hx0, hx1, hlf⟩ ?_
  dsimp only [List.dropLast, List.zip, List.zipWith, List.getLast]
  repeat (apply wpMix_free
          · intro z hz
            try dsimp only at hz
            go_simp
            all_goals with_reducible rfl
          simp only [Act.put, List.setIfInBounds_toArray, List.set_cons_zero, List.set_cons_succ])
  refine wpMix_end ?_
  clear hc2 hlf
  go_simp
  generalize W.drew = V at HA4 HG4 hsV hx0 hx1 ⊢
  go_wp2_with (first
    | (go_at_call 45; refine (HIX.out _ HA4.out).mono ?_; clear HIX; rintro e w4 ⟨rfl, hb4⟩; have hz0 := (hb4.cell (p := ⟨B, 0, none⟩) hsV).trans hx0; have hz1 := (hb4.cell (p := ⟨B, 1, none⟩) hsV).trans hx1; have hs4 := Nat.lt_of_lt_of_le hsV hb4.size; have HA5 := Lib.hid (HA4.out.below hb4); have HG5 := Lib.hid (gb_below HG4.out hb4); clear hb4)
    | (go_at_call 45; refine (HIP.out _ HA5.out).mono ?_; clear HIP; rintro e w5 ⟨rfl, hb5⟩; have hy0 := (hb5.cell (p := ⟨B, 0, none⟩) hs4).trans hz0; have hy1 := (hb5.cell (p := ⟨B, 1, none⟩) hs4).trans hz1; have hs5 := Nat.lt_of_lt_of_le hs4 hb5.size; have HA6 := Lib.hid (HA5.out.below hb5); have HG6 := Lib.hid (gb_below HG5.out hb5); have hw2 : w5.cell? ⟨p, 2, none⟩ = some (.map (some l.bn)) := (by rw [HA6.out.cell]; rfl); have hln : ∀ ty, (Builtin.len_ #[56] ty #[.map (some l.bn)]).run Tryz.prog w5 = .ok (.int .i64 s.names.length) w5 := (fun ty => by have := HA6.out.len_names ty; rwa [tick_names] at this); clear hb5)
    | fail)
  have HLG2 : Hid (∀ W : World, At W p (tickS s) l → Calls Tryz.prog 46 #[.pointer (some ⟨l.loc i, 0, none⟩)] W fun e w' => e = .returned (.int .i64 L) ∧ Below W.heap.size W w') := HLG.out
  clear HLG
  have hq0 : ∀ d os, (Sort.grow (redrawn w5 d) os).cell? ⟨p, 0, none⟩ = some (.int .i64 R) := fun d os => by rw [(HA6.out.regrown d os).cell, ← hro]; rfl
  clear hw2 hln hx0 hx1 hz0 hz1
  refine wp_region_quiet_below (by kernel_rfl) (by kernel_rfl) ?_
  repeat (first | go_big_quiet_step ((first
    | (go_at_call 22; with_reducible exact Calls.regrown_of (HUS.out _ (HA6.out.regrown _ _)))
    | (go_at_call 46; with_reducible exact Calls.regrown_of (HLG2.out _ (HA6.out.regrown _ _))))))
  refine wpQuiet_nil ?_
  intro w7 hV7
  have hB7 := below_class hV7
  have hz0 := (hB7.cell (p := ⟨B, 0, none⟩) hs5).trans hy0
  have hz1 := (hB7.cell (p := ⟨B, 1, none⟩) hs5).trans hy1
  have hs7 : B < w7.heap.size := Nat.lt_of_lt_of_le hs5 hB7.size
  have HA8 := Lib.hid (HA6.out.below hB7); have HG8 := Lib.hid (gb_below HG6.out hB7)
  clear hV7 hB7 hq0 hy0 hy1
  go_wp2_with fail
  go_ret
  exact ⟨rfl, HA8.out, HG8.out⟩

set_option maxRecDepth 100000 in
set_option maxHeartbeats 4000000 in
theorem wr_room_none (p : Nat) (s : Pf) (l : Loc) (path : ByteArray) (x : Plc) (A : Option Addr) (n c : Nat) (U L : Nat) (R : Int) (w : World) (K : MkIn p s l path x none true false w) (KW : WrIn p s l none U L R) (hn1 : ¬ 65536 < (n : Int)) (hn2 : ¬ 256 ≤ (s.names.length : Int)) (hsp : R < (U : Int) - L + n) :
    Calls Tryz.prog 16 #[.pointer (some ⟨p, 0, none⟩), .string path, .slice A n c] w fun e w' => e = .returned (.int .i64 51) ∧ At w' p (tickS s) l ∧ w.grownBy w' (some p) := by
  have HBG := Lib.hid K.beg; have HPA := Lib.hid K.pa; have HIX := Lib.hid K.ix; have HIP := Lib.hid K.ip; have hxo := K.xo; have HV := Lib.hid K.fv
  clear K
  have HUS := Lib.hid KW.us; have HLG := Lib.hid KW.lg; have hro := KW.ro; have hub := KW.ub; have hlb := KW.lb
  clear KW
  go_enter Tryz.func16, Tryz.ntmps16
  go_wp2_with (first
    | (go_at_call 42; refine HBG.out.mono ?_; rintro e w1 ⟨rfl, hA, hg⟩; have HA := Lib.hid hA; have HG := Lib.hid hg; clear hA hg)
    | (go_at_call 44; refine (HPA.out _).mono ?_; clear HPA; rintro e w3 ⟨rfl, hb3⟩; have HA3 := Lib.hid ((HA.out.below hb3).below ((Below.refl _ _).alloc (Nat.le_refl _) (.cells #[.string x.d, .string x.n] 79))); have HG3 := Lib.hid (gb_below (gb_below HG.out hb3) ((Below.refl _ _).alloc (Nat.le_refl _) (.cells #[.string x.d, .string x.n] 79))); clear hb3)
    | fail)
  obtain ⟨B, hB⟩ : ∃ B, w3.heap.size = B := ⟨_, rfl⟩
  obtain ⟨W, hW⟩ : ∃ W, w3.alloc (.cells #[.string x.d, .string x.n] 79) = W := ⟨_, rfl⟩
  have hsW : B < W.heap.size := by rw [← hW, ← hB]; simp
  have hx0 : W.drew.cell? ⟨B, 0, none⟩ = some (.string x.d) := by rw [← hW, ← hB]; simp
  have hx1 : W.drew.cell? ⟨B, 1, none⟩ = some (.string x.n) := by rw [← hW, ← hB]; simp
  rw [hW] at HA3 HG3 ⊢
  rw [hB]
  have HA4 := Lib.hid (HA3.out.below (Below.refl W.heap.size W).drew); have HG4 := Lib.hid (gb_below HG3.out (Below.refl W.heap.size W).drew)
  have hc2 : W.drew.cell? ⟨p, 2, none⟩ = some (.map (some l.bn)) := by rw [HA4.out.cell]; rfl
  have hlf : (Instr.lookup 56 (.map (some l.bn)) (.agg #[.string x.d, .string x.n]) false).run Tryz.prog W.drew = .ok (.pointer none) W.drew := by
    have := HA4.out.look_file hxo
    rw [HV.out] at this
    exact this
  have hsV : B < W.drew.heap.size := hsW
  clear hB hW hsW
  refine wp_region_mix (fun z => z.cell? ⟨p, 2, none⟩ = some (.map (some l.bn)) ∧ z.cell? ⟨B, 0, none⟩ = some (.string x.d) ∧ z.cell? ⟨B, 1, none⟩ = some (.string x.n) ∧ (Instr.lookup 56 (.map (some l.bn)) (.agg #[.string x.d, .string x.n]) false).run Tryz.prog z = .ok (.pointer none) z)
    [true, true, true, true, true, true] _ (by kernel_rfl) rfl (by kernel_rfl) ⟨hc2, hx0, hx1, hlf⟩ ?_
  dsimp only [List.dropLast, List.zip, List.zipWith, List.getLast]
  repeat (apply wpMix_free
          · intro z hz
            try dsimp only at hz
            go_simp
            all_goals with_reducible rfl
          simp only [Act.put, List.setIfInBounds_toArray, List.set_cons_zero, List.set_cons_succ])
  refine wpMix_end ?_
  clear hc2 hlf
  go_simp
  generalize W.drew = V at HA4 HG4 hsV hx0 hx1 ⊢
  go_wp2_with (first
    | (go_at_call 45; refine (HIX.out _ HA4.out).mono ?_; clear HIX; rintro e w4 ⟨rfl, hb4⟩; have hz0 := (hb4.cell (p := ⟨B, 0, none⟩) hsV).trans hx0; have hz1 := (hb4.cell (p := ⟨B, 1, none⟩) hsV).trans hx1; have hs4 := Nat.lt_of_lt_of_le hsV hb4.size; have HA5 := Lib.hid (HA4.out.below hb4); have HG5 := Lib.hid (gb_below HG4.out hb4); clear hb4)
    | (go_at_call 45; refine (HIP.out _ HA5.out).mono ?_; clear HIP; rintro e w5 ⟨rfl, hb5⟩; have hy0 := (hb5.cell (p := ⟨B, 0, none⟩) hs4).trans hz0; have hy1 := (hb5.cell (p := ⟨B, 1, none⟩) hs4).trans hz1; have hs5 := Nat.lt_of_lt_of_le hs4 hb5.size; have HA6 := Lib.hid (HA5.out.below hb5); have HG6 := Lib.hid (gb_below HG5.out hb5); have hw2 : w5.cell? ⟨p, 2, none⟩ = some (.map (some l.bn)) := (by rw [HA6.out.cell]; rfl); have hln : ∀ ty, (Builtin.len_ #[56] ty #[.map (some l.bn)]).run Tryz.prog w5 = .ok (.int .i64 s.names.length) w5 := (fun ty => by have := HA6.out.len_names ty; rwa [tick_names] at this); clear hb5)
    | fail)
  have HLG2 : Hid (∀ W : World, At W p (tickS s) l → Calls Tryz.prog 46 #[.pointer none] W fun e w' => e = .returned (.int .i64 L) ∧ Below W.heap.size W w') := HLG.out
  clear HLG
  have hq0 : ∀ d os, (Sort.grow (redrawn w5 d) os).cell? ⟨p, 0, none⟩ = some (.int .i64 R) := fun d os => by rw [(HA6.out.regrown d os).cell, ← hro]; rfl
  clear hw2 hln hx0 hx1 hz0 hz1
  refine wp_region_quiet_below (by kernel_rfl) (by kernel_rfl) ?_
  repeat (first | go_big_quiet_step ((first
    | (go_at_call 22; with_reducible exact Calls.regrown_of (HUS.out _ (HA6.out.regrown _ _)))
    | (go_at_call 46; with_reducible exact Calls.regrown_of (HLG2.out _ (HA6.out.regrown _ _))))))
  refine wpQuiet_nil ?_
  intro w7 hV7
  have hB7 := below_class hV7
  have hz0 := (hB7.cell (p := ⟨B, 0, none⟩) hs5).trans hy0
  have hz1 := (hB7.cell (p := ⟨B, 1, none⟩) hs5).trans hy1
  have hs7 : B < w7.heap.size := Nat.lt_of_lt_of_le hs5 hB7.size
  have HA8 := Lib.hid (HA6.out.below hB7); have HG8 := Lib.hid (gb_below HG6.out hB7)
  clear hV7 hB7 hq0 hy0 hy1
  go_wp2_with fail
  go_ret
  exact ⟨rfl, HA8.out, HG8.out⟩

set_option maxRecDepth 100000 in
set_option maxHeartbeats 4000000 in
theorem wr_old (p : Nat) (s : Pf) (l : Loc) (path : ByteArray) (x : Plc) (i : Nat) (A : Option Addr) (n c : Nat) (U L : Nat) (R : Int) (w : World) (K : MkIn p s l path x (some i) true false w) (KW : WrIn p s l (some i) U L R) (hn1 : ¬ 65536 < (n : Int)) (hsp : ¬ R < (U : Int) - L + n) (b : ByteArray) (hby : BytesAt w (.slice A n c) b) (h0 : At w p s l) (hli : Live s i) :
    Calls Tryz.prog 16 #[.pointer (some ⟨p, 0, none⟩), .string path, .slice A n c] w fun e w' => e = .returned (.int .i64 0) ∧ After w p s { tickS s with files := putFile s.files i ⟨b, (s.files i).d⟩ } l w' := by
  have HBG := Lib.hid K.beg; have HPA := Lib.hid K.pa; have HIX := Lib.hid K.ix; have HIP := Lib.hid K.ip; have hxo := K.xo; have HV := Lib.hid K.fv
  clear K
  have HUS := Lib.hid KW.us; have HLG := Lib.hid KW.lg; have hro := KW.ro; have hub := KW.ub; have hlb := KW.lb
  clear KW
  have HBY := Lib.hid hby; have HA0 := Lib.hid h0
  clear hby h0
  go_enter Tryz.func16, Tryz.ntmps16
  go_wp2_with (first
    | (go_at_call 42; refine HBG.out.mono ?_; rintro e w1 ⟨rfl, hA, hg⟩; have HA := Lib.hid hA; have HG := Lib.hid hg; clear hA hg)
    | (go_at_call 44; refine (HPA.out _).mono ?_; clear HPA; rintro e w3 ⟨rfl, hb3⟩; have HA3 := Lib.hid ((HA.out.below hb3).below ((Below.refl _ _).alloc (Nat.le_refl _) (.cells #[.string x.d, .string x.n] 79))); have HG3 := Lib.hid (gb_below (gb_below HG.out hb3) ((Below.refl _ _).alloc (Nat.le_refl _) (.cells #[.string x.d, .string x.n] 79))); clear hb3)
    | fail)
  obtain ⟨B, hB⟩ : ∃ B, w3.heap.size = B := ⟨_, rfl⟩
  obtain ⟨W, hW⟩ : ∃ W, w3.alloc (.cells #[.string x.d, .string x.n] 79) = W := ⟨_, rfl⟩
  have hsW : B < W.heap.size := by rw [← hW, ← hB]; simp
  have hx0 : W.drew.cell? ⟨B, 0, none⟩ = some (.string x.d) := by rw [← hW, ← hB]; simp
  have hx1 : W.drew.cell? ⟨B, 1, none⟩ = some (.string x.n) := by rw [← hW, ← hB]; simp
  rw [hW] at HA3 HG3 ⊢
  rw [hB]
  have HA4 := Lib.hid (HA3.out.below (Below.refl W.heap.size W).drew); have HG4 := Lib.hid (gb_below HG3.out (Below.refl W.heap.size W).drew)
  have hc2 : W.drew.cell? ⟨p, 2, none⟩ = some (.map (some l.bn)) := by rw [HA4.out.cell]; rfl
  have hlf : (Instr.lookup 56 (.map (some l.bn)) (.agg #[.string x.d, .string x.n]) false).run Tryz.prog W.drew = .ok (.pointer (some ⟨l.loc i, 0, none⟩)) W.drew := by
    have := HA4.out.look_file hxo
    rw [HV.out] at this
    exact this
  have hsV : B < W.drew.heap.size := hsW
  clear hB hW hsW
  refine wp_region_mix (fun z => z.cell? ⟨p, 2, none⟩ = some (.map (some l.bn)) ∧ z.cell? ⟨B, 0, none⟩ = some (.string x.d) ∧ z.cell? ⟨B, 1, none⟩ = some (.string x.n) ∧ (Instr.lookup 56 (.map (some l.bn)) (.agg #[.string x.d, .string x.n]) false).run Tryz.prog z = .ok (.pointer (some ⟨l.loc i, 0, none⟩)) z)
    [true, true, true, true, true, true] _ (by kernel_rfl) rfl (by kernel_rfl) ⟨hc2, hx0, hx1, hlf⟩ ?_
  dsimp only [List.dropLast, List.zip, List.zipWith, List.getLast]
  repeat (apply wpMix_free
          · intro z hz
            try dsimp only at hz
            go_simp
            all_goals with_reducible rfl
          simp only [Act.put, List.setIfInBounds_toArray, List.set_cons_zero, List.set_cons_succ])
  refine wpMix_end ?_
  clear hc2 hlf
  go_simp
  generalize W.drew = V at HA4 HG4 hsV hx0 hx1 ⊢
  go_wp2_with (first
    | (go_at_call 45; refine (HIX.out _ HA4.out).mono ?_; clear HIX; rintro e w4 ⟨rfl, hb4⟩; have hz0 := (hb4.cell (p := ⟨B, 0, none⟩) hsV).trans hx0; have hz1 := (hb4.cell (p := ⟨B, 1, none⟩) hsV).trans hx1; have hs4 := Nat.lt_of_lt_of_le hsV hb4.size; have HA5 := Lib.hid (HA4.out.below hb4); have HG5 := Lib.hid (gb_below HG4.out hb4); clear hb4)
    | (go_at_call 45; refine (HIP.out _ HA5.out).mono ?_; clear HIP; rintro e w5 ⟨rfl, hb5⟩; have hy0 := (hb5.cell (p := ⟨B, 0, none⟩) hs4).trans hz0; have hy1 := (hb5.cell (p := ⟨B, 1, none⟩) hs4).trans hz1; have hs5 := Nat.lt_of_lt_of_le hs4 hb5.size; have HA6 := Lib.hid (HA5.out.below hb5); have HG6 := Lib.hid (gb_below HG5.out hb5); have hw2 : w5.cell? ⟨p, 2, none⟩ = some (.map (some l.bn)) := (by rw [HA6.out.cell]; rfl); have hln : ∀ ty, (Builtin.len_ #[56] ty #[.map (some l.bn)]).run Tryz.prog w5 = .ok (.int .i64 s.names.length) w5 := (fun ty => by have := HA6.out.len_names ty; rwa [tick_names] at this); clear hb5)
    | fail)
  have HLG2 : Hid (∀ W : World, At W p (tickS s) l → Calls Tryz.prog 46 #[.pointer (some ⟨l.loc i, 0, none⟩)] W fun e w' => e = .returned (.int .i64 L) ∧ Below W.heap.size W w') := HLG.out
  clear HLG
  have hq0 : ∀ d os, (Sort.grow (redrawn w5 d) os).cell? ⟨p, 0, none⟩ = some (.int .i64 R) := fun d os => by rw [(HA6.out.regrown d os).cell, ← hro]; rfl
  clear hw2 hln hx0 hx1 hz0 hz1
  refine wp_region_quiet_below (by kernel_rfl) (by kernel_rfl) ?_
  repeat (first | go_big_quiet_step ((first
    | (go_at_call 22; with_reducible exact Calls.regrown_of (HUS.out _ (HA6.out.regrown _ _)))
    | (go_at_call 46; with_reducible exact Calls.regrown_of (HLG2.out _ (HA6.out.regrown _ _))))))
  refine wpQuiet_nil ?_
  intro w7 hV7
  have hB7 := below_class hV7
  have hz0 := (hB7.cell (p := ⟨B, 0, none⟩) hs5).trans hy0
  have hz1 := (hB7.cell (p := ⟨B, 1, none⟩) hs5).trans hy1
  have hs7 : B < w7.heap.size := Nat.lt_of_lt_of_le hs5 hB7.size
  have HA8 := Lib.hid (HA6.out.below hB7); have HG8 := Lib.hid (gb_below HG6.out hB7)
  clear hV7 hB7 hq0 hy0 hy1
  have hcv : (convert 38 9 (.slice A n c)).run Tryz.prog w7 = .ok (.string b) w7 := (HBY.out.gb HA0.out HG8.out).text
  have hfl := (HA8.out.files i (live_tick.2 hli)).2.2
  rw [tick_files] at hfl
  have hd1 : w7.cell? ⟨l.loc i, 1, none⟩ = some (.string (s.files i).c) := by rw [hfl.cell]; rfl
  have hdf := hfl.frozen 1
  have HFL := Lib.hid hfl
  clear hfl
  go_wp2_with fail
  go_ret
  refine ⟨rfl, l, ?_, ?_⟩
  · have := at_file HA8.out (live_tick.2 hli) ⟨b, (s.files i).d⟩ (gb_set (World.grownBy.refl _ _) _ _) (HFL.out.set 1 (.string b))
    rwa [tick_files] at this
  · refine (moves_tick (s := s) (l := l) HG8.out).trans ⟨rfl, rfl, rfl, by simp [World.setCell], fun g hg hn => Below.heap_setCell _ _ _ g (fun e => hn ?_), fun g hg => .inl hg⟩
    exact .inr (.inr (.inr (.inr (.inl ⟨i, live_tick.2 hli, e⟩))))

set_option maxRecDepth 100000 in
set_option maxHeartbeats 4000000 in
theorem wr_new (p : Nat) (s : Pf) (l : Loc) (path : ByteArray) (x : Plc) (A : Option Addr) (n c : Nat) (U L : Nat) (R : Int) (w : World) (K : MkIn p s l path x none true false w) (KW : WrIn p s l none U L R) (hn1 : ¬ 65536 < (n : Int)) (hn2 : ¬ 256 ≤ (s.names.length : Int)) (hsp : ¬ R < (U : Int) - L + n) (b : ByteArray) (hby : BytesAt w (.slice A n c) b) (h0 : At w p s l) (hsm : s.names.length ≤ 1000000 ∧ (waitsOf s x.d).length ≤ 1000000 ∧ s.waits.length ≤ 1000000) (hmd : s.made ≤ 1000000) :
    Calls Tryz.prog 16 #[.pointer (some ⟨p, 0, none⟩), .string path, .slice A n c] w fun e w' => e = .returned (.int .i64 0) ∧ After w p s { changeS { tickS s with made := s.made + 1 } x.d ⟨⟨#[]⟩, x.n, some (s.made + 1)⟩ with files := putFile s.files (s.made + 1) ⟨b, ⟨#[]⟩⟩ } l w' := by
  have HBG := Lib.hid K.beg; have HPA := Lib.hid K.pa; have HIX := Lib.hid K.ix; have HIP := Lib.hid K.ip; have hxo := K.xo; have HV := Lib.hid K.fv
  clear K
  have HUS := Lib.hid KW.us; have HLG := Lib.hid KW.lg; have hro := KW.ro; have hub := KW.ub; have hlb := KW.lb
  clear KW
  have HBY := Lib.hid hby; have HA0 := Lib.hid h0
  clear hby h0
  have HSM := Lib.hid hsm; have HMD := Lib.hid hmd
  clear hsm hmd
  go_enter Tryz.func16, Tryz.ntmps16
  go_wp2_with (first
    | (go_at_call 42; refine HBG.out.mono ?_; rintro e w1 ⟨rfl, hA, hg⟩; have HA := Lib.hid hA; have HG := Lib.hid hg; clear hA hg)
    | (go_at_call 44; refine (HPA.out _).mono ?_; clear HPA; rintro e w3 ⟨rfl, hb3⟩; have HA3 := Lib.hid ((HA.out.below hb3).below ((Below.refl _ _).alloc (Nat.le_refl _) (.cells #[.string x.d, .string x.n] 79))); have HG3 := Lib.hid (gb_below (gb_below HG.out hb3) ((Below.refl _ _).alloc (Nat.le_refl _) (.cells #[.string x.d, .string x.n] 79))); clear hb3)
    | fail)
  obtain ⟨B, hB⟩ : ∃ B, w3.heap.size = B := ⟨_, rfl⟩
  obtain ⟨W, hW⟩ : ∃ W, w3.alloc (.cells #[.string x.d, .string x.n] 79) = W := ⟨_, rfl⟩
  have hsW : B < W.heap.size := by rw [← hW, ← hB]; simp
  have hx0 : W.drew.cell? ⟨B, 0, none⟩ = some (.string x.d) := by rw [← hW, ← hB]; simp
  have hx1 : W.drew.cell? ⟨B, 1, none⟩ = some (.string x.n) := by rw [← hW, ← hB]; simp
  rw [hW] at HA3 HG3 ⊢
  rw [hB]
  have HA4 := Lib.hid (HA3.out.below (Below.refl W.heap.size W).drew); have HG4 := Lib.hid (gb_below HG3.out (Below.refl W.heap.size W).drew)
  have hc2 : W.drew.cell? ⟨p, 2, none⟩ = some (.map (some l.bn)) := by rw [HA4.out.cell]; rfl
  have hlf : (Instr.lookup 56 (.map (some l.bn)) (.agg #[.string x.d, .string x.n]) false).run Tryz.prog W.drew = .ok (.pointer none) W.drew := by
    have := HA4.out.look_file hxo
    rw [HV.out] at this
    exact this
  have hsV : B < W.drew.heap.size := hsW
  clear hB hW hsW
  refine wp_region_mix (fun z => z.cell? ⟨p, 2, none⟩ = some (.map (some l.bn)) ∧ z.cell? ⟨B, 0, none⟩ = some (.string x.d) ∧ z.cell? ⟨B, 1, none⟩ = some (.string x.n) ∧ (Instr.lookup 56 (.map (some l.bn)) (.agg #[.string x.d, .string x.n]) false).run Tryz.prog z = .ok (.pointer none) z)
    [true, true, true, true, true, true] _ (by kernel_rfl) rfl (by kernel_rfl) ⟨hc2, hx0, hx1, hlf⟩ ?_
  dsimp only [List.dropLast, List.zip, List.zipWith, List.getLast]
  repeat (apply wpMix_free
          · intro z hz
            try dsimp only at hz
            go_simp
            all_goals with_reducible rfl
          simp only [Act.put, List.setIfInBounds_toArray, List.set_cons_zero, List.set_cons_succ])
  refine wpMix_end ?_
  clear hc2 hlf
  go_simp
  generalize W.drew = V at HA4 HG4 hsV hx0 hx1 ⊢
  go_wp2_with (first
    | (go_at_call 45; refine (HIX.out _ HA4.out).mono ?_; clear HIX; rintro e w4 ⟨rfl, hb4⟩; have hz0 := (hb4.cell (p := ⟨B, 0, none⟩) hsV).trans hx0; have hz1 := (hb4.cell (p := ⟨B, 1, none⟩) hsV).trans hx1; have hs4 := Nat.lt_of_lt_of_le hsV hb4.size; have HA5 := Lib.hid (HA4.out.below hb4); have HG5 := Lib.hid (gb_below HG4.out hb4); clear hb4)
    | (go_at_call 45; refine (HIP.out _ HA5.out).mono ?_; clear HIP; rintro e w5 ⟨rfl, hb5⟩; have hy0 := (hb5.cell (p := ⟨B, 0, none⟩) hs4).trans hz0; have hy1 := (hb5.cell (p := ⟨B, 1, none⟩) hs4).trans hz1; have hs5 := Nat.lt_of_lt_of_le hs4 hb5.size; have HA6 := Lib.hid (HA5.out.below hb5); have HG6 := Lib.hid (gb_below HG5.out hb5); have hw2 : w5.cell? ⟨p, 2, none⟩ = some (.map (some l.bn)) := (by rw [HA6.out.cell]; rfl); have hln : ∀ ty, (Builtin.len_ #[56] ty #[.map (some l.bn)]).run Tryz.prog w5 = .ok (.int .i64 s.names.length) w5 := (fun ty => by have := HA6.out.len_names ty; rwa [tick_names] at this); clear hb5)
    | fail)
  have HLG2 : Hid (∀ W : World, At W p (tickS s) l → Calls Tryz.prog 46 #[.pointer none] W fun e w' => e = .returned (.int .i64 L) ∧ Below W.heap.size W w') := HLG.out
  clear HLG
  have hq0 : ∀ d os, (Sort.grow (redrawn w5 d) os).cell? ⟨p, 0, none⟩ = some (.int .i64 R) := fun d os => by rw [(HA6.out.regrown d os).cell, ← hro]; rfl
  clear hw2 hln hx0 hx1 hz0 hz1
  refine wp_region_quiet_below (by kernel_rfl) (by kernel_rfl) ?_
  repeat (first | go_big_quiet_step ((first
    | (go_at_call 22; with_reducible exact Calls.regrown_of (HUS.out _ (HA6.out.regrown _ _)))
    | (go_at_call 46; with_reducible exact Calls.regrown_of (HLG2.out _ (HA6.out.regrown _ _))))))
  refine wpQuiet_nil ?_
  intro w7 hV7
  have hB7 := below_class hV7
  have hz0 := (hB7.cell (p := ⟨B, 0, none⟩) hs5).trans hy0
  have hz1 := (hB7.cell (p := ⟨B, 1, none⟩) hs5).trans hy1
  have hs7 : B < w7.heap.size := Nat.lt_of_lt_of_le hs5 hB7.size
  have HA8 := Lib.hid (HA6.out.below hB7); have HG8 := Lib.hid (gb_below HG6.out hB7)
  clear hV7 hB7 hq0 hy0 hy1
  have hpB : B ≠ p := by
    rintro rfl
    have : w7.heap[B]? = _ := HA8.out.top
    have h2 := hz0
    rw [HA8.out.cell] at h2
    injection h2 with h2; cases h2
  have hc4 : w7.cell? ⟨p, 4, none⟩ = some (.int .i64 (s.made : Int)) := by rw [HA8.out.cell, ← tick_made s]; rfl
  have hf4 := HA8.out.top.frozen 4
  have hmd := HMD.out
  have HM := Lib.hid (made_file HA8.out HG8.out HSM.out hxo)
  have HBT := Lib.hid (HBY.out.gb HA0.out HG8.out)
  go_wp2_with (first
    | (go_at_call 47; refine HM.out.mono ?_; clear HM; rintro e w8 ⟨⟨r, rfl⟩, v, hA9, hM9, hby9⟩; have hcv := (hby9 (.slice A n c) b HBT.out).text; have hfl := hA9.made_hold; have hd1 : w8.cell? ⟨w7.heap.size, 1, none⟩ = some (.string ⟨#[]⟩) := (by rw [hfl.cell]; rfl); have hdf := hfl.frozen 1; have HA9 := Lib.hid hA9; have HM9 := Lib.hid hM9; have HFL := Lib.hid hfl; clear hA9 hM9 hby9 hfl)
    | fail)
  go_ret
  exact ⟨rfl, made_left HA9.out HM9.out HFL.out⟩

end Go.Proofs.YtdbcjiapbehacaaGreatDoor.Vp

/-! Layer 5: the program's Write, whichever way; its Read. -/
namespace Go.Proofs.YtdbcjiapbehacaaGreatDoor.Vp
open Go.RowKit Go.Maps
open Go.Proofs.YtdbcjiapbehacaaGreatDoor.Vf (Hold OwnR Moves ret_int Hold.cell Hold.frozen Hold.keep Hold.lt Moves.refl Moves.trans)

set_option maxRecDepth 100000 in
set_option maxHeartbeats 4000000 in
theorem wr_wrong (p : Nat) (s : Pf) (l : Loc) (path : ByteArray) (v : Value) (r : Int) (w : World) (hr0 : r ≠ 0) (HBG : Hid (Calls Tryz.prog 42 #[.pointer (some ⟨p, 0, none⟩), .func (.func 43) #[] #[], .slice (some ⟨w.heap.size, 0, none⟩) 1 1] (w.alloc (.cells #[.string path] 9)) fun e w' => e = .returned (.int .i64 r) ∧ At w' p (tickS s) l ∧ w.grownBy w' (some p))) :
    Calls Tryz.prog 16 #[.pointer (some ⟨p, 0, none⟩), .string path, v] w fun e w' => e = .returned (.int .i64 r) ∧ At w' p (tickS s) l ∧ w.grownBy w' (some p) := by
  have hr1 : (r != 0) = true := by simpa using hr0
  have hr2 : (r == 0) = false := by simpa using hr0
  clear hr0
  go_enter Tryz.func16, Tryz.ntmps16
  go_wp2_with (go_at_call 42; refine HBG.out.mono ?_; rintro e w1 ⟨rfl, hA, hg⟩; have HA := Lib.hid hA; have HG := Lib.hid hg; clear hA hg)
  go_ret
  exact ⟨rfl, HA.out, HG.out⟩
theorem Fits.used {s : Pf} {T : Nat} (h : Fits s T) (hT : T ≤ 100000) : usedS s ≤ 4611686018427387904 := by
  have h1 : sumSz s.files s.names ≤ s.names.length * 65536 := sumSz_le fun q hq => (h.files q.2 (.inl ⟨q, hq, rfl⟩)).1
  have h2 := h.names
  have h3 : usedS s = sumSz s.files s.names := rfl
  rw [h3]
  have h4 : s.names.length * 65536 ≤ 100000 * 65536 := Nat.mul_le_mul_right _ (by omega)
  omega
theorem tick_used (s : Pf) : usedS (tickS s) = usedS s := by unfold usedS; rw [tick_names, tick_files]
theorem write_any (p : Nat) (s : Pf) (l : Loc) (T : Nat) (path b : ByteArray) (v : Value) (w : World) (h : At w p s l) (hf : Fits s T) (hT : T ≤ 100000) (ho : okS path) (hby : BytesAt w v b) :
    Calls Tryz.prog 16 #[.pointer (some ⟨p, 0, none⟩), .string path, v] w fun e w' => e = .returned (.int .i64 (writeRes s path b)) ∧ After w p s (writeS s path b) l w' := by
  have HBG := begin_has p s l path w h hf.left ho
  obtain ⟨r, hr⟩ : ∃ r, beginRes s (hasName path.data.toList) = r := ⟨_, rfl⟩
  rw [hr] at HBG
  have tick : ∀ {R : Int}, writeRes s path b = R → R ≠ 0 → (Calls Tryz.prog 16 #[.pointer (some ⟨p, 0, none⟩), .string path, v] w fun e w' => e = .returned (.int .i64 R) ∧ At w' p (tickS s) l ∧ w.grownBy w' (some p)) → Calls Tryz.prog 16 #[.pointer (some ⟨p, 0, none⟩), .string path, v] w fun e w' => e = .returned (.int .i64 (writeRes s path b)) ∧ After w p s (writeS s path b) l w' := fun {R} hR hn hc => hc.mono fun e w' ⟨he, hA, hg⟩ => by
    have hsy : writeS s path b = tickS s := by unfold writeS; rw [if_pos (by rw [hR]; exact hn)]
    exact ⟨by rw [he, hR], l, by rw [hsy]; exact hA, by rw [hsy]; exact moves_tick hg⟩
  by_cases hr0 : r = 0
  · subst hr0
    have hgn := begin_good hr
    have hsl := good_slashed hgn
    have hres := writeRes_0 (b := b) hr
    obtain ⟨x, hx⟩ : ∃ x, plcOf path = x := ⟨_, rfl⟩
    have hxo : okP x := by rw [← hx]; exact plc_ok ho hsl
    obtain ⟨f, hfo⟩ : ∃ f, fileOf s path = f := ⟨_, rfl⟩
    obtain ⟨dx, hdx⟩ : ∃ dx, isDirS s x.d = dx := ⟨_, rfl⟩
    obtain ⟨dp, hdp⟩ : ∃ dp, isDirS s path = dp := ⟨_, rfl⟩
    have K : MkIn p s l path x f dx dp w := ⟨HBG, fun W => by rw [← hx]; exact placeOf_any path W ho hsl, hxo, by rw [tick_fileV, ← hx, fileV_eq, hfo],
      fun W hW => by have := isDir_any p (tickS s) l x.d W hW hxo.1; rw [tick_dir, hdx] at this; exact same_below this, fun W hW => by have := isDir_any p (tickS s) l path W hW ho; rw [tick_dir, hdp] at this; exact same_below this⟩
    rw [hfo, hx, hdx, hdp] at hres
    obtain ⟨A, c, hv⟩ := hby.len
    have hlv : ∀ i, f = some i → Live s i := fun i hi => find_live (hfo.trans hi)
    have hlb : longS s f ≤ 1048576 := by
      cases f with
      | none => exact Nat.zero_le _
      | some i => have := (hf.files i (hlv i rfl)).1; show (s.files i).c.size ≤ _; omega
    have KW : WrIn p s l f (usedS s) (longS s f) s.room := ⟨fun W hW => by have := used_any p (tickS s) l W hW (by rw [tick_used]; exact hf.used hT); rwa [tick_used] at this, fun W hW => by
        cases f with
        | none => exact same_below (long_none W)
        | some i =>
          have hh := (hW.files i (live_tick.2 (hlv i rfl))).2.2
          rw [tick_files] at hh
          exact same_below (long_some (l.loc i) i (s.files i) W hh), tick_room s, hf.used hT, hlb⟩
    generalize hU : usedS s = U at KW hres
    generalize hL : longS s f = L at KW hres
    generalize hR : s.room = R at KW hres
    generalize hn : b.size = n at hv hres
    subst hv
    cases dx with
    | false => exact tick hres (by simp) (by simpa using wr_noent p s l path x f dp A n c w K)
    | true =>
      cases dp with
      | true => exact tick hres (by simp) (by simpa using wr_dir p s l path x f A n c w K)
      | false =>
        simp only [Bool.not_true, Bool.false_eq_true, if_false] at hres
        by_cases hb1 : 65536 < n
        · have e : wrTail f (decide (256 ≤ s.names.length)) n U L R = 3 := by unfold wrTail; rw [if_pos (.inl hb1)]
          rw [e] at hres
          exact tick hres (by decide) (wr_big p s l path x f A n c w K (by omega))
        · have hb2 : ¬ 65536 < (n : Int) := by omega
          cases f with
          | some i =>
            have e : wrTail (some i) (decide (256 ≤ s.names.length)) n U L R = if (U : Int) - L + n > R then 51 else 0 := by unfold wrTail; rw [if_neg (by simp; omega)]
            rw [e] at hres
            by_cases hsp : R < (U : Int) - L + n
            · rw [if_pos hsp] at hres
              exact tick hres (by decide) (wr_room_some p s l path x i A n c U L R w K KW hb2 hsp)
            · rw [if_neg hsp] at hres
              have hsy : writeS s path b = { tickS s with files := putFile s.files i ⟨b, (s.files i).d⟩ } := by unfold writeS; rw [if_neg (by rw [hres]; decide), hfo]
              rw [hres, hsy]
              exact wr_old p s l path x i A n c U L R w K KW hb2 hsp b hby h (hlv i rfl)
          | none =>
            by_cases h256 : 256 ≤ s.names.length
            · have e : wrTail none (decide (256 ≤ s.names.length)) n U L R = 3 := by unfold wrTail; rw [if_pos (.inr ⟨rfl, by simpa using h256⟩)]
              rw [e] at hres
              exact tick hres (by decide) (wr_full p s l path x A n c w K hb2 (by omega))
            · have e : wrTail none (decide (256 ≤ s.names.length)) n U L R = if (U : Int) - L + n > R then 51 else 0 := by unfold wrTail; rw [if_neg (by simp; omega)]
              rw [e] at hres
              by_cases hsp : R < (U : Int) - L + n
              · rw [if_pos hsp] at hres
                exact tick hres (by decide) (wr_room_none p s l path x A n c U L R w K KW hb2 (by omega) hsp)
              · rw [if_neg hsp] at hres
                have hsy : writeS s path b = { changeS { tickS s with made := s.made + 1 } x.d ⟨⟨#[]⟩, x.n, some (s.made + 1)⟩ with files := putFile s.files (s.made + 1) ⟨b, ⟨#[]⟩⟩ } := by unfold writeS; rw [if_neg (by rw [hres]; decide), hfo, hx]
                rw [hres, hsy]
                exact wr_new p s l path x A n c U L R w K KW hb2 (by omega) hsp b hby h (hf.change hT x.d) (by have := hf.made; omega)
  · have hR : writeRes s path b = r := by rw [writeRes_n (by rw [hr]; exact hr0), hr]
    exact tick hR hr0 (wr_wrong p s l path v r w hr0 HBG)
end Go.Proofs.YtdbcjiapbehacaaGreatDoor.Vp

/-! Layer 5: a new file system of the program's. -/
namespace Go.Proofs.YtdbcjiapbehacaaGreatDoor.Vp
open Go.RowKit Go.Maps
open Go.Proofs.YtdbcjiapbehacaaGreatDoor.Vf (Hold OwnR Moves ret_int Hold.cell Hold.frozen Hold.keep Hold.lt Hold.set gb_set OwnR.nil Moves.refl Moves.trans)

def newS (room : Int) : Pf := { room := room, waits := [(rootB, [])], names := [], dur := [], files := fun _ => ⟨⟨#[]⟩, ⟨#[]⟩⟩, made := 0, left := 0, down := false }
theorem root_ok : okS rootB := by unfold okS; decide
theorem new_live (room : Int) (i : Nat) : ¬ Live (newS room) i := by
  rintro (⟨q, hq, _⟩ | ⟨q, hq, _⟩ | ⟨y, hy, st, hst, _⟩)
  · cases hq
  · cases hq
  · rw [List.mem_singleton.1 hy] at hst; cases hst
/-- Where a new one lies. -/
def newL (b : Nat) : Loc := { bw := b, bn := b + 1, bd := b + 2, loc := fun _ => 0, rows := fun _ => .slice none 0 0 }
theorem new_left {room : Int} {p b : Nat} {W W2 : World} (hp : Hold W p 58 [.int .i64 room, .map none, .map none, .map none, .int .i64 0, .int .i64 0, .bool false]) (hb : W.heap.size = b)
    (hm : MapL Tryz.prog 9 Value.string (id : Value → Value) okS W2 b (store [] rootB (.slice none 0 0))) (hg : (W.alloc (.map #[] 0)).grownBy W2 (some b)) (hs : W2.heap.size = b + 1) :
    At (((((W2.setCell ⟨p, 1, none⟩ (.map (some b))).setCell ⟨p, 2, none⟩ (.map (some (b + 1)))).setCell ⟨p, 3, none⟩ (.map (some (b + 1 + 1)))).alloc (.map #[] 0)).alloc (.map #[] 0)) p (newS room) (newL b) ∧
    W.grownBy (((((W2.setCell ⟨p, 1, none⟩ (.map (some b))).setCell ⟨p, 2, none⟩ (.map (some (b + 1)))).setCell ⟨p, 3, none⟩ (.map (some (b + 1 + 1)))).alloc (.map #[] 0)).alloc (.map #[] 0)) (some p) := by
  have hpl : p < b := by rw [← hb]; exact hp.lt
  have hp2 : Hold W2 p 58 [.int .i64 room, .map none, .map none, .map none, .int .i64 0, .int .i64 0, .bool false] := hp.keep ((hg.block p (by simp; omega) (by simp; omega)).trans (Below.heap_alloc W _ p hp.lt))
  obtain ⟨W3, h3⟩ : ∃ W3, ((W2.setCell ⟨p, 1, none⟩ (.map (some b))).setCell ⟨p, 2, none⟩ (.map (some (b + 1)))).setCell ⟨p, 3, none⟩ (.map (some (b + 1 + 1))) = W3 := ⟨_, rfl⟩
  have hs3 : W3.heap.size = b + 1 := by rw [← h3]; simpa [World.setCell] using hs
  have k3 : ∀ g, g ≠ p → W3.heap[g]? = W2.heap[g]? := fun g hne => by
    rw [← h3, Below.heap_setCell _ ⟨p, 3, none⟩ _ g hne, Below.heap_setCell _ ⟨p, 2, none⟩ _ g hne, Below.heap_setCell _ ⟨p, 1, none⟩ _ g hne]
  have o3 : W3.os = W.os ∧ W3.tape = W.tape ∧ W3.output = W.output := by rw [← h3]; exact ⟨hg.os, hg.tape, hg.output⟩
  have t3 := ((hp2.set 1 (.map (some b))).set 2 (.map (some (b + 1)))).set 3 (.map (some (b + 1 + 1))); rw [h3] at t3 ⊢
  obtain ⟨W4, h4⟩ : ∃ W4, W3.alloc (.map #[] 0) = W4 := ⟨_, rfl⟩
  have hs4 : W4.heap.size = b + 2 := by rw [← h4]; simp [hs3]
  have k4 : ∀ g, g < b + 1 → W4.heap[g]? = W3.heap[g]? := fun g hl => by rw [← h4]; exact Below.heap_alloc W3 _ g (by omega)
  have m4 : MapL Tryz.prog 79 mkPlc (pv (newL b)) okP W4 (b + 1) [] := by rw [← h4, ← hs3]; exact MapL.made W3
  have o4 : W4.os = W.os ∧ W4.tape = W.tape ∧ W4.output = W.output := by rw [← h4]; exact o3
  rw [h4]
  obtain ⟨W5, h5⟩ : ∃ W5, W4.alloc (.map #[] 0) = W5 := ⟨_, rfl⟩
  have hs5 : W5.heap.size = b + 3 := by rw [← h5]; simp [hs4]
  have k5 : ∀ g, g < b + 2 → W5.heap[g]? = W4.heap[g]? := fun g hl => by rw [← h5]; exact Below.heap_alloc W4 _ g (by omega)
  have m5 : MapL Tryz.prog 79 mkPlc (pv (newL b)) okP W5 (b + 2) [] := by rw [← h5, ← hs4]; exact MapL.made W4
  have o5 : W5.os = W.os ∧ W5.tape = W.tape ∧ W5.output = W.output := by rw [← h5]; exact o4
  rw [h5]
  refine ⟨⟨t3.keep ((k5 p (by omega)).trans (k4 p (by omega))), ?_, ?_, ?_, ?_, ?_, ?_, ?_⟩, ?_⟩
  · show MapL _ _ _ _ _ W5 b [(rootB, Value.slice none 0 0)]
    exact hm.same ((k5 b (by omega)).trans ((k4 b (by omega)).trans (k3 b (by omega))))
  · exact m4.same (k5 (b + 1) (by omega))
  · exact m5
  · refine ⟨?_, ?_, ?_⟩ <;> (show _ ≠ _; unfold newL; simp)
  · exact fun i hi => absurd hi (new_live room i)
  · intro x hx
    rw [List.mem_singleton.1 hx]
    exact OwnR.nil _ _ _ _
  · intro x hx y hy hne
    exact .inl rfl
  · refine ⟨o5.1, o5.2.1, o5.2.2, by omega, fun g hl hne => ?_⟩
    have hgp : g ≠ p := by simpa using hne
    rw [k5 g (by omega), k4 g (by omega), k3 g hgp, hg.block g (by simp; omega) (by simp; omega)]
    exact Below.heap_alloc W _ g hl
set_option maxRecDepth 100000 in
set_option maxHeartbeats 4000000 in
theorem furnish_new (p : Nat) (room : Int) (W : World) (hp : Hold W p 58 [.int .i64 room, .map none, .map none, .map none, .int .i64 0, .int .i64 0, .bool false]) :
    Calls Tryz.prog 29 #[.pointer (some ⟨p, 0, none⟩)] W fun e w' => (∃ r, e = .returned r) ∧ At w' p (newS room) (newL W.heap.size) ∧ W.grownBy w' (some p) := by
  obtain ⟨b, hb⟩ : ∃ b, W.heap.size = b := ⟨_, rfl⟩
  have hm0 : MapL Tryz.prog 9 Value.string (id : Value → Value) okS (W.alloc (.map #[] 0)) b [] := by rw [← hb]; exact MapL.made W
  obtain ⟨W2, hins, hm, hg, hs⟩ := hm0.store_run str_laid Tryz.underlying55 (by unfold maxLen; decide) root_ok (.slice none 0 0)
  have hs2 : W2.heap.size = b + 1 := by rw [hs]; simp [hb]
  have HL := Lib.hid (new_left hp hb hm hg hs2)
  have hpl : p < b := by rw [← hb]; exact hp.lt
  have hp2 : Hold W2 p 58 [.int .i64 room, .map none, .map none, .map none, .int .i64 0, .int .i64 0, .bool false] := hp.keep ((hg.block p (by simp; omega) (by simp; omega)).trans (Below.heap_alloc W _ p hp.lt))
  have hc1 : W.cell? ⟨p, 1, none⟩ = some (.map none) := by rw [hp.cell]; rfl
  have hd1 : W2.cell? ⟨p, 1, none⟩ = some (.map none) := by rw [hp2.cell]; rfl
  have hd2 : W2.cell? ⟨p, 2, none⟩ = some (.map none) := by rw [hp2.cell]; rfl
  have hd3 : W2.cell? ⟨p, 3, none⟩ = some (.map none) := by rw [hp2.cell]; rfl
  have hf1 := hp2.frozen 1
  have hf2 := hp2.frozen 2
  have hf3 := hp2.frozen 3
  have hpb : p < W2.heap.size := by omega
  have hpb1 : p < b + 1 := by omega
  have hpb2 : p < b + 1 + 1 := by omega
  have hmm := @run_makeMap Tryz.prog
  have hq : ∀ w : World, (binOp .eql 55 (.map none) (.map none)).run Tryz.prog w = .ok (.bool true) w := fun w => run_eql_map_nil_sl (P := Tryz.prog) w _ _ _ none Tryz.underlying55
  have hins2 : (Instr.mapUpdate 55 (.map (some b)) (.string ⟨#[47]⟩) (.slice none 0 0)).run Tryz.prog (W.alloc (.map #[] 0)) = .ok () W2 := hins
  clear hp hm hg hs hp2 hm0 hins
  go_enter Tryz.func29, Tryz.ntmps29
  go_wp2_with fail
  go_end0
  rw [hb]
  exact ⟨⟨_, rfl⟩, HL.out⟩
set_option maxRecDepth 100000 in
set_option maxHeartbeats 4000000 in
theorem new_any (most : Int) (w : World) :
    Calls Tryz.prog 11 #[.int .i64 most] w fun e w' => e = .returned (.pointer (some ⟨w.heap.size, 0, none⟩)) ∧ At w' w.heap.size (newS (max most 0)) (newL (w.heap.size + 1)) ∧ Below w.heap.size w w' := by
  obtain ⟨room, hr⟩ : ∃ r, max most 0 = r := ⟨_, rfl⟩
  rw [hr]
  have hp : Hold (w.alloc (.cells #[.int .i64 room, .map none, .map none, .map none, .int .i64 0, .int .i64 0, .bool false] 58)) w.heap.size 58 [.int .i64 room, .map none, .map none, .map none, .int .i64 0, .int .i64 0, .bool false] := heap_alloc_new w _
  have HF := Lib.hid (furnish_new w.heap.size room _ hp)
  go_enter Tryz.func11, Tryz.ntmps11
  go_wp2_with (first
    | (go_at_call 29; refine HF.out.mono ?_; rintro e w1 ⟨⟨r, rfl⟩, hA, hg⟩; have HA := Lib.hid hA; have HG := Lib.hid hg; clear hA hg)
    | fail)
  go_ret
  refine ⟨rfl, ?_, ?_⟩
  · have := HA.out
    rwa [World.size_alloc] at this
  · have hb : Below w.heap.size w (w.alloc (.cells #[.int .i64 room, .map none, .map none, .map none, .int .i64 0, .int .i64 0, .bool false] 58)) := (Below.refl _ _).alloc (Nat.le_refl _) _
    exact hb.grown HG.out (by simp) fun k hk => by injection hk with hk; omega

/-! ### Read -/
/-- A row of bytes of one's own, as a text is turned into it. -/
def NewB (w : World) (base : Nat) (v : Value) (s : ByteArray) : Prop := ∃ g c m, v = .slice (some ⟨g, 0, none⟩) s.size c ∧ base ≤ g ∧ w.heap[g]? = some (.cells (bytesRow s m) 5 ((bytesRow s m).size, (bytesRow s m).size + 1))
theorem NewB.bytes {w : World} {base : Nat} {v : Value} {s : ByteArray} (h : NewB w base v s) : BytesAt w v s := by
  obtain ⟨g, c, m, rfl, _, hg⟩ := h
  refine ⟨_, c, rfl, .inr ⟨g, 0, _, _, rfl, hg, fun j hj => ?_⟩⟩
  have hj2 : j < s.data.size := by rwa [Array.length_toList] at hj
  unfold World.cell?
  rw [hg]
  have := bytesRow_at s m j hj2
  simp [this]
def readB (s : Pf) (path : ByteArray) : ByteArray := match (findRes s path).1 with
  | none => ⟨#[]⟩
  | some i => (s.files i).c
set_option maxRecDepth 100000 in
set_option maxHeartbeats 4000000 in
theorem read_any (p : Nat) (s : Pf) (l : Loc) (path : ByteArray) (w : World) (h : At w p s l) (hl : -9223372036854775808 ≤ s.left ∧ s.left ≤ 9223372036854775807) (ho : okS path) :
    Calls Tryz.prog 20 #[.pointer (some ⟨p, 0, none⟩), .string path] w fun e w' => (∃ v, e = .returned (.tuple #[v, .int .i64 (findRes s path).2]) ∧ (((findRes s path).2 ≠ 0 ∧ v = .slice none 0 0) ∨ ((findRes s path).2 = 0 ∧ NewB w' w.heap.size v (readB s path)))) ∧ At w' p (tickS s) l ∧ w.grownBy w' (some p) := by
  have HF := Lib.hid (find_any p s l path w h hl ho)
  by_cases h0 : (findRes s path).2 = 0
  · obtain ⟨i, hi, hfi, _⟩ := findRes_some h0
    have hrb : readB s path = (s.files i).c := by unfold readB; rw [hi]
    rw [hi] at HF ⊢
    have hli := find_live hfi
    rw [hrb]
    obtain ⟨t, ht⟩ : ∃ t, (s.files i).c = t := ⟨_, rfl⟩
    rw [ht]
    clear hi h0 hrb hfi h
    have hcv := fun w => run_bytes_of_string (P := Tryz.prog) w 9 38 5 t Tryz.underlying9 Tryz.underlying38 Tryz.underlying5
    go_enter Tryz.func20, Tryz.ntmps20
    go_wp2_with (go_at_call 48; refine HF.out.mono ?_; unfold ptrOf pv; rintro e w1 ⟨rfl, hA, hg⟩; have hfl := (hA.files i (live_tick.2 hli)).2.2; rw [tick_files] at hfl; have hd1 : w1.cell? ⟨l.loc i, 1, none⟩ = some (.string t) := (by rw [hfl.cell, ← ht]; rfl); have HA := Lib.hid hA; have HG := Lib.hid hg; clear hA hg hfl)
    go_ret2
    have hb : Below w1.heap.size w1 (w1.drew.alloc (.cells (bytesRow t (grownCap w1 t.size 0 5)) 5 ((bytesRow t (grownCap w1 t.size 0 5)).size, (bytesRow t (grownCap w1 t.size 0 5)).size + 1))) := ((Below.refl _ _).drew).alloc (Nat.le_refl _) _
    exact ⟨⟨_, rfl, .inr ⟨by trivial, w1.heap.size, _, _, rfl, HG.out.size, heap_alloc_new w1.drew _⟩⟩, HA.out.below hb, gb_below HG.out hb⟩
  · have hn := findRes_none h0
    rw [hn] at HF
    obtain ⟨r, hr⟩ : ∃ r, (findRes s path).2 = r := ⟨_, rfl⟩
    rw [hr] at HF h0 ⊢
    have hr1 : (r != 0) = true := by simpa using h0
    have hr2 : (r == 0) = false := by simpa using h0
    have H0 := Lib.hid h0
    clear hn hr h0 h
    go_enter Tryz.func20, Tryz.ntmps20
    go_wp2_with (go_at_call 48; refine HF.out.mono ?_; unfold ptrOf; rintro e w1 ⟨rfl, hA, hg⟩; have HA := Lib.hid hA; have HG := Lib.hid hg; clear hA hg)
    go_ret2
    exact ⟨⟨_, rfl, .inl ⟨H0.out, rfl⟩⟩, HA.out, HG.out⟩
end Go.Proofs.YtdbcjiapbehacaaGreatDoor.Vp
