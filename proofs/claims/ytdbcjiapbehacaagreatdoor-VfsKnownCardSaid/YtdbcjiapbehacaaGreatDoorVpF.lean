/-
  Layer 5: VpReboot VpRebooted, one behind the other.
-/
import Derived.Test.YtdbcjiapbehacaaGreatDoorVpE
/-! Layer 5: the program's Reboot. -/
namespace Go.Proofs.YtdbcjiapbehacaaGreatDoor.Vp
open Go.RowKit Go.Maps Go.Sort Go.Shelf
open Go.Proofs.YtdbcjiapbehacaaGreatDoor.Vf (Hold OwnR Moves ret_int Reads Elems Same Hold.cell Hold.frozen Hold.keep Hold.lt Hold.set gb_set kind_ne OwnR.blk OwnR.kind OwnR.lt wp_region_mix wpMix_free wpMix_turn wpMix_end Moves.refl Moves.trans Reads.keep)

/-! ### As plain data -/
def stepD (x : Pf × Nat) (d : ByteArray) : Pf × Nat := (keepS x.1 d (x.2 % ((waitsOf x.1 d).length + 1)), x.2 / ((waitsOf x.1 d).length + 1))
def stepF (x : Pf × Nat) (q : Plc) : Pf × Nat := match look x.1.names q with
  | none => x
  | some i => ({ x.1 with files := putFile x.1.files i (comeS (x.1.files i) x.2).1 }, (comeS (x.1.files i) x.2).2)
def dirB (s : Pf) : List ByteArray := (dirsOf s.waits).map fun l => ⟨l.toArray⟩
def cntOf (choice : Int) : Nat := (choice % 18446744073709551616).toNat
def midS (s : Pf) (choice : Int) : Pf × Nat := (dirB s).foldl stepD (s, cntOf choice)
def cloneS (s : Pf) : Pf := { s with names := s.dur }
def lateS (s : Pf) (choice : Int) : Pf × Nat := (sortP ((midS s choice).1.dur.map (·.1))).foldl stepF (cloneS (midS s choice).1, (midS s choice).2)
def rebootS (s : Pf) (choice : Int) : Pf := { (lateS s choice).1 with left := 0, down := false }
/-- All places are paths'. -/
structure CanonS (s : Pf) : Prop where
  names : ∀ q ∈ s.names, Canon q.1
  dur : ∀ q ∈ s.dur, Canon q.1
  waits : ∀ x ∈ s.waits, ∀ st ∈ x.2, st.file ≠ none → Canon ⟨x.1, st.name⟩
theorem mem_takeAll2 {dir : ByteArray} {q : Plc × Nat} : ∀ {xs : List Stp} {l : List (Plc × Nat)}, q ∈ takeAll l dir xs → q ∈ l ∨ ∃ x ∈ xs, x.file ≠ none ∧ q.1 = ⟨dir, x.name⟩
  | [], _, h => .inl h
  | x :: xs, l, h => by
    rcases mem_takeAll2 (xs := xs) (l := takeS l dir x) h with h | ⟨y, hy, e⟩
    · unfold takeS at h
      cases hf : x.file with
      | none => rw [hf] at h; exact .inl (mem_strike.1 h).1
      | some i =>
        rw [hf] at h
        rcases List.mem_cons.1 h with rfl | h
        · exact .inr ⟨x, by simp, by simp [hf], rfl⟩
        · exact .inl (mem_strike.1 (mem_strike.1 h).1).1
    · exact .inr ⟨y, by simp [hy], e⟩
theorem CanonS.keep {s : Pf} (h : CanonS s) (dir : ByteArray) (k : Nat) : CanonS (keepS s dir k) where
  names := h.names
  dur q hq := by
    rcases mem_takeAll2 hq with hq | ⟨x, hx, hn, e⟩
    · exact h.dur q hq
    · obtain ⟨xs, hm, hx2⟩ := mem_waitsOf (List.mem_of_mem_take hx)
      rw [e]; exact h.waits _ hm x hx2 hn
  waits x hx st hst hn := by
    rcases mem_storeW hx with rfl | ⟨hx, _⟩
    · cases hst
    · exact h.waits x hx st hst hn
theorem steps_strike : ∀ {l : List (ByteArray × List Stp)} {a : ByteArray} {xs : List Stp}, l.Pairwise (fun p q => p.1 ≠ q.1) → look l a = some xs → steps (strike l a) + xs.length = steps l
  | [], _, _, _, h => by simp [look] at h
  | x :: l, a, xs, hd, h => by
    obtain ⟨h1, h2⟩ := List.pairwise_cons.1 hd
    by_cases hx : x.1 = a
    · have hn : look l a = none := look_none.2 fun p hp => by rw [← hx]; exact (h1 p hp).symm
      have e : strike (x :: l) a = l := by
        have e := strike_none hn
        unfold strike at e ⊢
        rw [List.filter_cons]; simp [hx, e]
      have e2 : xs = x.2 := by unfold look at h; rw [List.find?_cons] at h; simp [hx] at h; exact h.symm
      rw [e, e2]; simp [steps]; omega
    · have hl : look l a = some xs := by unfold look at h ⊢; rw [List.find?_cons] at h; simpa [hx] using h
      have e : strike (x :: l) a = x :: strike l a := by unfold strike; rw [List.filter_cons]; simp [hx]
      have ih := steps_strike h2 hl
      rw [e]; simp [steps] at ih ⊢; omega
theorem dir_look {s : Pf} {dir : ByteArray} (h : isDirS s dir = true) : look s.waits dir = some (waitsOf s dir) := by
  unfold isDirS at h; unfold waitsOf
  cases hl : look s.waits dir with
  | none => rw [hl] at h; cases h
  | some xs => rfl
theorem Fits.keep {s : Pf} {T : Nat} (h : Fits s T) (ha : s.waits.Pairwise fun p q => p.1 ≠ q.1) {dir : ByteArray} (hd : isDirS s dir = true) (k : Nat) : Fits (keepS s dir k) T := by
  have hl := dir_look hd
  have h1 := steps_strike ha hl
  have h2 := takeAll_len dir ((waitsOf s dir).take k) s.dur
  have h3 : ((waitsOf s dir).take k).length ≤ (waitsOf s dir).length := by rw [List.length_take]; omega
  have h4 := h.dur
  refine ⟨h.names, ?_, ?_, h.made, h.left, fun i hi => h.files i (live_keep hi), fun x hx => ?_, ?_⟩
  · show (takeAll s.dur dir ((waitsOf s dir).take k)).length + steps ((dir, []) :: strike s.waits dir) ≤ T
    have : steps ((dir, []) :: strike s.waits dir) = steps (strike s.waits dir) := by simp [steps]
    omega
  · show ((dir, ([] : List Stp)) :: strike s.waits dir).length ≤ T
    have := length_strike_some ha hl
    have := h.dirs
    simp; omega
  · rcases mem_storeW hx with rfl | ⟨hx, _⟩
    · intro st hst; cases hst
    · exact h.strs x hx
  · show (look (store s.waits dir []) rootB).isSome
    by_cases e : rootB = dir
    · rw [e, look_store_same]; rfl
    · rw [look_store_other e]; exact h.root
theorem isDir_keep (s : Pf) (dir d : ByteArray) (k : Nat) (h : isDirS s dir = true) : isDirS (keepS s dir k) d = isDirS s d := by
  show (look (store s.waits dir []) d).isSome = _
  by_cases e : d = dir
  · rw [e, look_store_same]; exact h.symm
  · rw [look_store_other e]; rfl

/-! ### In memory -/
section
variable {w w' : World} {p : Nat} {s : Pf} {l : Loc}
theorem At.apartW (h : At w p s l) : s.waits.Pairwise fun p q => p.1 ≠ q.1 := by
  have := h.waits.apart
  rw [List.pairwise_map] at this
  exact this
/-- A block of cells of another type is none that it writes. -/
theorem At.no_ty (h : At w p s l) {g : Nat} {cur : Array Value} {t : TypeId} {fr : Nat × Nat} (hg : w.heap[g]? = some (.cells cur t fr)) (h1 : t ≠ 58) (h2 : t ≠ 83) (h3 : t ≠ 86) : ¬ Foot p s l g := by
  have hm : ∀ {b : Nat}, (∃ es clock, w.heap[b]? = some (.map es clock)) → g ≠ b := by
    rintro b ⟨es, clock, hb⟩ rfl
    rw [hg] at hb; cases hb
  rintro (e | e | e | e | ⟨i, hi, e⟩ | ⟨x, hx, e⟩)
  · exact cells_ty hg (show w.heap[p]? = _ from h.top) h1 e
  · exact hm h.waits.kind e
  · exact hm h.names.kind e
  · exact hm h.dur.kind e
  · exact cells_ty hg (show w.heap[l.loc i]? = _ from (h.files i hi).2.2) h2 e
  · obtain ⟨cur2, hc⟩ := (h.rows x hx).kind e
    exact cells_ty hg hc h3 rfl
theorem At.same_ty (h : At w p s l) {F' : Nat → Prop} (hm : Moves w w' (Foot p s l) F') {t : TypeId} (h1 : t ≠ 58) (h2 : t ≠ 83) (h3 : t ≠ 86) : Same t w w' := fun g _ hg => hm.stay g (Array.getElem?_eq_some_iff.1 hg).1 (h.no_ty hg h1 h2 h3)
theorem same_gb {C : Nat} {t u : TypeId} {cur : Array Value} (hg : w.grownBy w' (some C)) (hC : w.heap[C]? = some (.cells cur u (0, 0))) (hne : t ≠ u) : Same t w w' := fun g _ hgc => hg.block g (Array.getElem?_eq_some_iff.1 hgc).1 fun e => by injection e with e; exact cells_ty hgc hC hne e
theorem same_below_ty {t : TypeId} (hb : Below w.heap.size w w') : Same t w w' := fun g _ hg => hb.block g (Array.getElem?_eq_some_iff.1 hg).1
theorem At.off_gb (h : At w p s l) {C : Nat} {cur : Array Value} {t : TypeId} (hC : w.heap[C]? = some (.cells cur t (0, 0))) (hg : w.grownBy w' (some C)) (h1 : t ≠ 58) (h2 : t ≠ 83) (h3 : t ≠ 86) : At w' p s l :=
  h.keep fun g hf => hg.block g (h.lt hf) fun e => by injection e with e; subst e; exact h.no_ty hC h1 h2 h3 hf
theorem at_file2 (h : At w p s l) {i : Nat} (hi : Live s i) (x : Fil) (hk : ∀ g, Foot p s l g → g ≠ l.loc i → w'.heap[g]? = w.heap[g]?) (hx : Hold w' (l.loc i) 83 (filCells i x)) : At w' p { s with files := putFile s.files i x } l := by
  have hc : w.heap[l.loc i]? = _ := (h.files i hi).2.2
  have hpt : w.heap[p]? = _ := h.top
  refine ⟨h.top.keep (hk p (.inl rfl) (kind_ne hpt hc (by decide))), h.waits.same (hk _ (.inr (.inl rfl)) (cells_ne hc h.waits.kind).symm), h.names.same (hk _ (.inr (.inr (.inl rfl))) (cells_ne hc h.names.kind).symm), h.dur.same (hk _ (.inr (.inr (.inr (.inl rfl)))) (cells_ne hc h.dur.kind).symm), h.apart, fun j hj => ?_, fun y hy => ?_, h.own⟩
  · have hj' : Live s j := hj
    obtain ⟨h1, h2, h3⟩ := h.files j hj'
    refine ⟨h1, h2, ?_⟩
    show Hold w' (l.loc j) _ (filCells j (putFile s.files i x j))
    by_cases hij : j = i
    · subst hij; rw [show putFile s.files j x j = x by simp [putFile]]; exact hx
    · rw [show putFile s.files i x j = s.files j by simp [putFile, hij]]
      exact h3.keep (hk _ (.inr (.inr (.inr (.inr (.inl ⟨j, hj', rfl⟩))))) (h.loc_ne hj' hi hij))
  · refine (h.rows y hy).blk fun g hgb => ?_
    obtain ⟨cur, hc2⟩ := (h.rows y hy).kind hgb
    exact hk g (.inr (.inr (.inr (.inr (.inr ⟨y, hy, hgb⟩))))) (kind_ne hc2 hc (by decide))
/-- Its names are a copy of the durable ones. -/
theorem at_clone (h : At w p s l) {nb : Nat} (hb : Below w.heap.size w w') (hnb : w.heap.size ≤ nb) (hn : NamesAt w' l nb s.dur) : At (w'.setCell ⟨p, 2, none⟩ (.map (some nb))) p (cloneS s) { l with bn := nb } ∧ Moves w (w'.setCell ⟨p, 2, none⟩ (.map (some nb))) (Foot p s l) (Foot p (cloneS s) { l with bn := nb }) := by
  have h' := h.below hb
  have hpt : w'.heap[p]? = some (.cells (topCells s l).toArray 58 (0, 0)) := h'.top
  have hk : ∀ g, g ≠ p → (w'.setCell ⟨p, 2, none⟩ (.map (some nb))).heap[g]? = w'.heap[g]? := fun g hne => Below.heap_setCell w' ⟨p, 2, none⟩ _ g hne
  have hlive : ∀ i, Live (cloneS s) i → Live s i := fun i hi => by
    rcases hi with hq | hq | hq
    · exact .inr (.inl hq)
    · exact .inr (.inl hq)
    · exact .inr (.inr hq)
  have hw := h.waits.lt; have hd := h.dur.lt
  refine ⟨⟨h'.top.set 2 _, h'.waits.same (hk _ (cells_ne hpt h'.waits.kind).symm), hn.same (hk _ (cells_ne hpt hn.kind).symm), h'.dur.same (hk _ (cells_ne hpt h'.dur.kind).symm), ⟨?_, h.apart.2.1, ?_⟩, fun i hi => ?_, fun x hx => ?_, h.own⟩, hb.os, hb.tape, hb.output, by have := hb.size; simpa [World.setCell] using this, fun g hgl hnf => ?_, fun g hgf => ?_⟩
  · show l.bw ≠ nb; omega
  · show nb ≠ l.bd; omega
  · have hf := h'.files i (hlive i hi)
    have hc : w'.heap[l.loc i]? = _ := hf.2.2
    exact ⟨hf.1, hf.2.1, hf.2.2.keep (hk _ (kind_ne hc hpt (by decide)))⟩
  · refine (h'.rows x hx).blk fun g hgb => ?_
    obtain ⟨cur, hc⟩ := (h'.rows x hx).kind hgb
    exact hk g (kind_ne hc hpt (by decide))
  · exact (hk g fun e => hnf (.inl e)).trans (hb.block g hgl)
  · rcases hgf with e | e | e | e | ⟨i, hi, e⟩ | hx
    · exact .inl (.inl e)
    · exact .inl (.inr (.inl e))
    · exact .inr (by subst e; exact hnb)
    · exact .inl (.inr (.inr (.inr (.inl e))))
    · exact .inl (.inr (.inr (.inr (.inr (.inl ⟨i, hlive i hi, e⟩)))))
    · exact .inl (.inr (.inr (.inr (.inr (.inr hx)))))
end
theorem clone_any (l : Loc) (b : Nat) (ns : List (Plc × Nat)) (w : World) (h : NamesAt w l b ns) : Calls Tryz.prog 54 #[.map (some b)] w fun e w' => e = .returned (.map (some w.heap.size)) ∧ NamesAt w' l w.heap.size ns ∧ Below w.heap.size w w' :=
  (AnyW.maps_Clone_owns Tryz.cloneOf _ _ _ _ _ w h.own).mono fun _ _ ⟨he, h1, _, hb⟩ => ⟨he, ⟨h1, h.good, h.apart⟩, hb⟩
theorem snocD {xs : List ByteArray} {d : ByteArray} {x : Pf × Nat} {k : Nat} (h : xs[k]? = some d) : (xs.take (k + 1)).foldl stepD x = stepD ((xs.take k).foldl stepD x) d := by
  rw [Go.Proofs.YtdbcjiapbehacaaGreatDoor.Vf.take_snoc h, List.foldl_append]; rfl
theorem snocF {xs : List Plc} {d : Plc} {x : Pf × Nat} {k : Nat} (h : xs[k]? = some d) : (xs.take (k + 1)).foldl stepF x = stepF ((xs.take k).foldl stepF x) d := by
  rw [Go.Proofs.YtdbcjiapbehacaaGreatDoor.Vf.take_snoc h, List.foldl_append]; rfl
/-- Between two directories. -/
structure Mid (w : World) (p : Nat) (s : Pf) (l : Loc) (T C : Nat) (x : Pf × Nat) (l' : Loc) (wr : World) : Prop where
  at_ : At wr p x.1 l'
  loc : l'.loc = l.loc
  cnt : CntAt wr C x.2
  small : x.2 < 18446744073709551616
  fits : Fits x.1 T
  canon : CanonS x.1
  dirs : ∀ d, isDirS x.1 d = isDirS s d
  moves : Moves w wr (Foot p s l) (Foot p x.1 l')
  new : w.heap.size ≤ C
theorem dirB_ok {s : Pf} {d : ByteArray} (h : d ∈ dirB s) : isDirS s d = true := by
  unfold dirB at h
  obtain ⟨y, hy, rfl⟩ := List.mem_map.1 h
  have hy2 := (List.mergeSort_perm _ _).mem_iff.1 hy
  obtain ⟨x, hx, rfl⟩ := List.mem_map.1 hy2
  unfold isDirS
  cases hl : look s.waits (⟨x.1.data.toList.toArray⟩ : ByteArray) with
  | none => exact absurd rfl (look_none.1 hl x hx)
  | some v => rfl
end Go.Proofs.YtdbcjiapbehacaaGreatDoor.Vp

/-! Layer 5: the program's Reboot: its walk. -/
namespace Go.Proofs.YtdbcjiapbehacaaGreatDoor.Vp
open Go.RowKit Go.Maps Go.Sort Go.Shelf
open Go.Proofs.YtdbcjiapbehacaaGreatDoor.Vf (Hold OwnR Moves ret_int Reads Elems Same Hold.cell Hold.frozen Hold.keep Hold.lt Hold.set gb_set kind_ne OwnR.blk OwnR.kind OwnR.lt wp_region_mix wpMix_free wpMix_turn wpMix_end Moves.refl Moves.trans Reads.keep Reads.len)

theorem reads_lt {w : World} {t : TypeId} {v : Value} {xs : List (List Value)} {sz k : Nat} {cs : List Value} (h : Reads w t sz v xs) (hk : xs[k]? = some cs) : ∃ g cap, v = .slice (some ⟨g, 0, none⟩) xs.length cap ∧ xs.length ≤ cap ∧ ∀ (j : Nat) (u : Value), cs[j]? = some u → w.cell? ⟨g, k * sz + j, none⟩ = some u :=
  Go.Proofs.YtdbcjiapbehacaaGreatDoor.Vf.Reads.at_ h hk
theorem moves_C {w wr w1 w2 : World} {F G H : Nat → Prop} {C : Nat} (hm : Moves w wr F G) (hg : wr.grownBy w1 (some C)) (hC : w.heap.size ≤ C) (hM : Moves w1 w2 G H) : Moves w w2 F H :=
  ⟨hM.os.trans (hg.os.trans hm.os), hM.tape.trans (hg.tape.trans hm.tape), hM.output.trans (hg.output.trans hm.output), Nat.le_trans (Nat.le_trans hm.size hg.size) hM.size, fun g hgl hn => by
    have h1 : ¬ G g := fun hG => (hm.new g hG).elim hn (by omega)
    have h2 := hm.size; have h3 := hg.size
    exact (hM.stay g (by omega) h1).trans ((hg.block g (by omega) (fun e => by injection e with e; omega)).trans (hm.stay g hgl hn)), fun g hH => by
    have h2 := hm.size; have h3 := hg.size
    rcases hM.new g hH with e | e
    · exact hm.new g e
    · exact .inr (by omega)⟩
theorem mid_turn {w wr w1 w2 : World} {p T C : Nat} {s : Pf} {l l' l2 : Loc} {x : Pf × Nat} {d : ByteArray} {k : Nat} (h : Mid w p s l T C x l' wr) (hk : x.2 % ((waitsOf x.1 d).length + 1) = k) (hd : isDirS s d = true) (hg : wr.grownBy w1 (some C)) (hc : CntAt w1 C (x.2 / ((waitsOf x.1 d).length + 1))) (hl2 : l2.loc = l'.loc)
    (hA : At w2 p (keepS x.1 d k) l2) (hM : Moves w1 w2 (Foot p x.1 l') (Foot p (keepS x.1 d k) l2)) : Mid w p s l T C (stepD x d) l2 w2 := by
  have hAt1 : At w1 p x.1 l' := h.at_.off_gb h.cnt hg (by decide) (by decide) (by decide)
  have hds : isDirS x.1 d = true := (h.dirs d).trans hd
  have hC1 : C < w1.heap.size := (Array.getElem?_eq_some_iff.1 hc).1
  subst hk
  exact ⟨hA, hl2.trans h.loc, (hM.stay C hC1 (hAt1.no_ty hc (by decide) (by decide) (by decide))).trans hc, Nat.lt_of_le_of_lt (Nat.div_le_self _ _) h.small, h.fits.keep h.at_.apartW hds _, h.canon.keep _ _, fun e => (isDir_keep x.1 d e _ hds).trans (h.dirs e), moves_C h.moves hg h.new hM, h.new⟩
/-- Between two files. -/
structure Late (w : World) (p : Nat) (s : Pf) (l : Loc) (T C : Nat) (N : List (Plc × Nat)) (x : Pf × Nat) (l' : Loc) (wr : World) : Prop where
  at_ : At wr p x.1 l'
  cnt : CntAt wr C x.2
  small : x.2 < 18446744073709551616
  fits : Fits x.1 T
  canon : CanonS x.1
  names : x.1.names = N
  moves : Moves w wr (Foot p s l) (Foot p x.1 l')
  new : w.heap.size ≤ C
theorem comeS_small {x : Fil} {c n : Nat} (h : x.c.size ≤ n ∧ x.d.size ≤ n) : (comeS x c).1.c.size ≤ n ∧ (comeS x c).1.d.size ≤ n := by
  unfold comeS
  split
  · exact h
  · dsimp only
    split
    · rw [ByteArray.size_extract]; omega
    · exact ⟨h.2, h.2⟩
theorem comeS_le (x : Fil) (c : Nat) : (comeS x c).2 ≤ c := by
  unfold comeS
  split
  · exact Nat.le_refl _
  · exact Nat.div_le_self _ _
theorem late_turn {w wr w1 w2 : World} {p T C i : Nat} {s : Pf} {l l' : Loc} {N : List (Plc × Nat)} {x : Pf × Nat} {q : Plc} (h : Late w p s l T C N x l' wr) (hi : look N q = some i) (hb : Below wr.heap.size wr w1)
    (hH : Hold w2 (l'.loc i) 83 (filCells i (comeS (x.1.files i) x.2).1)) (hc : CntAt w2 C (comeS (x.1.files i) x.2).2) (hM : Moves w1 w2 (fun b => b = l'.loc i ∨ b = C) (fun b => b = l'.loc i ∨ b = C)) : Late w p s l T C N (stepF x q) l' w2 := by
  have hi' : look x.1.names q = some i := by rw [h.names]; exact hi
  have hli : Live x.1 i := .inl ⟨_, look_mem hi', rfl⟩
  have e : stepF x q = ({ x.1 with files := putFile x.1.files i (comeS (x.1.files i) x.2).1 }, (comeS (x.1.files i) x.2).2) := by unfold stepF; rw [hi']
  rw [e]
  have hA1 := h.at_.below hb
  have hnC : ∀ g, Foot p x.1 l' g → g ≠ C := fun g hf e => by subst e; exact h.at_.no_ty h.cnt (by decide) (by decide) (by decide) hf
  have hs := h.moves.size
  refine ⟨at_file2 hA1 hli _ (fun g hf hne => hM.stay g (hA1.lt hf) (fun e => e.elim hne (hnC g hf))) hH, hc, Nat.lt_of_le_of_lt (comeS_le _ _) h.small, ⟨h.fits.names, h.fits.dur, h.fits.dirs, h.fits.made, h.fits.left, fun j hj => ?_, h.fits.strs, h.fits.root⟩, ⟨h.canon.names, h.canon.dur, h.canon.waits⟩, h.names, ⟨hM.os.trans (hb.os.trans h.moves.os), hM.tape.trans (hb.tape.trans h.moves.tape), hM.output.trans (hb.output.trans h.moves.output), Nat.le_trans (Nat.le_trans hs hb.size) hM.size, fun g hgl hn => ?_, fun g hgf => h.moves.new g hgf⟩, h.new⟩
  · have hj' := h.fits.files j hj
    show (putFile x.1.files i (comeS (x.1.files i) x.2).1 j).c.size ≤ _ ∧ (putFile x.1.files i (comeS (x.1.files i) x.2).1 j).d.size ≤ _
    unfold putFile
    split
    · rename_i e; subst e; exact comeS_small hj'
    · exact hj'
  · have hs2 := hb.size
    refine (hM.stay g (by omega) fun e => ?_).trans ((hb.block g (by omega)).trans (h.moves.stay g hgl hn))
    rcases e with e | e
    · exact (h.moves.new g (.inr (.inr (.inr (.inr (.inl ⟨i, hli, e⟩)))))).elim hn (by omega)
    · have := h.new; omega

set_option maxRecDepth 100000 in
set_option maxHeartbeats 8000000 in
theorem reboot_any (p : Nat) (s : Pf) (l : Loc) (T : Nat) (choice : Int) (w : World) (h : At w p s l) (hf : Fits s T) (hT : T ≤ 100000) (hcn : CanonS s) :
    Calls Tryz.prog 19 #[.pointer (some ⟨p, 0, none⟩), .int .i64 choice] w fun e w' => (∃ r, e = .returned r) ∧ After w p s (rebootS s choice) l w' ∧ Fits (rebootS s choice) T ∧ CanonS (rebootS s choice) := by
  obtain ⟨c0, hc0⟩ : ∃ c0, cntOf choice = c0 := ⟨_, rfl⟩
  have hc0s : c0 < 18446744073709551616 := by rw [← hc0]; unfold cntOf; omega
  have hcw : IntKind.u64.wrap choice = (c0 : Int) := by rw [← hc0]; unfold cntOf; simp [IntKind.wrap, IntKind.bits, IntKind.signed]; omega
  obtain ⟨C, hC⟩ : ∃ C, w.heap.size = C := ⟨_, rfl⟩
  obtain ⟨W0, hW0⟩ : ∃ W0, w.alloc (.cells #[.int .u64 c0] 91) = W0 := ⟨_, rfl⟩
  have hb0 : Below w.heap.size w W0 := by rw [← hW0]; exact (Below.refl _ _).alloc (Nat.le_refl _) _
  have hA0 := h.below hb0
  have hC0 : CntAt W0 C c0 := by rw [← hW0, ← hC]; exact heap_alloc_new w _
  have hp1 : W0.cell? ⟨p, 1, none⟩ = some (.map (some l.bw)) := by rw [hA0.cell]; rfl
  have hdl : (dirB s).length ≤ 1000000 := by
    unfold dirB dirsOf sortB
    rw [List.length_map, List.length_mergeSort, List.length_map]
    have := hf.dirs; omega
  have HSK := Lib.hid (sortedKeys_any l.bw _ W0 hA0.waits (by rw [List.length_map]; have := hf.dirs; omega))
  have hds : ((sortB ((s.waits.map fun y => (y.1, l.rows y.1)).map fun x => x.1.data.toList)).map fun x => [encStr x]) = (dirB s).map fun d => [Value.string d] := by
    rw [List.map_map]; unfold dirB dirsOf; rw [List.map_map]; rfl
  rw [hds] at HSK
  have HA0 := Lib.hid hA0; have HC0 := Lib.hid hC0; have HB0 := Lib.hid hb0; have HF := Lib.hid hf; have HCN := Lib.hid hcn; have HCS := Lib.hid hC
  have HRS : Hid (rebootS s choice = { ((sortP (((dirB s).foldl stepD (s, c0)).1.dur.map (·.1))).foldl stepF (cloneS ((dirB s).foldl stepD (s, c0)).1, ((dirB s).foldl stepD (s, c0)).2)).1 with left := 0, down := false }) := by
    refine Lib.hid ?_
    unfold rebootS lateS midS
    rw [hc0]
  clear hb0 hA0 hC0 hds hf hcn hc0 h
  go_enter Tryz.func19, Tryz.ntmps19
  go_wp2_with (first
    | (go_at_call 53; refine (keysS_any l.bw _).mono ?_; rintro e w1 ⟨rfl, rfl⟩)
    | (go_at_call 52; refine HSK.out.mono ?_; clear HSK; rintro e w2 ⟨v, rfl, hr, hb⟩; obtain ⟨A, cp, rfl⟩ := hr.len; rw [List.length_map] at hr; have HR := Lib.hid hr; have HB := Lib.hid hb; clear hr hb)
    | fail)
  have hstart : Mid w p s l T C (s, c0) l w2 := ⟨HA0.out.below HB.out, rfl, (HB.out.block C (Array.getElem?_eq_some_iff.1 HC0.out).1).trans HC0.out, hc0s, HF.out, HCN.out, fun _ => rfl, ⟨HB.out.os.trans HB0.out.os, HB.out.tape.trans HB0.out.tape, HB.out.output.trans HB0.out.output, Nat.le_trans HB0.out.size HB.out.size, fun g hg _ => (HB.out.block g (Nat.lt_of_lt_of_le hg HB0.out.size)).trans (HB0.out.block g hg), fun _ h => .inl h⟩, Nat.le_of_eq hC⟩
  have HST := Lib.hid hstart
  clear hstart hcw hp1 hW0
  go_loopw [22] (fun i wr => ∃ (k : Nat) (l' : Loc), k ≤ (dirB s).length ∧ i = .int .i64 k ∧ Reads wr 9 1 (.slice A (dirB s).length cp) ((dirB s).map fun d => [Value.string d]) ∧ Mid w p s l T C (((dirB s).take k).foldl stepD (s, c0)) l' wr) (fun i _ => (dirB s).length - (intOf i).toNat)
  case atStart => exact ⟨0, l, by omega, rfl, HR.out, HST.out⟩
  case round =>
    obtain ⟨k, l', hk, rfl, hrd, hmid⟩ := hrel
    obtain ⟨x, hx⟩ : ∃ x, ((dirB s).take k).foldl stepD (s, c0) = x := ⟨_, rfl⟩
    rw [hx] at hmid
    by_cases hlt : k < (dirB s).length
    · obtain ⟨d, hd⟩ : ∃ d, (dirB s)[k]? = some d := ⟨_, List.getElem?_eq_getElem hlt⟩
      obtain ⟨g, cap, hv, hcap, hcell⟩ := reads_lt hrd (k := k) (cs := [.string d]) (by rw [List.getElem?_map, hd]; rfl)
      rw [List.length_map] at hv hcap
      injection hv with e1 _ e3
      subst e1; subst e3
      have hg0 := hcell 0 _ rfl
      rw [Nat.mul_one, Nat.add_zero] at hg0
      have hdir : isDirS s d = true := dirB_ok (List.mem_of_getElem? hd)
      have hdx : isDirS x.1 d = true := (hmid.dirs d).trans hdir
      have hod : okS d := hmid.at_.waits.good (d, l'.rows d) (List.mem_map.2 ⟨_, look_mem (dir_look hdx), rfl⟩)
      have hlk := hmid.at_.look_row hod
      obtain ⟨A2, c2, hus⟩ := okRow_len (hmid.at_.row d)
      rw [List.length_map] at hus
      rw [hus] at hlk
      have hq1 : wr.cell? ⟨p, 1, none⟩ = some (.map (some l'.bw)) := by rw [hmid.at_.cell]; rfl
      have hwl := waitsOf_le x.1 d
      have hdd := hmid.fits.dur
      obtain ⟨n, hn⟩ : ∃ n, (waitsOf x.1 d).length = n := ⟨_, rfl⟩
      obtain ⟨m, hm⟩ : ∃ m, x.2 % ((waitsOf x.1 d).length + 1) = m := ⟨_, rfl⟩
      have hmn : m ≤ n := by rw [← hm, ← hn]; have := Nat.mod_lt x.2 (show 0 < (waitsOf x.1 d).length + 1 by omega); omega
      have HPK : Hid (Calls Tryz.prog 51 #[.int .i64 ((n : Int) + 1), .pointer (some ⟨C, 0, none⟩)] wr fun e w' => e = .returned (.int .i64 m) ∧ CntAt w' C (x.2 / ((waitsOf x.1 d).length + 1)) ∧ wr.grownBy w' (some C)) := by
        have := pick_any C x.2 (n + 1) wr hmid.cnt hmid.small (by omega) (by omega)
        rw [← hn, hm] at this
        rw [← hn]
        exact Lib.hid this
      have hAC : Hid (∀ w1 : World, wr.grownBy w1 (some C) → At w1 p x.1 l') := Lib.hid fun w1 hg => hmid.at_.off_gb hmid.cnt hg (by decide) (by decide) (by decide)
      have HKP : Hid (∀ W : World, At W p x.1 l' → Calls Tryz.prog 50 #[.pointer (some ⟨p, 0, none⟩), .string d, .int .i64 m] W fun e w' => (∃ r, e = .returned r) ∧ ∃ l2, l2.loc = l'.loc ∧ At w' p (keepS x.1 d m) l2 ∧ Moves W w' (Foot p x.1 l') (Foot p (keepS x.1 d m) l2)) := Lib.hid fun W hW =>
        keep_any p x.1 l' d m W hW hod (fun y hy => by obtain ⟨ys, hm1, hm2⟩ := mem_waitsOf hy; exact hmid.fits.strs _ hm1 y hm2) (by omega) (by omega) (by have := hmid.fits.dirs; omega)
      have HMID := Lib.hid hmid; have HRD := Lib.hid hrd; have HX := Lib.hid hx; have HM := Lib.hid hm; have HD := Lib.hid hd
      have hk0 : (0 : Int) ≤ (k : Int) := by omega
      have hk1 : (k : Int) < ((dirB s).length : Int) := by omega
      rw [hn] at hlk
      clear hmid hrd hx hm hd hcell hus hod
      go_wp2_with (first
        | (go_at_call 51; refine HPK.out.mono ?_; rintro e w3 ⟨rfl, hC3, hg3⟩; have hA3 := hAC.out w3 hg3; have HA3 := Lib.hid hA3; have HC3 := Lib.hid hC3; have HG3 := Lib.hid hg3; clear hA3 hC3 hg3)
        | (go_at_call 50; refine (HKP.out w3 HA3.out).mono ?_; rintro e w4 ⟨⟨r, rfl⟩, l2, hloc, hA4, hM4⟩; have HL4 := Lib.hid hloc; have HA4 := Lib.hid hA4; have HM4 := Lib.hid hM4; clear hloc hA4 hM4)
        | fail)
      have hnew := mid_turn HMID.out HM.out hdir HG3.out HC3.out HL4.out HA4.out HM4.out
      refine ⟨⟨k + 1, l2, hlt, by go_num, ?_, by rw [snocD HD.out, HX.out]; exact hnew⟩, by simp [intOf]; omega⟩
      exact (HRD.out.keep (same_gb HG3.out HMID.out.cnt (by decide))).keep (HA3.out.same_ty HM4.out (by decide) (by decide) (by decide))
    · obtain rfl : k = (dirB s).length := by omega
      rw [List.take_of_length_le (Nat.le_refl _)] at hx
      have hb3 : wr.cell? ⟨p, 3, none⟩ = some (.map (some l'.bd)) := by rw [hmid.at_.cell]; rfl
      obtain ⟨xs, hxs⟩ : ∃ xs, sortP (x.1.dur.map (·.1)) = xs := ⟨_, rfl⟩
      have HMID := Lib.hid hmid; have HX := Lib.hid hx
      have HCL := Lib.hid (clone_any l' l'.bd x.1.dur wr hmid.at_.dur)
      have hk1 : ¬ ((dirB s).length : Int) < ((dirB s).length : Int) := by omega
      clear hmid hx hrd HR HB
      go_wp2_with (first
        | (go_at_call 54; refine HCL.out.mono ?_; clear HCL; rintro e w5 ⟨rfl, hn5, hb5⟩; have h5 := at_clone HMID.out.at_ hb5 (Nat.le_refl _) hn5; have hh5 := (HMID.out.at_.below hb5); have hc5 : w5.cell? ⟨p, 2, none⟩ = some (.map (some l'.bn)) := (by rw [hh5.cell]; rfl); have hf5 := hh5.top.frozen 2; have hpl := places_any p _ _ _ h5.1 HMID.out.canon.dur (by have := HMID.out.fits.dur; show x.1.dur.length ≤ _; omega); rw [show sortP ((cloneS x.1).names.map (·.1)) = xs from hxs] at hpl; have HP5 := Lib.hid hpl; clear hpl; have H5 := Lib.hid h5; have HB5 := Lib.hid hb5; clear hn5 hb5 h5 hh5)
        | (go_at_call 55; refine HP5.out.mono ?_; clear HP5; rintro e w6 ⟨v6, rfl, hr6, hb6⟩; obtain ⟨A6, cp6, rfl⟩ := hr6.len; rw [List.length_map] at hr6; have HR6 := Lib.hid hr6; have HB6 := Lib.hid hb6; clear hr6 hb6)
        | fail)
      have hbw := HB5.out.size
      have hstart2 : Late w p s l T C x.1.dur (cloneS x.1, x.2) { l' with bn := wr.heap.size } w6 := by
        have hCl := (Array.getElem?_eq_some_iff.1 HMID.out.cnt).1
        have hpC : p ≠ C := fun e => HMID.out.at_.no_ty HMID.out.cnt (by decide) (by decide) (by decide) (.inl e.symm)
        refine ⟨H5.out.1.below HB6.out, ?_, HMID.out.small, ⟨?_, HMID.out.fits.dur, HMID.out.fits.dirs, HMID.out.fits.made, HMID.out.fits.left, fun i hi => HMID.out.fits.files i ?_, HMID.out.fits.strs, HMID.out.fits.root⟩, ⟨HMID.out.canon.dur, HMID.out.canon.dur, HMID.out.canon.waits⟩, rfl, HMID.out.moves.trans (H5.out.2.trans ⟨HB6.out.os, HB6.out.tape, HB6.out.output, HB6.out.size, fun g hg _ => HB6.out.block g hg, fun _ h => .inl h⟩), HMID.out.new⟩
        · exact (HB6.out.block C (by simp [World.setCell]; omega)).trans ((Below.heap_setCell w5 ⟨p, 2, none⟩ _ C (Ne.symm hpC)).trans ((HB5.out.block C hCl).trans HMID.out.cnt))
        · have := HMID.out.fits.dur; show x.1.dur.length ≤ T; omega
        · rcases hi with hq | hq | hq
          · exact .inr (.inl hq)
          · exact .inr (.inl hq)
          · exact .inr (.inr hq)
      obtain ⟨l3, hl3⟩ : ∃ l3 : Loc, { l' with bn := wr.heap.size } = l3 := ⟨_, rfl⟩
      rw [hl3] at hstart2
      have HST2 := Lib.hid hstart2
      have hmx : ∀ q ∈ xs, ∃ i, look x.1.dur q = some i := fun q hq => by
        rw [← hxs] at hq
        obtain ⟨z, hz, rfl⟩ := List.mem_map.1 ((sortP_perm _).mem_iff.1 hq)
        cases hl : look x.1.dur z.1 with
        | some i => exact ⟨i, rfl⟩
        | none => exact absurd rfl (look_none.1 hl z hz)
      have hxl : xs.length ≤ 1000000 := by
        have h1 := (sortP_perm (x.1.dur.map (·.1))).length_eq
        rw [hxs, List.length_map] at h1
        have := HMID.out.fits.dur; omega
      have HMX := Lib.hid hmx; have HXS := Lib.hid hxs
      have hokd : ∀ q ∈ x.1.dur, okP q.1 := HMID.out.at_.dur.good
      have HOK := Lib.hid hokd
      clear hstart2 hmx hxs hokd hb3 HB5 HB6 H5 hc5 hf5 HST HMID hl3
      go_loopw [51] (fun i wr => ∃ k : Nat, k ≤ xs.length ∧ i = .int .i64 k ∧ Reads wr 79 2 (.slice A6 xs.length cp6) (xs.map plcCells) ∧ Late w p s l T C x.1.dur ((xs.take k).foldl stepF (cloneS x.1, x.2)) l3 wr) (fun i _ => xs.length - (intOf i).toNat)
      case atStart => exact ⟨0, by omega, rfl, HR6.out, HST2.out⟩
      case round =>
        obtain ⟨k, hk, rfl, hrd, hlate⟩ := hrel
        obtain ⟨y, hy⟩ : ∃ y, (xs.take k).foldl stepF (cloneS x.1, x.2) = y := ⟨_, rfl⟩
        rw [hy] at hlate
        by_cases hlt : k < xs.length
        · obtain ⟨q, hq⟩ : ∃ q, xs[k]? = some q := ⟨_, List.getElem?_eq_getElem hlt⟩
          obtain ⟨g, cap, hv, hcap, hcell⟩ := reads_lt hrd (k := k) (cs := plcCells q) (by rw [List.getElem?_map, hq]; rfl)
          rw [List.length_map] at hv hcap
          injection hv with e1 _ e3
          subst e1; subst e3
          have hg0 := hcell 0 _ rfl
          have hg1 := hcell 1 _ rfl
          rw [Nat.add_zero] at hg0
          obtain ⟨i, hi⟩ := HMX.out q (List.mem_of_getElem? hq)
          have hqo : okP q := HOK.out _ (look_mem hi)
          have hki0 : (0 : Int) ≤ (k : Int) := by omega
          have hki1 : (k : Int) < (xs.length : Int) := by omega
          have hiy : look y.1.names q = some i := by rw [hlate.names]; exact hi
          have hli : Live y.1 i := .inl ⟨_, look_mem hiy, rfl⟩
          obtain ⟨W, hW⟩ : ∃ W, wr.alloc (.cells #[.string q.d, .string q.n] 79) = W := ⟨_, rfl⟩
          obtain ⟨B, hB⟩ : ∃ B, wr.heap.size = B := ⟨_, rfl⟩
          have hbW : Below wr.heap.size wr W.drew := by rw [← hW]; exact ((Below.refl _ _).alloc (Nat.le_refl _) _).drew
          have hx0 : W.drew.cell? ⟨B, 0, none⟩ = some (.string q.d) := by rw [← hW, ← hB]; simp
          have hx1 : W.drew.cell? ⟨B, 1, none⟩ = some (.string q.n) := by rw [← hW, ← hB]; simp
          have hAW := hlate.at_.below hbW
          have hw2 : W.drew.cell? ⟨p, 2, none⟩ = some (.map (some l3.bn)) := by rw [hAW.cell]; rfl
          have hlf := hAW.look_file hqo
          have hfv : fileV y.1 l3 q = .pointer (some ⟨l3.loc i, 0, none⟩) := by unfold fileV; rw [hiy]; rfl
          rw [hfv] at hlf
          have hfl := (hAW.files i hli).2.2
          have hCW : CntAt W.drew C y.2 := (hbW.block C (Array.getElem?_eq_some_iff.1 hlate.cnt).1).trans hlate.cnt
          have HCU := Lib.hid (comeUp_any (l3.loc i) C i y.2 (y.1.files i) W.drew hfl hCW hlate.small (by have := (hlate.fits.files i hli).1; omega))
          have HLT := Lib.hid hlate; have HRD := Lib.hid hrd; have HI := Lib.hid hi; have HBW := Lib.hid hbW; have HY := Lib.hid hy; have HQ := Lib.hid hq;
          clear hlate hrd hi hbW hy hq hcell hAW hfl hCW hfv
          go_wp2_with fail
          clear hW hB
          refine wp_region_mix (fun z => z.cell? ⟨p, 2, none⟩ = some (.map (some l3.bn)) ∧ z.cell? ⟨B, 0, none⟩ = some (.string q.d) ∧ z.cell? ⟨B, 1, none⟩ = some (.string q.n) ∧ (Instr.lookup 56 (.map (some l3.bn)) (.agg #[.string q.d, .string q.n]) false).run Tryz.prog z = .ok (.pointer (some ⟨l3.loc i, 0, none⟩)) z)
            [true, true, true, true, true, true, true] _ (by kernel_rfl) rfl (by kernel_rfl) ⟨hw2, hx0, hx1, hlf⟩ ?_
          dsimp only [List.dropLast, List.zip, List.zipWith, List.getLast]
          repeat (apply wpMix_free
                  · intro z hz
                    try dsimp only at hz
                    go_simp
                    all_goals with_reducible rfl
                  simp only [Act.put, List.setIfInBounds_toArray, List.set_cons_zero, List.set_cons_succ])
          refine wpMix_end ?_
          clear hw2 hx0 hx1 hlf
          go_simp
          refine HCU.out.mono ?_
          rintro e w7 ⟨⟨r, rfl⟩, hH7, hC7, hM7⟩
          have HH7 := Lib.hid hH7; have HC7 := Lib.hid hC7; have HM7 := Lib.hid hM7
          clear hH7 hC7 hM7
          go_wp2_with fail
          have hnew := late_turn HLT.out HI.out HBW.out HH7.out HC7.out HM7.out
          refine ⟨⟨k + 1, hlt, by go_num, ?_, by rw [snocF HQ.out, HY.out]; exact hnew⟩, by simp [intOf]; omega⟩
          have hr2 := HRD.out.keep (same_below_ty HBW.out)
          have hA2 := HLT.out.at_.below HBW.out
          refine hr2.keep fun g3 cur3 hg3 => HM7.out.stay g3 (Array.getElem?_eq_some_iff.1 hg3).1 fun e => ?_
          rcases e with e | e
          · exact cells_ty hg3 (show W.drew.heap[l3.loc i]? = _ from (hA2.files i hli).2.2) (by decide) e
          · exact cells_ty hg3 (show W.drew.heap[C]? = _ from (HBW.out.block C (Array.getElem?_eq_some_iff.1 HLT.out.cnt).1).trans HLT.out.cnt) (by decide) e
        · obtain rfl : k = xs.length := by omega
          rw [List.take_of_length_le (Nat.le_refl _)] at hy
          have hd5 : wr.cell? ⟨p, 5, none⟩ = some (.int .i64 y.1.left) := by rw [hlate.at_.cell]; rfl
          have hd6 : wr.cell? ⟨p, 6, none⟩ = some (.bool y.1.down) := by rw [hlate.at_.cell]; rfl
          have hf5 := hlate.at_.top.frozen 5
          have hf6 := hlate.at_.top.frozen 6
          have hk1' : ¬ (xs.length : Int) < (xs.length : Int) := by omega
          have hfin : rebootS s choice = { y.1 with left := 0, down := false } := by rw [HRS.out, HX.out, HXS.out, hy]
          have HLT := Lib.hid hlate; have HFIN := Lib.hid hfin
          clear hlate hy hfin hrd
          go_wp2_with fail
          go_end0
          rw [HFIN.out]
          have htop := (HLT.out.at_.top.set 6 (.bool false)).set 5 (.int .i64 0)
          have hgb := gb_set (gb_set (World.grownBy.refl wr (some p)) 6 (.bool false)) 5 (.int .i64 0)
          refine ⟨⟨_, rfl⟩, ⟨l3, HLT.out.at_.turn 0 false hgb htop, HLT.out.moves.trans ⟨hgb.os, hgb.tape, hgb.output, hgb.size, fun g hg hn => hgb.block g hg (fun e => by injection e with e; exact hn (.inl e)), fun g hgf => .inl hgf⟩⟩, ⟨HLT.out.fits.names, HLT.out.fits.dur, HLT.out.fits.dirs, HLT.out.fits.made, by simp, HLT.out.fits.files, HLT.out.fits.strs, HLT.out.fits.root⟩, ⟨HLT.out.canon.names, HLT.out.canon.dur, HLT.out.canon.waits⟩⟩
end Go.Proofs.YtdbcjiapbehacaaGreatDoor.Vp
