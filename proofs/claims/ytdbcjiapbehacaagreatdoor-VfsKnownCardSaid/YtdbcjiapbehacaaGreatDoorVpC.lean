/-
  Layer 5: VpRange VpUsed VpOps VpOps2 VpRename, one behind the other.
-/
import Derived.Test.YtdbcjiapbehacaaGreatDoorVpA
import Derived.Test.YtdbcjiapbehacaaGreatDoorVpB
import Derived.Laws.IdiomStrings
import Derived.Laws.BytesArg
import Derived.Laws.BytesString
/-! A range over a map that reads as a list: what is still to come, as a list. -/
namespace Go.Proofs.YtdbcjiapbehacaaGreatDoor.Vp
open Go.Maps Go.MapKept Go.WideShapes
section
variable {α β : Type} {P : Program} {k : TypeId} {mk : α → Value} {mv : β → Value} {ok : α → Prop} {w : World} {b r : Nat} {l todo : List (α × β)}
variable (P k mk mv ok) in
/-- The range r over block b, which reads as l: todo is still to come. -/
structure RangeL (w : World) (b r : Nat) (l todo : List (α × β)) : Prop where
  mp : MapL P k mk mv ok w b l
  rg : ∃ left cnt, w.ranges P k asIs b r l.length (dat P k mk mv l) left cnt ∧ (∀ p ∈ l, left (lit P k (mk p.1)) = true ↔ p ∈ todo) ∧ (∀ kl, left kl = true → ∃ p ∈ l, lit P k (mk p.1) = kl)
  sub : ∀ p ∈ todo, p ∈ l
  apart : todo.Pairwise (fun p q => p.1 ≠ q.1)
theorem RangeL.lt (h : RangeL P k mk mv ok w b r l todo) : r < w.heap.size := by
  obtain ⟨_, _, hr, _⟩ := h.rg; exact hr.lt
theorem RangeL.ne (h : RangeL P k mk mv ok w b r l todo) : r ≠ b := by
  obtain ⟨_, _, hr, _⟩ := h.rg; exact hr.ne
theorem RangeL.kept {w' : World} {row : Option Nat} (h : RangeL P k mk mv ok w b r l todo) (hg : w.grownBy w' row) (hb : some b ≠ row) (hr : some r ≠ row) : RangeL P k mk mv ok w' b r l todo := by
  obtain ⟨left, cnt, h1, h2⟩ := h.rg
  exact ⟨h.mp.kept hg hb, ⟨left, cnt, h1.kept hg hb hr, h2⟩, h.sub, h.apart⟩
theorem RangeL.kind (h : RangeL P k mk mv ok w b r l todo) : ∃ m s seen c, w.heap[r]? = some (.mapIter m s seen c) := by
  obtain ⟨_, _, ⟨es, clock, since, seen, c0, _, _, _, _, hr, _⟩, _⟩ := h.rg
  exact ⟨_, _, _, _, hr⟩
variable (L : Laid P k ok mk) {t e : TypeId} {ops : Array Oper} {rest : List Oper} {o : Oper} {a : Act} {Q : Exit → Act → World → Prop}
include L
theorem range_start {w' : World} (h : MapL P k mk mv ok w b l) (hr : w'.ranges P k asIs b r l.length (dat P k mk mv l) (Maps.has (dat P k mk mv l)) (Maps.size (dat P k mk mv l))) (hg : w.grownBy w' none) : RangeL P k mk mv ok w' b r l l := by
  classical
  refine ⟨h.kept hg (by simp), ⟨_, _, hr, fun p hp => ?_, fun kl hkl => ?_⟩, fun p hp => hp, h.apart⟩
  · rw [dat_has L h.good h.apart (h.good p hp), look_of_mem h.apart (v := p.2) hp]
    exact ⟨fun _ => hp, fun _ => rfl⟩
  · obtain ⟨q, hq, hk⟩ := List.any_eq_true.1 hkl
    obtain ⟨x, hx, rfl⟩ := List.mem_map.1 ((sorted_perm _).mem_iff.1 hq)
    exact ⟨x, hx, WideAt.sameKey_eq hk⟩
/-- range m. -/
theorem wpList_range_l (ht : P.underlying t = some (.map k e)) (hg : o.guard = none) (m : Operand) (hop : o.op = Op.range t m) (h : MapL P k mk mv ok w b l) (hm : a.eval m = .map (some b))
    (hK : ∀ w', RangeL P k mk mv ok w' b w.heap.size l l → w.grownBy w' none → w'.heap.size = w.heap.size + 1 → wpList P ops Q rest (a.put o.dst (.pointer (some ⟨w.heap.size, 0, none⟩))) w') : wpList P ops Q (o :: rest) a w :=
  wpList_range_own w hg m t hop k e L.law ht asIs b l.length (dat P k mk mv l) hm h.own fun w' h1 h2 h3 => hK w' (range_start L h h1 h2) h2 h3
/-- The step. -/
theorem wpList_next_l [DecidableEq α] (hg : o.guard = none) (it : Operand) (hop : o.op = Op.next it false) (h : RangeL P k mk mv ok w b r l todo) (hit : a.eval it = .pointer (some ⟨r, 0, none⟩))
    (hDone : todo = [] → wpList P ops Q rest (a.put o.dst (.tuple #[.bool false])) w)
    (hMore : ∀ (x : α) (v : β) (todo' : List (α × β)) (w' : World), todo.Perm ((x, v) :: todo') → RangeL P k mk mv ok w' b r l todo' → w'.rangeLeft b r < w.rangeLeft b r → w.grownBy w' (some r) → w'.heap.size = w.heap.size →
      (Instr.entry (.pointer (some ⟨r, 0, none⟩))).run P w' = .ok (.tuple #[mk x, mv v]) w' → wpList P ops Q rest (a.put o.dst (.tuple #[.bool true, mk x, mv v])) w') : wpList P ops Q (o :: rest) a w := by
  obtain ⟨left, cnt, hr, hl1, hl2⟩ := h.rg
  refine wpList_next_ranges w hg it hop k L.law asIs (id : Value → Value) (id : Value → Value) (fun key _ _ => ⟨key, rfl⟩) (fun v _ _ => ⟨v, rfl⟩) b r l.length _ left cnt hit hr (fun _ hl => hDone ?_) ?_
  · cases htd : todo with
    | nil => rfl
    | cons p q =>
      have hp : p ∈ todo := by rw [htd]; simp
      have := (hl1 p (h.sub p hp)).2 hp
      rw [hl] at this; cases this
  · intro key c kl y w' cnt' hkey hlk hv hat hrg hlt hgr hsz hen
    obtain ⟨p, hp, hpk⟩ := hl2 kl hlk
    have hgp := h.mp.good p hp
    have e1 : key = mk p.1 := L.law.inj hkey (by rw [L.key p.1 hgp, hpk])
    have hD := hat (.held c)
    rw [← hpk, dat_at L h.mp.good h.mp.apart hgp, look_of_mem h.mp.apart (v := p.2) hp] at hD
    have e2 : c = mv p.2 := by
      have hy : (DataW.held c, ([] : List MemPlace)) = y := by simpa [asIs] using hv
      rw [← hy] at hD
      simpa using hD.symm
    subst e1; subst e2
    have hpt : p ∈ todo := (hl1 p hp).1 (by rw [hpk]; exact hlk)
    have hperm : todo.Perm ((p.1, p.2) :: strike todo p.1) := by
      have : ∀ {td : List (α × β)}, td.Pairwise (fun p q => p.1 ≠ q.1) → p ∈ td → td.Perm (p :: strike td p.1) := by
        intro td
        induction td with
        | nil => intro _ hm; cases hm
        | cons x td ih =>
          intro hd hm
          obtain ⟨h1, h2⟩ := List.pairwise_cons.1 hd
          by_cases hx : x.1 = p.1
          · have hxp : x = p := by
              rcases List.mem_cons.1 hm with e | hm
              · exact e.symm
              · exact absurd hx (h1 p hm)
            subst hxp
            have hn : look td x.1 = none := look_none.2 fun q hq => (h1 q hq).symm
            have : strike (x :: td) x.1 = td := by
              have e := strike_none hn
              unfold strike at e ⊢
              rw [List.filter_cons]; simp [e]
            rw [this]
          · have hmt : p ∈ td := by
              rcases List.mem_cons.1 hm with e | hm
              · rw [e] at hx; exact absurd rfl hx
              · exact hm
            have e : strike (x :: td) p.1 = x :: strike td p.1 := by unfold strike; rw [List.filter_cons]; simp [hx]
            rw [e]
            exact ((ih h2 hmt).cons x).trans (List.Perm.swap p x _)
      exact this h.apart hpt
    refine hMore p.1 p.2 (strike todo p.1) w' hperm ⟨h.mp.kept hgr (by simpa using h.ne.symm), ⟨_, cnt', hrg, fun q hq => ?_, fun kl' hkl' => ?_⟩, fun q hq => h.sub q (mem_strike.1 hq).1, strike_apart h.apart _⟩ (by rw [hrg.left_eq, hr.left_eq]; exact hlt) hgr hsz hen
    · rw [mem_strike]
      have hkq := L.law.key (L.key q.1 (h.mp.good q hq))
      simp only [Bool.and_eq_true, Bool.not_eq_true']
      constructor
      · rintro ⟨h1, h2⟩
        refine ⟨(hl1 q hq).1 h1, fun e => ?_⟩
        rw [e, hpk] at h2
        rw [← hpk, WideAt.sameKey_self (L.law.key (L.key p.1 hgp))] at h2; cases h2
      · rintro ⟨h1, h2⟩
        refine ⟨(hl1 q hq).2 h1, ?_⟩
        cases hs : (lit P k (mk q.1)).sameKey kl with
        | false => rfl
        | true =>
          have := WideAt.sameKey_eq hs
          rw [← hpk] at this
          exact absurd (lit_inj L (h.mp.good q hq) hgp this) h2
    · simp only [Bool.and_eq_true] at hkl'
      exact hl2 kl' hkl'.1
end
end Go.Proofs.YtdbcjiapbehacaaGreatDoor.Vp

/-! Layer 5: how many bytes the program's files have. -/
namespace Go.Proofs.YtdbcjiapbehacaaGreatDoor.Vp
open Go.RowKit Go.Maps
open Go.Proofs.YtdbcjiapbehacaaGreatDoor.Vf (Hold OwnR Moves ret_int Hold.cell Hold.keep Hold.lt)

def sumSz (f : Nat → Fil) (l : List (Plc × Nat)) : Nat := (l.map fun p => (f p.2).c.size).sum
theorem sumSz_perm {f : Nat → Fil} {l l' : List (Plc × Nat)} (h : l.Perm l') : sumSz f l = sumSz f l' := (h.map _).sum_nat
theorem sumSz_le {f : Nat → Fil} {B : Nat} : ∀ {l : List (Plc × Nat)}, (∀ p ∈ l, (f p.2).c.size ≤ B) → sumSz f l ≤ l.length * B
  | [], _ => by simp [sumSz]
  | p :: l, h => by
    have h1 := h p (by simp)
    have h2 := sumSz_le (l := l) fun q hq => h q (by simp [hq])
    unfold sumSz at h2 ⊢
    simp only [List.map_cons, List.sum_cons, List.length_cons, Nat.add_mul]; omega
set_option maxRecDepth 100000 in
set_option maxHeartbeats 4000000 in
theorem used_any (p : Nat) (s : Pf) (l : Loc) (w : World) (h : At w p s l) (hu : usedS s ≤ 4611686018427387904) :
    Calls Tryz.prog 22 #[.pointer (some ⟨p, 0, none⟩)] w fun e w' => e = .returned (.int .i64 (usedS s)) ∧ Below w.heap.size w w' := by
  have h2 : w.cell? ⟨p, 2, none⟩ = some (.map (some l.bn)) := by rw [h.cell]; rfl
  have hf : ∀ i, Live s i → Hold w (l.loc i) 83 (filCells i (s.files i)) := fun i hi => (h.files i hi).2.2
  have HF := Lib.hid hf; have HN := Lib.hid h.names
  obtain ⟨T, hT⟩ : ∃ T, usedS s = T := ⟨_, rfl⟩
  rw [hT] at hu ⊢
  have HT : Hid (sumSz s.files s.names = T) := hT
  clear hf h hT
  go_enter Tryz.func22, Tryz.ntmps22
  go_wp2_with (first
    | (at_range; refine wpList_range_l plc_laid Tryz.underlying56 rfl (.tmp 11) rfl HN.out rfl ?_; intro w0 hrg0 hg0 hs0; have HR0 := Lib.hid hrg0; have HG0 := Lib.hid hg0; clear hrg0 hg0 hs0)
    | fail)
  go_frame
  go_loopw [3] (fun u wr => ∃ (todo : List (Plc × Nat)) (n : Nat), u = .int .i64 n ∧ n + sumSz s.files todo = T ∧ (∀ q ∈ todo, q ∈ s.names) ∧ RangeL Tryz.prog 79 mkPlc (pv l) okP wr l.bn w.heap.size s.names todo ∧ Below w.heap.size w wr) (fun _ wr => wr.rangeLeft l.bn w.heap.size)
  case atStart => exact ⟨s.names, 0, rfl, by rw [Nat.zero_add]; exact HT.out, fun _ h => h, HR0.out, (Below.refl _ _).grown HG0.out (Nat.le_refl _) (fun k e => by cases e)⟩
  case round =>
    obtain ⟨todo, n, rfl, hsum, hsub, hrg, hb⟩ := hrel
    have HS := Lib.hid hsum; have HSB := Lib.hid hsub; have HB := Lib.hid hb; have HRG := Lib.hid hrg
    have hrl := hrg.lt
    clear hsum hsub hb hrg
    go_wp2_with (first
      | (at_next; refine wpList_next_l plc_laid rfl (.tmp 12) rfl HRG.out rfl ?_ ?_)
      | fail)
    · intro htd
      have hn : n = T := by have := HS.out; rw [htd] at this; simpa [sumSz] using this
      have HN2 := Lib.hid hn
      clear htd hn
      go_wp2_with fail
      go_ret
      exact ⟨ret_int (by rw [HN2.out]), HB.out⟩
    · intro x i todo' w1 hperm hrg1 hlt hg1 hs1 hen
      have hb1 : Below w.heap.size w w1 := HB.out.grown hg1 (Nat.le_of_lt hrl) (fun k e => by cases e; exact Nat.le_refl _)
      have hmem := HSB.out (x, i) (hperm.mem_iff.2 (by simp))
      have hfi := HF.out i (.inl ⟨(x, i), hmem, rfl⟩)
      have hfi1 : Hold w1 (l.loc i) 83 (filCells i (s.files i)) := hfi.keep (hb1.block _ hfi.lt)
      have hsm : n + ((s.files i).c.size + sumSz s.files todo') = T := by
        have := HS.out
        rw [sumSz_perm hperm] at this
        simpa [sumSz] using this
      have hle : n + (s.files i).c.size ≤ 4611686018427387904 := by omega
      have HSM := Lib.hid hsm; have HP := Lib.hid hperm; have HR1 := Lib.hid hrg1; have HL := Lib.hid hlt; have HB1 := Lib.hid hb1
      have HC := Lib.hid (long_some (l.loc i) i (s.files i) w1 hfi1)
      clear hsm hperm hrg1 hlt hb1 hg1 hs1 hfi hfi1 hmem
      unfold pv at hen
      go_wp2_with (go_at_call 46; refine HC.out.mono ?_; rintro e w' ⟨rfl, rfl⟩)
      go_roundw
      case rel => exact ⟨todo', n + (s.files i).c.size, by go_num, by rw [Nat.add_assoc]; exact HSM.out, fun q hq => HSB.out q (HP.out.mem_iff.2 (by simp [hq])), HR1.out, HB1.out⟩
      case measure => exact HL.out
end Go.Proofs.YtdbcjiapbehacaaGreatDoor.Vp

/-! Layer 5: the program's Sync, SyncDir, Remove, CrashAt. -/
namespace Go.Proofs.YtdbcjiapbehacaaGreatDoor.Vp
open Go.RowKit Go.Maps
open Go.Proofs.YtdbcjiapbehacaaGreatDoor.Vf (Hold OwnR Moves ret_int Hold.cell Hold.frozen Hold.keep Hold.lt Hold.set OwnR.blk OwnR.kind OwnR.lt kind_ne gb_set Moves.refl Moves.trans)

theorem foot_tickS {p : Nat} {s : Pf} {l : Loc} {g : Nat} : Foot p (tickS s) l g ↔ Foot p s l g := by rw [tick_eq]; exact Iff.rfl
theorem moves_tick {w w' : World} {p : Nat} {s : Pf} {l : Loc} (h : w.grownBy w' (some p)) : Moves w w' (Foot p s l) (Foot p (tickS s) l) :=
  ⟨h.os, h.tape, h.output, h.size, fun g hg hn => h.block g hg (fun e => by injection e with e; exact hn (.inl e)), fun _ h => .inl (foot_tickS.1 h)⟩
theorem live_tick {s : Pf} {i : Nat} : Live (tickS s) i ↔ Live s i := by unfold Live; rw [tick_names, tick_dur, tick_waits]
theorem At.loc_ne {w : World} {p : Nat} {s : Pf} {l : Loc} (h : At w p s l) {i j : Nat} (hi : Live s i) (hj : Live s j) (hne : i ≠ j) : l.loc i ≠ l.loc j := by
  intro e
  have h1 := (h.files i hi).2.2
  have h2 := (h.files j hj).2.2
  have h3 : w.heap[l.loc i]? = _ := h1
  have h4 : w.heap[l.loc j]? = _ := h2
  rw [e, h4] at h3
  injection h3 with h3; injection h3 with h3
  injection h3 with h3
  unfold filCells at h3
  injection h3 with h3
  injection h3 with _ h3
  exact hne (by omega)
/-- A file's contents have turned. -/
theorem at_file {w w' : World} {p : Nat} {s : Pf} {l : Loc} (h : At w p s l) {i : Nat} (hi : Live s i) (x : Fil) (hg : w.grownBy w' (some (l.loc i))) (hx : Hold w' (l.loc i) 83 (filCells i x)) : At w' p { s with files := putFile s.files i x } l := by
  have hc : w.heap[l.loc i]? = _ := (h.files i hi).2.2
  have hpt : w.heap[p]? = _ := h.top
  have hk : ∀ g, g < w.heap.size → g ≠ l.loc i → w'.heap[g]? = w.heap[g]? := fun g hl hne => hg.block g hl (by simpa using hne)
  refine ⟨h.top.keep (hk p h.top.lt (kind_ne hpt hc (by decide))), h.waits.same (hk _ h.waits.lt (cells_ne hc h.waits.kind).symm), h.names.same (hk _ h.names.lt (cells_ne hc h.names.kind).symm), h.dur.same (hk _ h.dur.lt (cells_ne hc h.dur.kind).symm), h.apart, fun j hj => ?_, fun y hy => ?_, h.own⟩
  · have hj' : Live s j := hj
    obtain ⟨h1, h2, h3⟩ := h.files j hj'
    refine ⟨h1, h2, ?_⟩
    show Hold w' (l.loc j) _ (filCells j (putFile s.files i x j))
    by_cases hij : j = i
    · subst hij; rw [show putFile s.files j x j = x by simp [putFile]]; exact hx
    · rw [show putFile s.files i x j = s.files j by simp [putFile, hij]]
      exact h3.keep (hk _ h3.lt (h.loc_ne hj' hi hij))
  · refine (h.rows y hy).blk fun g hgb => ?_
    obtain ⟨cur, hc2⟩ := (h.rows y hy).kind hgb
    exact hk g ((h.rows y hy).lt g hgb).2 (kind_ne hc2 hc (by decide))
theorem find_live {s : Pf} {path : ByteArray} {i : Nat} (h : fileOf s path = some i) : Live s i := .inl ⟨_, look_mem h, rfl⟩
theorem findRes_some {s : Pf} {path : ByteArray} (h : (findRes s path).2 = 0) : ∃ i, findRes s path = (some i, 0) ∧ fileOf s path = some i ∧ hasName path.data.toList = true := by
  unfold findRes at h ⊢
  by_cases h1 : beginRes s (hasName path.data.toList) ≠ 0
  · rw [if_pos h1] at h; exact absurd h h1
  · rw [if_neg h1] at h ⊢
    have h3 : beginRes s (hasName path.data.toList) = 0 := by simpa using h1
    by_cases h2 : isDirS s path = true
    · rw [if_pos h2] at h; simp at h
    · rw [if_neg h2] at h ⊢
      cases hf : fileOf s path with
      | none => rw [hf] at h; simp at h
      | some i => exact ⟨i, rfl, rfl, begin_good h3⟩
theorem findRes_none {s : Pf} {path : ByteArray} (h : (findRes s path).2 ≠ 0) : (findRes s path).1 = none := by
  unfold findRes at h ⊢
  by_cases h1 : beginRes s (hasName path.data.toList) ≠ 0
  · rw [if_pos h1]
  · rw [if_neg h1] at h ⊢
    by_cases h2 : isDirS s path = true
    · rw [if_pos h2]
    · rw [if_neg h2] at h ⊢
      cases hf : fileOf s path with
      | none => rfl
      | some i => rw [hf] at h; simp at h

/-- A call of the program's file system: what it answers, and what stands behind it. -/
def After (w : World) (p : Nat) (s s' : Pf) (l : Loc) (w' : World) : Prop := ∃ l', At w' p s' l' ∧ Moves w w' (Foot p s l) (Foot p s' l')

set_option maxRecDepth 100000 in
set_option maxHeartbeats 4000000 in
theorem sync_any (p : Nat) (s : Pf) (l : Loc) (path : ByteArray) (w : World) (h : At w p s l) (hl : -9223372036854775808 ≤ s.left ∧ s.left ≤ 9223372036854775807) (ho : okS path) :
    Calls Tryz.prog 17 #[.pointer (some ⟨p, 0, none⟩), .string path] w fun e w' => e = .returned (.int .i64 (findRes s path).2) ∧ After w p s (syncS s path) l w' := by
  have HF := Lib.hid (find_any p s l path w h hl ho)
  by_cases h0 : (findRes s path).2 = 0
  · obtain ⟨i, hi, hfi, _⟩ := findRes_some h0
    have hsy : syncS s path = { tickS s with files := putFile s.files i ⟨(s.files i).c, (s.files i).c⟩ } := by unfold syncS; rw [hi]
    rw [hi] at HF ⊢
    have hli := find_live hfi
    have HS := Lib.hid hsy
    clear hi h0 hsy hfi h
    go_enter Tryz.func17, Tryz.ntmps17
    go_wp2_with (go_at_call 48; refine HF.out.mono ?_; unfold ptrOf pv; rintro e w1 ⟨rfl, hA, hg⟩; have hfl := (hA.files i (live_tick.2 hli)).2.2; rw [tick_files] at hfl; have hd1 : w1.cell? ⟨l.loc i, 1, none⟩ = some (.string (s.files i).c) := (by rw [hfl.cell]; rfl); have hd2 : w1.cell? ⟨l.loc i, 2, none⟩ = some (.string (s.files i).d) := (by rw [hfl.cell]; rfl); have hdf := hfl.frozen 2; have HA := Lib.hid hA; have HG := Lib.hid hg; have HFL := Lib.hid hfl; clear hA hg hfl)
    go_ret
    refine ⟨rfl, l, ?_, ?_⟩
    · rw [HS.out]
      have := at_file HA.out (live_tick.2 hli) ⟨(s.files i).c, (s.files i).c⟩ (gb_set (World.grownBy.refl _ _) _ _) (HFL.out.set 2 (.string (s.files i).c))
      rwa [tick_files] at this
    · rw [HS.out]
      have m1 := moves_tick (s := s) (l := l) HG.out
      refine m1.trans ⟨rfl, rfl, rfl, by simp [World.setCell], fun g hg hn => Below.heap_setCell _ _ _ g (fun e => hn ?_), fun g hg => .inl hg⟩
      exact .inr (.inr (.inr (.inr (.inl ⟨i, live_tick.2 hli, e⟩))))
  · have hn := findRes_none h0
    have hsy : syncS s path = tickS s := by unfold syncS; rw [hn]
    rw [hn] at HF
    obtain ⟨r, hr⟩ : ∃ r, (findRes s path).2 = r := ⟨_, rfl⟩
    rw [hr] at HF h0 ⊢
    have hr1 : (r != 0) = true := by simpa using h0
    have hr2 : (r == 0) = false := by simpa using h0
    have HS := Lib.hid hsy
    clear hn hr hsy h0 h
    go_enter Tryz.func17, Tryz.ntmps17
    go_wp2_with (go_at_call 48; refine HF.out.mono ?_; unfold ptrOf; rintro e w1 ⟨rfl, hA, hg⟩; have HA := Lib.hid hA; have HG := Lib.hid hg; clear hA hg)
    go_ret
    exact ⟨rfl, l, by rw [HS.out]; exact HA.out, by rw [HS.out]; exact moves_tick HG.out⟩

set_option maxRecDepth 100000 in
set_option maxHeartbeats 4000000 in
theorem syncDir_any (p : Nat) (s : Pf) (l : Loc) (path : ByteArray) (w : World) (h : At w p s l) (hl : -9223372036854775808 ≤ s.left ∧ s.left ≤ 9223372036854775807) (ho : okS path)
    (hst : ∀ x ∈ waitsOf s path, okS x.gone ∧ okS x.name) (hlen : s.dur.length + (waitsOf s path).length ≤ 900000) (hld : s.waits.length ≤ 1000000) :
    Calls Tryz.prog 18 #[.pointer (some ⟨p, 0, none⟩), .string path] w fun e w' => e = .returned (.int .i64 (findDirRes s path)) ∧ After w p s (syncDirS s path) l w' := by
  have HF := Lib.hid (findDir_any p s l path w h hl ho)
  have hwt : waitsOf (tickS s) path = waitsOf s path := by unfold waitsOf; rw [tick_waits]
  have htr : rowOf (tickS s) l path = rowOf s l path := by unfold rowOf; rw [tick_waits]
  obtain ⟨r, hr⟩ : ∃ r, findDirRes s path = r := ⟨_, rfl⟩
  rw [hr] at HF ⊢
  by_cases h0 : r = 0
  · subst h0
    have hsy : syncDirS s path = keepS (tickS s) path (waitsOf s path).length := by unfold syncDirS; rw [if_neg (by rw [hr]; decide)]
    obtain ⟨A2, c2, hus⟩ := okRow_len (h.row path)
    rw [List.length_map] at hus
    have HKP : Hid (∀ W : World, At W p (tickS s) l → Calls Tryz.prog 50 #[.pointer (some ⟨p, 0, none⟩), .string path, .int .i64 (waitsOf s path).length] W fun e w' => (∃ r, e = .returned r) ∧ ∃ l', l'.loc = l.loc ∧ At w' p (keepS (tickS s) path (waitsOf s path).length) l' ∧ Moves W w' (Foot p (tickS s) l) (Foot p (keepS (tickS s) path (waitsOf s path).length) l')) := fun W hW =>
      keep_any p (tickS s) l path _ W hW ho (by rw [hwt]; exact hst) (by rw [hwt]; exact Nat.le_refl _) (by rw [hwt, tick_dur]; exact hlen) (by rw [tick_waits]; exact hld)
    have HLK : Hid (∀ W : World, At W p (tickS s) l → (Instr.lookup 55 (.map (some l.bw)) (.string path) false).run Tryz.prog W = .ok (.slice A2 (waitsOf s path).length c2) W) := fun W hW => by
      have := hW.look_row ho
      rwa [htr, hus] at this
    have HS := Lib.hid hsy
    clear hr hsy hus htr hwt h
    go_enter Tryz.func18, Tryz.ntmps18
    go_wp2_with (first
      | (go_at_call 49; refine HF.out.mono ?_; rintro e w1 ⟨rfl, hA, hg⟩; have hc1 : w1.cell? ⟨p, 1, none⟩ = some (.map (some l.bw)) := (by rw [hA.cell]; rfl); have hlk := HLK.out w1 hA; have HA := Lib.hid hA; have HG := Lib.hid hg; clear hA hg)
      | (go_at_call 50; refine (HKP.out _ HA.out).mono ?_; rintro e w2 ⟨⟨r, rfl⟩, l', hloc, hA2, hM⟩; have HA2 := Lib.hid hA2; have HM := Lib.hid hM; clear hA2 hM hloc))
    go_ret
    exact ⟨rfl, l', by rw [HS.out]; exact HA2.out, by rw [HS.out]; exact (moves_tick HG.out).trans HM.out⟩
  · have hsy : syncDirS s path = tickS s := by unfold syncDirS; rw [if_pos (by rw [hr]; exact h0)]
    have hr1 : (r != 0) = true := by simpa using h0
    have hr2 : (r == 0) = false := by simpa using h0
    have HS := Lib.hid hsy
    clear hr hsy h0 h hwt htr
    go_enter Tryz.func18, Tryz.ntmps18
    go_wp2_with (go_at_call 49; refine HF.out.mono ?_; rintro e w1 ⟨rfl, hA, hg⟩; have HA := Lib.hid hA; have HG := Lib.hid hg; clear hA hg)
    go_ret
    exact ⟨rfl, l, by rw [HS.out]; exact HA.out, by rw [HS.out]; exact moves_tick HG.out⟩

set_option maxRecDepth 100000 in
theorem crashAt_any (p : Nat) (s : Pf) (l : Loc) (n : Int) (w : World) (h : At w p s l) :
    Calls Tryz.prog 15 #[.pointer (some ⟨p, 0, none⟩), .int .i64 n] w fun e w' => (∃ r, e = .returned r) ∧ At w' p { s with left := max n 0 } l ∧ w.grownBy w' (some p) := by
  have hc5 : w.cell? ⟨p, 5, none⟩ = some (.int .i64 s.left) := by rw [h.cell]; rfl
  have hf5 := h.top.frozen 5
  have hk : ∀ d : Int, At (w.setCell ⟨p, 5, none⟩ (.int .i64 d)) p { s with left := d } l := fun d => h.turn d s.down (gb_set (World.grownBy.refl _ _) _ _) (h.top.set 5 _)
  have HK := Lib.hid hk
  obtain ⟨m, hm⟩ : ∃ m, max n 0 = m := ⟨_, rfl⟩
  rw [hm]
  clear h hk
  go_enter Tryz.func15, Tryz.ntmps15
  go_wp2_with fail
  go_end0
  exact ⟨⟨_, rfl⟩, HK.out m, gb_set (World.grownBy.refl _ _) _ _⟩
end Go.Proofs.YtdbcjiapbehacaaGreatDoor.Vp

/-! Layer 5: the program's Remove and Rename; rows of bytes. -/
namespace Go.Proofs.YtdbcjiapbehacaaGreatDoor.Vp
open Go.RowKit Go.Maps
open Go.Proofs.YtdbcjiapbehacaaGreatDoor.Vf (Hold OwnR Moves ret_int Hold.cell Hold.frozen Hold.keep Hold.lt Hold.set OwnR.blk OwnR.kind OwnR.lt kind_ne gb_set Moves.refl Moves.trans)

theorem moves_sub {w w' : World} {F G F' : Nat → Prop} (h : Moves w w' F F') (hs : ∀ g, F g → G g) : Moves w w' G F' :=
  ⟨h.os, h.tape, h.output, h.size, fun g hg hn => h.stay g hg fun hf => hn (hs g hf), fun g hg => (h.new g hg).imp (hs g) id⟩
theorem moves_below {w w' w'' : World} {F F' : Nat → Prop} (h : Moves w w' F F') (hb : Below w'.heap.size w' w'') : Moves w w'' F F' :=
  ⟨hb.os.trans h.os, hb.tape.trans h.tape, hb.output.trans h.output, Nat.le_trans h.size hb.size, fun g hg hn => (hb.block g (Nat.lt_of_lt_of_le hg h.size)).trans (h.stay g hg hn), h.new⟩
theorem steps_le {l : List (ByteArray × List Stp)} {x : ByteArray × List Stp} (h : x ∈ l) : x.2.length ≤ steps l := by
  induction l with
  | nil => cases h
  | cons y l ih =>
    unfold steps at ih ⊢
    simp only [List.map_cons, List.sum_cons]
    rcases List.mem_cons.1 h with rfl | h
    · omega
    · have := ih h; omega
theorem waitsOf_le (s : Pf) (dir : ByteArray) : (waitsOf s dir).length ≤ steps s.waits := by
  unfold waitsOf
  cases hl : look s.waits dir with
  | none => exact Nat.zero_le _
  | some xs => exact steps_le (look_mem hl)
/-- What a change asks. -/
theorem Fits.change {s : Pf} {T : Nat} (h : Fits s T) (hT : T ≤ 100000) (dir : ByteArray) : s.names.length ≤ 1000000 ∧ (waitsOf s dir).length ≤ 1000000 ∧ s.waits.length ≤ 1000000 := by
  have h1 := h.names; have h2 := h.dur; have h3 := h.dirs; have h4 := waitsOf_le s dir
  exact ⟨by omega, by omega, by omega⟩
theorem Fits.tick {s : Pf} {T : Nat} (h : Fits s T) : Fits (tickS s) T where
  names := by rw [tick_names]; exact h.names
  dur := by rw [tick_dur, tick_waits]; exact h.dur
  dirs := by rw [tick_waits]; exact h.dirs
  made := by rw [tick_made]; exact h.made
  left := by
    have := h.left
    rw [tick_eq]
    show _ ≤ tickLeft s ∧ tickLeft s ≤ _
    unfold tickLeft
    split <;> omega
  files i hi := by rw [tick_files]; exact h.files i (live_tick.1 hi)
  strs := by rw [tick_waits]; exact h.strs
  root := by rw [tick_waits]; exact h.root
theorem ok_empty : okS ⟨#[]⟩ := by unfold okS; decide

set_option maxRecDepth 100000 in
set_option maxHeartbeats 4000000 in
theorem remove_any (p : Nat) (s : Pf) (l : Loc) (T : Nat) (path : ByteArray) (w : World) (h : At w p s l) (hf : Fits s T) (hT : T ≤ 100000) (ho : okS path) :
    Calls Tryz.prog 27 #[.pointer (some ⟨p, 0, none⟩), .string path] w fun e w' => e = .returned (.int .i64 (findRes s path).2) ∧ After w p s (removeS s path) l w' := by
  have HF := Lib.hid (find_any p s l path w h hf.left ho)
  by_cases h0 : (findRes s path).2 = 0
  · obtain ⟨i, hi, hfi, hgn⟩ := findRes_some h0
    have hsl := good_slashed hgn
    have hsy : removeS s path = changeS (tickS s) (plcOf path).d ⟨(plcOf path).n, ⟨#[]⟩, none⟩ := by unfold removeS; rw [if_neg (by rw [h0]; decide)]
    obtain ⟨x, hx⟩ : ∃ x, plcOf path = x := ⟨_, rfl⟩
    have hxo : okP x := by rw [← hx]; exact plc_ok ho hsl
    have HPL : Hid (∀ W : World, Calls Tryz.prog 44 #[.string path] W fun e w' => e = .returned (.agg #[.string x.d, .string x.n]) ∧ Below W.heap.size W w') := fun W => by rw [← hx]; exact placeOf_any path W ho hsl
    have hfc := hf.tick.change hT x.d
    have HCH : Hid (∀ W : World, At W p (tickS s) l → Calls Tryz.prog 47 #[.pointer (some ⟨p, 0, none⟩), .string x.d, .agg #[.string x.n, .string ⟨#[]⟩, .pointer none]] W fun e w' => (∃ r, e = .returned r) ∧ ∃ v, At w' p (changeS (tickS s) x.d ⟨x.n, ⟨#[]⟩, none⟩) (setRow l x.d v) ∧ Moves W w' (fun g => Foot p (tickS s) l g ∨ ∃ i, (⟨x.n, ⟨#[]⟩, none⟩ : Stp).file = some i ∧ g = l.loc i) (Foot p (changeS (tickS s) x.d ⟨x.n, ⟨#[]⟩, none⟩) (setRow l x.d v))) := fun W hW =>
      change_any p (tickS s) l x.d ⟨x.n, ⟨#[]⟩, none⟩ W hW hxo.1 hxo.2 ok_empty hfc.1 hfc.2.1 hfc.2.2 (fun i hi => by cases hi)
    rw [hx] at hsy
    rw [hi] at HF ⊢
    have HS := Lib.hid hsy
    clear hi h0 hsy hfi h hx hfc
    go_enter Tryz.func27, Tryz.ntmps27
    go_wp2_with (first
      | (go_at_call 48; refine HF.out.mono ?_; unfold ptrOf pv; rintro e w1 ⟨rfl, hA, hg⟩; have HA := Lib.hid hA; have HG := Lib.hid hg; clear hA hg)
      | (go_at_call 44; refine (HPL.out _).mono ?_; rintro e w2 ⟨rfl, hb2⟩; have HA2 := Lib.hid ((HA.out.below hb2).below ((Below.refl _ _).alloc (Nat.le_refl _) (.cells #[.string x.d, .string x.n] 79))); have HG2 := Lib.hid (gb_below (gb_below HG.out hb2) ((Below.refl _ _).alloc (Nat.le_refl _) (.cells #[.string x.d, .string x.n] 79))); clear hb2)
      | (go_at_call 47; refine (HCH.out _ HA2.out).mono ?_; rintro e w3 ⟨⟨r, rfl⟩, v, hA3, hM3⟩; have HA3 := Lib.hid hA3; have HM3 := Lib.hid hM3; clear hA3 hM3))
    go_ret
    refine ⟨rfl, _, by rw [HS.out]; exact HA3.out, ?_⟩
    rw [HS.out]
    refine (moves_tick HG2.out).trans (moves_sub HM3.out fun g hg => ?_)
    rcases hg with hg | ⟨i, hi, _⟩
    · exact hg
    · cases hi
  · have hn := findRes_none h0
    have hsy : removeS s path = tickS s := by unfold removeS; rw [if_pos h0]
    rw [hn] at HF
    obtain ⟨r, hr⟩ : ∃ r, (findRes s path).2 = r := ⟨_, rfl⟩
    rw [hr] at HF h0 ⊢
    have hr1 : (r != 0) = true := by simpa using h0
    have hr2 : (r == 0) = false := by simpa using h0
    have HS := Lib.hid hsy
    clear hn hr hsy h0 h
    go_enter Tryz.func27, Tryz.ntmps27
    go_wp2_with (go_at_call 48; refine HF.out.mono ?_; unfold ptrOf; rintro e w1 ⟨rfl, hA, hg⟩; have HA := Lib.hid hA; have HG := Lib.hid hg; clear hA hg)
    go_ret
    exact ⟨rfl, l, by rw [HS.out]; exact HA.out, by rw [HS.out]; exact moves_tick HG.out⟩
end Go.Proofs.YtdbcjiapbehacaaGreatDoor.Vp

/-! Layer 5: the program's Rename. -/
namespace Go.Proofs.YtdbcjiapbehacaaGreatDoor.Vp
open Go.RowKit Go.Maps
open Go.Proofs.YtdbcjiapbehacaaGreatDoor.Vf (Hold OwnR Moves ret_int Hold.cell Hold.frozen Hold.keep Hold.lt Moves.refl Moves.trans)

theorem toList_eq {a b : ByteArray} : (a.toList == b.toList) = decide (a = b) := by
  by_cases h : a = b
  · subst h; simp
  · have : ¬ a.toList = b.toList := fun e => h (by
      rw [Lib.toList_data, Lib.toList_data] at e
      exact ByteArray.ext (Array.ext' e))
    simp [h, this]
theorem begin_two_good {s : Pf} {x y : Bool} (h : beginRes s (x && y) = 0) : x = true ∧ y = true := by
  unfold beginRes at h
  split at h
  · omega
  · split at h
    · rename_i h2; simpa using h2
    · omega
def renTail (f : Option Nat) (x y : Plc) : Int := match f with | none => 50 | some _ => if x.d ≠ y.d then 2 else 0
theorem renameRes_0 {s : Pf} {a b : ByteArray} (h : beginRes s (hasName a.data.toList && hasName b.data.toList) = 0) : renameRes s a b = if isDirS s a || isDirS s b then 53 else renTail (fileOf s a) (plcOf a) (plcOf b) := by
  unfold renameRes
  rw [if_neg (by rw [h]; decide)]
  unfold renTail
  cases fileOf s a <;> rfl
theorem renameRes_n {s : Pf} {a b : ByteArray} (h : beginRes s (hasName a.data.toList && hasName b.data.toList) ≠ 0) : renameRes s a b = beginRes s (hasName a.data.toList && hasName b.data.toList) := by
  unfold renameRes
  rw [if_pos h]
/-- What the walks of Rename take as known. -/
structure RenIn (p : Nat) (s : Pf) (l : Loc) (a b : ByteArray) (x y : Plc) (f : Option Nat) (da db : Bool) (w : World) : Prop where
  beg : Calls Tryz.prog 42 #[.pointer (some ⟨p, 0, none⟩), .func (.func 43) #[] #[], .slice (some ⟨w.heap.size, 0, none⟩) 2 2] (w.alloc (.cells #[.string a, .string b] 9)) fun e w' => e = .returned (.int .i64 0) ∧ At w' p (tickS s) l ∧ w.grownBy w' (some p)
  pa : ∀ W : World, Calls Tryz.prog 44 #[.string a] W fun e w' => e = .returned (.agg #[.string x.d, .string x.n]) ∧ Below W.heap.size W w'
  pb : ∀ W : World, Calls Tryz.prog 44 #[.string b] W fun e w' => e = .returned (.agg #[.string y.d, .string y.n]) ∧ Below W.heap.size W w'
  xo : okP x
  fv : fileV (tickS s) l x = ptrOf l f
  ia : ∀ W : World, At W p (tickS s) l → Calls Tryz.prog 45 #[.pointer (some ⟨p, 0, none⟩), .string a] W fun e w' => e = .returned (.bool da) ∧ W = w'
  ib : ∀ W : World, At W p (tickS s) l → Calls Tryz.prog 45 #[.pointer (some ⟨p, 0, none⟩), .string b] W fun e w' => e = .returned (.bool db) ∧ W = w'
set_option maxRecDepth 100000 in
set_option maxHeartbeats 4000000 in
theorem ren_da (p : Nat) (s : Pf) (l : Loc) (a b : ByteArray) (x y : Plc) (f : Option Nat) (db : Bool) (w : World) (K : RenIn p s l a b x y f true db w) :
    Calls Tryz.prog 21 #[.pointer (some ⟨p, 0, none⟩), .string a, .string b] w fun e w' => e = .returned (.int .i64 53) ∧ At w' p (tickS s) l ∧ w.grownBy w' (some p) := by
  have HBG := Lib.hid K.beg; have HPA := Lib.hid K.pa; have HPB := Lib.hid K.pb; have HIA := Lib.hid K.ia; have HIB := Lib.hid K.ib; have hxo := K.xo; have HV := Lib.hid K.fv
  clear K
  go_enter Tryz.func21, Tryz.ntmps21
  go_wp2_with (first
    | (go_at_call 42; refine HBG.out.mono ?_; rintro e w1 ⟨rfl, hA, hg⟩; have HA := Lib.hid hA; have HG := Lib.hid hg; clear hA hg)
    | (go_at_call 44; refine (HPA.out _).mono ?_; clear HPA; rintro e w2 ⟨rfl, hb2⟩; have HA2 := Lib.hid (HA.out.below hb2); have HG2 := Lib.hid (gb_below HG.out hb2); clear hb2)
    | (go_at_call 44; refine (HPB.out _).mono ?_; clear HPB; rintro e w3 ⟨rfl, hb3⟩; have HA3 := Lib.hid (HA2.out.below hb3); have HG3 := Lib.hid (gb_below HG2.out hb3); clear hb3))
  obtain ⟨B, hB⟩ : ∃ B, w3.heap.size = B := ⟨_, rfl⟩
  obtain ⟨W, hW⟩ : ∃ W, (w3.alloc (.cells #[.string x.d, .string x.n] 79)).alloc (.cells #[.string y.d, .string y.n] 79) = W := ⟨_, rfl⟩
  have hbW : Below w3.heap.size w3 W := by rw [← hW]; exact ((Below.refl _ _).alloc (Nat.le_refl _) _).alloc (by simp) _
  have hWs : W.heap.size = B + 2 := by rw [← hW, ← hB]; simp
  have hx0 : W.cell? ⟨B, 0, none⟩ = some (.string x.d) := by rw [← hW, ← hB]; rw [World.cell?_alloc_lt _ _ ⟨w3.heap.size, 0, none⟩ (by simp)]; simp
  have hx1 : W.cell? ⟨B, 1, none⟩ = some (.string x.n) := by rw [← hW, ← hB]; rw [World.cell?_alloc_lt _ _ ⟨w3.heap.size, 1, none⟩ (by simp)]; simp
  have hy0 : W.cell? ⟨B + 1, 0, none⟩ = some (.string y.d) := by rw [← hW, ← hB]; have := World.cell?_alloc_mark (w3.alloc (.cells #[.string x.d, .string x.n] 79)) #[.string y.d, .string y.n] 79 (0, 0) 0; rw [World.size_alloc] at this; exact this
  have hy1 : W.cell? ⟨B + 1, 1, none⟩ = some (.string y.n) := by rw [← hW, ← hB]; have := World.cell?_alloc_mark (w3.alloc (.cells #[.string x.d, .string x.n] 79)) #[.string y.d, .string y.n] 79 (0, 0) 1; rw [World.size_alloc] at this; exact this
  have HA4 := Lib.hid (HA3.out.below hbW); have HG4 := Lib.hid (gb_below HG3.out hbW)
  have hq2 : ∀ d os, (Sort.grow (redrawn W d) os).cell? ⟨p, 2, none⟩ = some (.map (some l.bn)) := fun d os => by rw [(HA4.out.regrown d os).cell]; rfl
  have hqx0 : ∀ d os, (Sort.grow (redrawn W d) os).cell? ⟨B, 0, none⟩ = some (.string x.d) := fun d os => cell_regrown hx0 d os
  have hqx1 : ∀ d os, (Sort.grow (redrawn W d) os).cell? ⟨B, 1, none⟩ = some (.string x.n) := fun d os => cell_regrown hx1 d os
  have hlf : ∀ d os, (Instr.lookup 56 (.map (some l.bn)) (.agg #[.string x.d, .string x.n]) false).run Tryz.prog (Sort.grow (redrawn W d) os) = .ok (ptrOf l f) (Sort.grow (redrawn W d) os) := fun d os => by
    have := (HA4.out.regrown d os).look_file hxo
    rw [HV.out] at this
    exact this
  rw [hB, hW]
  clear hW hB hbW
  refine wp_region_quiet_below (by kernel_rfl) (by kernel_rfl) ?_
  repeat (first | go_big_quiet_step (fail))
  refine wpQuiet_nil ?_
  intro w5 hV
  have hB5 := below_class hV
  have hz0 := (hB5.cell (p := ⟨B, 0, none⟩) (by show B < _; omega)).trans hx0
  have hz1 := (hB5.cell (p := ⟨B, 1, none⟩) (by show B < _; omega)).trans hx1
  have hu0 := (hB5.cell (p := ⟨B + 1, 0, none⟩) (by show B + 1 < _; omega)).trans hy0
  have hu1 := (hB5.cell (p := ⟨B + 1, 1, none⟩) (by show B + 1 < _; omega)).trans hy1
  have HA5 := Lib.hid (HA4.out.below hB5); have HG5 := Lib.hid (gb_below HG4.out hB5)
  clear hV hB5 hq2 hqx0 hqx1 hlf hx0 hx1 hy0 hy1
  go_wp2_with (first
    | (go_at_call 45; refine (HIA.out _ HA5.out).mono ?_; clear HIA; rintro e w' ⟨rfl, rfl⟩)
    | (go_at_call 45; refine (HIB.out _ HA5.out).mono ?_; clear HIB; rintro e w' ⟨rfl, rfl⟩))
  go_ret
  exact ⟨rfl, HA5.out, HG5.out⟩

set_option maxRecDepth 100000 in
set_option maxHeartbeats 4000000 in
theorem ren_db (p : Nat) (s : Pf) (l : Loc) (a b : ByteArray) (x y : Plc) (f : Option Nat) (w : World) (K : RenIn p s l a b x y f false true w) :
    Calls Tryz.prog 21 #[.pointer (some ⟨p, 0, none⟩), .string a, .string b] w fun e w' => e = .returned (.int .i64 53) ∧ At w' p (tickS s) l ∧ w.grownBy w' (some p) := by
  have HBG := Lib.hid K.beg; have HPA := Lib.hid K.pa; have HPB := Lib.hid K.pb; have HIA := Lib.hid K.ia; have HIB := Lib.hid K.ib; have hxo := K.xo; have HV := Lib.hid K.fv
  clear K
  go_enter Tryz.func21, Tryz.ntmps21
  go_wp2_with (first
    | (go_at_call 42; refine HBG.out.mono ?_; rintro e w1 ⟨rfl, hA, hg⟩; have HA := Lib.hid hA; have HG := Lib.hid hg; clear hA hg)
    | (go_at_call 44; refine (HPA.out _).mono ?_; clear HPA; rintro e w2 ⟨rfl, hb2⟩; have HA2 := Lib.hid (HA.out.below hb2); have HG2 := Lib.hid (gb_below HG.out hb2); clear hb2)
    | (go_at_call 44; refine (HPB.out _).mono ?_; clear HPB; rintro e w3 ⟨rfl, hb3⟩; have HA3 := Lib.hid (HA2.out.below hb3); have HG3 := Lib.hid (gb_below HG2.out hb3); clear hb3))
  obtain ⟨B, hB⟩ : ∃ B, w3.heap.size = B := ⟨_, rfl⟩
  obtain ⟨W, hW⟩ : ∃ W, (w3.alloc (.cells #[.string x.d, .string x.n] 79)).alloc (.cells #[.string y.d, .string y.n] 79) = W := ⟨_, rfl⟩
  have hbW : Below w3.heap.size w3 W := by rw [← hW]; exact ((Below.refl _ _).alloc (Nat.le_refl _) _).alloc (by simp) _
  have hWs : W.heap.size = B + 2 := by rw [← hW, ← hB]; simp
  have hx0 : W.cell? ⟨B, 0, none⟩ = some (.string x.d) := by rw [← hW, ← hB]; rw [World.cell?_alloc_lt _ _ ⟨w3.heap.size, 0, none⟩ (by simp)]; simp
  have hx1 : W.cell? ⟨B, 1, none⟩ = some (.string x.n) := by rw [← hW, ← hB]; rw [World.cell?_alloc_lt _ _ ⟨w3.heap.size, 1, none⟩ (by simp)]; simp
  have hy0 : W.cell? ⟨B + 1, 0, none⟩ = some (.string y.d) := by rw [← hW, ← hB]; have := World.cell?_alloc_mark (w3.alloc (.cells #[.string x.d, .string x.n] 79)) #[.string y.d, .string y.n] 79 (0, 0) 0; rw [World.size_alloc] at this; exact this
  have hy1 : W.cell? ⟨B + 1, 1, none⟩ = some (.string y.n) := by rw [← hW, ← hB]; have := World.cell?_alloc_mark (w3.alloc (.cells #[.string x.d, .string x.n] 79)) #[.string y.d, .string y.n] 79 (0, 0) 1; rw [World.size_alloc] at this; exact this
  have HA4 := Lib.hid (HA3.out.below hbW); have HG4 := Lib.hid (gb_below HG3.out hbW)
  have hq2 : ∀ d os, (Sort.grow (redrawn W d) os).cell? ⟨p, 2, none⟩ = some (.map (some l.bn)) := fun d os => by rw [(HA4.out.regrown d os).cell]; rfl
  have hqx0 : ∀ d os, (Sort.grow (redrawn W d) os).cell? ⟨B, 0, none⟩ = some (.string x.d) := fun d os => cell_regrown hx0 d os
  have hqx1 : ∀ d os, (Sort.grow (redrawn W d) os).cell? ⟨B, 1, none⟩ = some (.string x.n) := fun d os => cell_regrown hx1 d os
  have hlf : ∀ d os, (Instr.lookup 56 (.map (some l.bn)) (.agg #[.string x.d, .string x.n]) false).run Tryz.prog (Sort.grow (redrawn W d) os) = .ok (ptrOf l f) (Sort.grow (redrawn W d) os) := fun d os => by
    have := (HA4.out.regrown d os).look_file hxo
    rw [HV.out] at this
    exact this
  rw [hB, hW]
  clear hW hB hbW
  refine wp_region_quiet_below (by kernel_rfl) (by kernel_rfl) ?_
  repeat (first | go_big_quiet_step (fail))
  refine wpQuiet_nil ?_
  intro w5 hV
  have hB5 := below_class hV
  have hz0 := (hB5.cell (p := ⟨B, 0, none⟩) (by show B < _; omega)).trans hx0
  have hz1 := (hB5.cell (p := ⟨B, 1, none⟩) (by show B < _; omega)).trans hx1
  have hu0 := (hB5.cell (p := ⟨B + 1, 0, none⟩) (by show B + 1 < _; omega)).trans hy0
  have hu1 := (hB5.cell (p := ⟨B + 1, 1, none⟩) (by show B + 1 < _; omega)).trans hy1
  have HA5 := Lib.hid (HA4.out.below hB5); have HG5 := Lib.hid (gb_below HG4.out hB5)
  clear hV hB5 hq2 hqx0 hqx1 hlf hx0 hx1 hy0 hy1
  go_wp2_with (first
    | (go_at_call 45; refine (HIA.out _ HA5.out).mono ?_; clear HIA; rintro e w' ⟨rfl, rfl⟩)
    | (go_at_call 45; refine (HIB.out _ HA5.out).mono ?_; clear HIB; rintro e w' ⟨rfl, rfl⟩))
  go_ret
  exact ⟨rfl, HA5.out, HG5.out⟩

set_option maxRecDepth 100000 in
set_option maxHeartbeats 4000000 in
theorem ren_none (p : Nat) (s : Pf) (l : Loc) (a b : ByteArray) (x y : Plc) (w : World) (K : RenIn p s l a b x y none false false w) :
    Calls Tryz.prog 21 #[.pointer (some ⟨p, 0, none⟩), .string a, .string b] w fun e w' => e = .returned (.int .i64 50) ∧ At w' p (tickS s) l ∧ w.grownBy w' (some p) := by
  have HBG := Lib.hid K.beg; have HPA := Lib.hid K.pa; have HPB := Lib.hid K.pb; have HIA := Lib.hid K.ia; have HIB := Lib.hid K.ib; have hxo := K.xo; have HV := Lib.hid K.fv
  clear K
  go_enter Tryz.func21, Tryz.ntmps21
  go_wp2_with (first
    | (go_at_call 42; refine HBG.out.mono ?_; rintro e w1 ⟨rfl, hA, hg⟩; have HA := Lib.hid hA; have HG := Lib.hid hg; clear hA hg)
    | (go_at_call 44; refine (HPA.out _).mono ?_; clear HPA; rintro e w2 ⟨rfl, hb2⟩; have HA2 := Lib.hid (HA.out.below hb2); have HG2 := Lib.hid (gb_below HG.out hb2); clear hb2)
    | (go_at_call 44; refine (HPB.out _).mono ?_; clear HPB; rintro e w3 ⟨rfl, hb3⟩; have HA3 := Lib.hid (HA2.out.below hb3); have HG3 := Lib.hid (gb_below HG2.out hb3); clear hb3))
  obtain ⟨B, hB⟩ : ∃ B, w3.heap.size = B := ⟨_, rfl⟩
  obtain ⟨W, hW⟩ : ∃ W, (w3.alloc (.cells #[.string x.d, .string x.n] 79)).alloc (.cells #[.string y.d, .string y.n] 79) = W := ⟨_, rfl⟩
  have hbW : Below w3.heap.size w3 W := by rw [← hW]; exact ((Below.refl _ _).alloc (Nat.le_refl _) _).alloc (by simp) _
  have hWs : W.heap.size = B + 2 := by rw [← hW, ← hB]; simp
  have hx0 : W.cell? ⟨B, 0, none⟩ = some (.string x.d) := by rw [← hW, ← hB]; rw [World.cell?_alloc_lt _ _ ⟨w3.heap.size, 0, none⟩ (by simp)]; simp
  have hx1 : W.cell? ⟨B, 1, none⟩ = some (.string x.n) := by rw [← hW, ← hB]; rw [World.cell?_alloc_lt _ _ ⟨w3.heap.size, 1, none⟩ (by simp)]; simp
  have hy0 : W.cell? ⟨B + 1, 0, none⟩ = some (.string y.d) := by rw [← hW, ← hB]; have := World.cell?_alloc_mark (w3.alloc (.cells #[.string x.d, .string x.n] 79)) #[.string y.d, .string y.n] 79 (0, 0) 0; rw [World.size_alloc] at this; exact this
  have hy1 : W.cell? ⟨B + 1, 1, none⟩ = some (.string y.n) := by rw [← hW, ← hB]; have := World.cell?_alloc_mark (w3.alloc (.cells #[.string x.d, .string x.n] 79)) #[.string y.d, .string y.n] 79 (0, 0) 1; rw [World.size_alloc] at this; exact this
  have HA4 := Lib.hid (HA3.out.below hbW); have HG4 := Lib.hid (gb_below HG3.out hbW)
  have hq2 : ∀ d os, (Sort.grow (redrawn W d) os).cell? ⟨p, 2, none⟩ = some (.map (some l.bn)) := fun d os => by rw [(HA4.out.regrown d os).cell]; rfl
  have hqx0 : ∀ d os, (Sort.grow (redrawn W d) os).cell? ⟨B, 0, none⟩ = some (.string x.d) := fun d os => cell_regrown hx0 d os
  have hqx1 : ∀ d os, (Sort.grow (redrawn W d) os).cell? ⟨B, 1, none⟩ = some (.string x.n) := fun d os => cell_regrown hx1 d os
  have hlf : ∀ d os, (Instr.lookup 56 (.map (some l.bn)) (.agg #[.string x.d, .string x.n]) false).run Tryz.prog (Sort.grow (redrawn W d) os) = .ok (.pointer none) (Sort.grow (redrawn W d) os) := fun d os => by
    have := (HA4.out.regrown d os).look_file hxo
    rw [HV.out] at this
    exact this
  rw [hB, hW]
  clear hW hB hbW
  refine wp_region_quiet_below (by kernel_rfl) (by kernel_rfl) ?_
  repeat (first | go_big_quiet_step (fail))
  refine wpQuiet_nil ?_
  intro w5 hV
  have hB5 := below_class hV
  have hz0 := (hB5.cell (p := ⟨B, 0, none⟩) (by show B < _; omega)).trans hx0
  have hz1 := (hB5.cell (p := ⟨B, 1, none⟩) (by show B < _; omega)).trans hx1
  have hu0 := (hB5.cell (p := ⟨B + 1, 0, none⟩) (by show B + 1 < _; omega)).trans hy0
  have hu1 := (hB5.cell (p := ⟨B + 1, 1, none⟩) (by show B + 1 < _; omega)).trans hy1
  have HA5 := Lib.hid (HA4.out.below hB5); have HG5 := Lib.hid (gb_below HG4.out hB5)
  clear hV hB5 hq2 hqx0 hqx1 hlf hx0 hx1 hy0 hy1
  go_wp2_with (first
    | (go_at_call 45; refine (HIA.out _ HA5.out).mono ?_; clear HIA; rintro e w' ⟨rfl, rfl⟩)
    | (go_at_call 45; refine (HIB.out _ HA5.out).mono ?_; clear HIB; rintro e w' ⟨rfl, rfl⟩))
  go_ret
  exact ⟨rfl, HA5.out, HG5.out⟩

set_option maxRecDepth 100000 in
set_option maxHeartbeats 4000000 in
theorem ren_far (p : Nat) (s : Pf) (l : Loc) (a b : ByteArray) (x y : Plc) (i : Nat) (w : World) (K : RenIn p s l a b x y (some i) false false w) (hd : (x.d.toList == y.d.toList) = false) :
    Calls Tryz.prog 21 #[.pointer (some ⟨p, 0, none⟩), .string a, .string b] w fun e w' => e = .returned (.int .i64 2) ∧ At w' p (tickS s) l ∧ w.grownBy w' (some p) := by
  have HBG := Lib.hid K.beg; have HPA := Lib.hid K.pa; have HPB := Lib.hid K.pb; have HIA := Lib.hid K.ia; have HIB := Lib.hid K.ib; have hxo := K.xo; have HV := Lib.hid K.fv
  clear K
  go_enter Tryz.func21, Tryz.ntmps21
  go_wp2_with (first
    | (go_at_call 42; refine HBG.out.mono ?_; rintro e w1 ⟨rfl, hA, hg⟩; have HA := Lib.hid hA; have HG := Lib.hid hg; clear hA hg)
    | (go_at_call 44; refine (HPA.out _).mono ?_; clear HPA; rintro e w2 ⟨rfl, hb2⟩; have HA2 := Lib.hid (HA.out.below hb2); have HG2 := Lib.hid (gb_below HG.out hb2); clear hb2)
    | (go_at_call 44; refine (HPB.out _).mono ?_; clear HPB; rintro e w3 ⟨rfl, hb3⟩; have HA3 := Lib.hid (HA2.out.below hb3); have HG3 := Lib.hid (gb_below HG2.out hb3); clear hb3))
  obtain ⟨B, hB⟩ : ∃ B, w3.heap.size = B := ⟨_, rfl⟩
  obtain ⟨W, hW⟩ : ∃ W, (w3.alloc (.cells #[.string x.d, .string x.n] 79)).alloc (.cells #[.string y.d, .string y.n] 79) = W := ⟨_, rfl⟩
  have hbW : Below w3.heap.size w3 W := by rw [← hW]; exact ((Below.refl _ _).alloc (Nat.le_refl _) _).alloc (by simp) _
  have hWs : W.heap.size = B + 2 := by rw [← hW, ← hB]; simp
  have hx0 : W.cell? ⟨B, 0, none⟩ = some (.string x.d) := by rw [← hW, ← hB]; rw [World.cell?_alloc_lt _ _ ⟨w3.heap.size, 0, none⟩ (by simp)]; simp
  have hx1 : W.cell? ⟨B, 1, none⟩ = some (.string x.n) := by rw [← hW, ← hB]; rw [World.cell?_alloc_lt _ _ ⟨w3.heap.size, 1, none⟩ (by simp)]; simp
  have hy0 : W.cell? ⟨B + 1, 0, none⟩ = some (.string y.d) := by rw [← hW, ← hB]; have := World.cell?_alloc_mark (w3.alloc (.cells #[.string x.d, .string x.n] 79)) #[.string y.d, .string y.n] 79 (0, 0) 0; rw [World.size_alloc] at this; exact this
  have hy1 : W.cell? ⟨B + 1, 1, none⟩ = some (.string y.n) := by rw [← hW, ← hB]; have := World.cell?_alloc_mark (w3.alloc (.cells #[.string x.d, .string x.n] 79)) #[.string y.d, .string y.n] 79 (0, 0) 1; rw [World.size_alloc] at this; exact this
  have HA4 := Lib.hid (HA3.out.below hbW); have HG4 := Lib.hid (gb_below HG3.out hbW)
  have hq2 : ∀ d os, (Sort.grow (redrawn W d) os).cell? ⟨p, 2, none⟩ = some (.map (some l.bn)) := fun d os => by rw [(HA4.out.regrown d os).cell]; rfl
  have hqx0 : ∀ d os, (Sort.grow (redrawn W d) os).cell? ⟨B, 0, none⟩ = some (.string x.d) := fun d os => cell_regrown hx0 d os
  have hqx1 : ∀ d os, (Sort.grow (redrawn W d) os).cell? ⟨B, 1, none⟩ = some (.string x.n) := fun d os => cell_regrown hx1 d os
  have hlf : ∀ d os, (Instr.lookup 56 (.map (some l.bn)) (.agg #[.string x.d, .string x.n]) false).run Tryz.prog (Sort.grow (redrawn W d) os) = .ok (.pointer (some ⟨l.loc i, 0, none⟩)) (Sort.grow (redrawn W d) os) := fun d os => by
    have := (HA4.out.regrown d os).look_file hxo
    rw [HV.out] at this
    exact this
  rw [hB, hW]
  clear hW hB hbW
  refine wp_region_quiet_below (by kernel_rfl) (by kernel_rfl) ?_
  repeat (first | go_big_quiet_step (fail))
  refine wpQuiet_nil ?_
  intro w5 hV
  have hB5 := below_class hV
  have hz0 := (hB5.cell (p := ⟨B, 0, none⟩) (by show B < _; omega)).trans hx0
  have hz1 := (hB5.cell (p := ⟨B, 1, none⟩) (by show B < _; omega)).trans hx1
  have hu0 := (hB5.cell (p := ⟨B + 1, 0, none⟩) (by show B + 1 < _; omega)).trans hy0
  have hu1 := (hB5.cell (p := ⟨B + 1, 1, none⟩) (by show B + 1 < _; omega)).trans hy1
  have HA5 := Lib.hid (HA4.out.below hB5); have HG5 := Lib.hid (gb_below HG4.out hB5)
  clear hV hB5 hq2 hqx0 hqx1 hlf hx0 hx1 hy0 hy1
  go_wp2_with (first
    | (go_at_call 45; refine (HIA.out _ HA5.out).mono ?_; clear HIA; rintro e w' ⟨rfl, rfl⟩)
    | (go_at_call 45; refine (HIB.out _ HA5.out).mono ?_; clear HIB; rintro e w' ⟨rfl, rfl⟩))
  go_ret
  exact ⟨rfl, HA5.out, HG5.out⟩

set_option maxRecDepth 100000 in
set_option maxHeartbeats 4000000 in
theorem ren_same (p : Nat) (s : Pf) (l : Loc) (a b : ByteArray) (x y : Plc) (i : Nat) (w : World) (K : RenIn p s l a b x y (some i) false false w) (hd : (x.d.toList == y.d.toList) = true) (hn : (x.n.toList == y.n.toList) = true) :
    Calls Tryz.prog 21 #[.pointer (some ⟨p, 0, none⟩), .string a, .string b] w fun e w' => e = .returned (.int .i64 0) ∧ At w' p (tickS s) l ∧ w.grownBy w' (some p) := by
  have HBG := Lib.hid K.beg; have HPA := Lib.hid K.pa; have HPB := Lib.hid K.pb; have HIA := Lib.hid K.ia; have HIB := Lib.hid K.ib; have hxo := K.xo; have HV := Lib.hid K.fv
  clear K
  go_enter Tryz.func21, Tryz.ntmps21
  go_wp2_with (first
    | (go_at_call 42; refine HBG.out.mono ?_; rintro e w1 ⟨rfl, hA, hg⟩; have HA := Lib.hid hA; have HG := Lib.hid hg; clear hA hg)
    | (go_at_call 44; refine (HPA.out _).mono ?_; clear HPA; rintro e w2 ⟨rfl, hb2⟩; have HA2 := Lib.hid (HA.out.below hb2); have HG2 := Lib.hid (gb_below HG.out hb2); clear hb2)
    | (go_at_call 44; refine (HPB.out _).mono ?_; clear HPB; rintro e w3 ⟨rfl, hb3⟩; have HA3 := Lib.hid (HA2.out.below hb3); have HG3 := Lib.hid (gb_below HG2.out hb3); clear hb3))
  obtain ⟨B, hB⟩ : ∃ B, w3.heap.size = B := ⟨_, rfl⟩
  obtain ⟨W, hW⟩ : ∃ W, (w3.alloc (.cells #[.string x.d, .string x.n] 79)).alloc (.cells #[.string y.d, .string y.n] 79) = W := ⟨_, rfl⟩
  have hbW : Below w3.heap.size w3 W := by rw [← hW]; exact ((Below.refl _ _).alloc (Nat.le_refl _) _).alloc (by simp) _
  have hWs : W.heap.size = B + 2 := by rw [← hW, ← hB]; simp
  have hx0 : W.cell? ⟨B, 0, none⟩ = some (.string x.d) := by rw [← hW, ← hB]; rw [World.cell?_alloc_lt _ _ ⟨w3.heap.size, 0, none⟩ (by simp)]; simp
  have hx1 : W.cell? ⟨B, 1, none⟩ = some (.string x.n) := by rw [← hW, ← hB]; rw [World.cell?_alloc_lt _ _ ⟨w3.heap.size, 1, none⟩ (by simp)]; simp
  have hy0 : W.cell? ⟨B + 1, 0, none⟩ = some (.string y.d) := by rw [← hW, ← hB]; have := World.cell?_alloc_mark (w3.alloc (.cells #[.string x.d, .string x.n] 79)) #[.string y.d, .string y.n] 79 (0, 0) 0; rw [World.size_alloc] at this; exact this
  have hy1 : W.cell? ⟨B + 1, 1, none⟩ = some (.string y.n) := by rw [← hW, ← hB]; have := World.cell?_alloc_mark (w3.alloc (.cells #[.string x.d, .string x.n] 79)) #[.string y.d, .string y.n] 79 (0, 0) 1; rw [World.size_alloc] at this; exact this
  have HA4 := Lib.hid (HA3.out.below hbW); have HG4 := Lib.hid (gb_below HG3.out hbW)
  have hq2 : ∀ d os, (Sort.grow (redrawn W d) os).cell? ⟨p, 2, none⟩ = some (.map (some l.bn)) := fun d os => by rw [(HA4.out.regrown d os).cell]; rfl
  have hqx0 : ∀ d os, (Sort.grow (redrawn W d) os).cell? ⟨B, 0, none⟩ = some (.string x.d) := fun d os => cell_regrown hx0 d os
  have hqx1 : ∀ d os, (Sort.grow (redrawn W d) os).cell? ⟨B, 1, none⟩ = some (.string x.n) := fun d os => cell_regrown hx1 d os
  have hlf : ∀ d os, (Instr.lookup 56 (.map (some l.bn)) (.agg #[.string x.d, .string x.n]) false).run Tryz.prog (Sort.grow (redrawn W d) os) = .ok (.pointer (some ⟨l.loc i, 0, none⟩)) (Sort.grow (redrawn W d) os) := fun d os => by
    have := (HA4.out.regrown d os).look_file hxo
    rw [HV.out] at this
    exact this
  rw [hB, hW]
  clear hW hB hbW
  refine wp_region_quiet_below (by kernel_rfl) (by kernel_rfl) ?_
  repeat (first | go_big_quiet_step (fail))
  refine wpQuiet_nil ?_
  intro w5 hV
  have hB5 := below_class hV
  have hz0 := (hB5.cell (p := ⟨B, 0, none⟩) (by show B < _; omega)).trans hx0
  have hz1 := (hB5.cell (p := ⟨B, 1, none⟩) (by show B < _; omega)).trans hx1
  have hu0 := (hB5.cell (p := ⟨B + 1, 0, none⟩) (by show B + 1 < _; omega)).trans hy0
  have hu1 := (hB5.cell (p := ⟨B + 1, 1, none⟩) (by show B + 1 < _; omega)).trans hy1
  have HA5 := Lib.hid (HA4.out.below hB5); have HG5 := Lib.hid (gb_below HG4.out hB5)
  clear hV hB5 hq2 hqx0 hqx1 hlf hx0 hx1 hy0 hy1
  go_wp2_with (first
    | (go_at_call 45; refine (HIA.out _ HA5.out).mono ?_; clear HIA; rintro e w' ⟨rfl, rfl⟩)
    | (go_at_call 45; refine (HIB.out _ HA5.out).mono ?_; clear HIB; rintro e w' ⟨rfl, rfl⟩))
  go_ret
  exact ⟨rfl, HA5.out, HG5.out⟩

set_option maxRecDepth 100000 in
set_option maxHeartbeats 4000000 in
theorem ren_change (p : Nat) (s S2 : Pf) (l : Loc) (a b : ByteArray) (x y : Plc) (i : Nat) (w : World) (K : RenIn p s l a b x y (some i) false false w) (hd : (x.d.toList == y.d.toList) = true) (hn : (x.n.toList == y.n.toList) = false) (HCH : Hid (∀ W : World, At W p (tickS s) l → Calls Tryz.prog 47 #[.pointer (some ⟨p, 0, none⟩), .string x.d, .agg #[.string x.n, .string y.n, .pointer (some ⟨l.loc i, 0, none⟩)]] W fun e w' => (∃ r, e = .returned r) ∧ After W p (tickS s) S2 l w')) :
    Calls Tryz.prog 21 #[.pointer (some ⟨p, 0, none⟩), .string a, .string b] w fun e w' => e = .returned (.int .i64 0) ∧ After w p s S2 l w' := by
  have HBG := Lib.hid K.beg; have HPA := Lib.hid K.pa; have HPB := Lib.hid K.pb; have HIA := Lib.hid K.ia; have HIB := Lib.hid K.ib; have hxo := K.xo; have HV := Lib.hid K.fv
  clear K
  go_enter Tryz.func21, Tryz.ntmps21
  go_wp2_with (first
    | (go_at_call 42; refine HBG.out.mono ?_; rintro e w1 ⟨rfl, hA, hg⟩; have HA := Lib.hid hA; have HG := Lib.hid hg; clear hA hg)
    | (go_at_call 44; refine (HPA.out _).mono ?_; clear HPA; rintro e w2 ⟨rfl, hb2⟩; have HA2 := Lib.hid (HA.out.below hb2); have HG2 := Lib.hid (gb_below HG.out hb2); clear hb2)
    | (go_at_call 44; refine (HPB.out _).mono ?_; clear HPB; rintro e w3 ⟨rfl, hb3⟩; have HA3 := Lib.hid (HA2.out.below hb3); have HG3 := Lib.hid (gb_below HG2.out hb3); clear hb3))
  obtain ⟨B, hB⟩ : ∃ B, w3.heap.size = B := ⟨_, rfl⟩
  obtain ⟨W, hW⟩ : ∃ W, (w3.alloc (.cells #[.string x.d, .string x.n] 79)).alloc (.cells #[.string y.d, .string y.n] 79) = W := ⟨_, rfl⟩
  have hbW : Below w3.heap.size w3 W := by rw [← hW]; exact ((Below.refl _ _).alloc (Nat.le_refl _) _).alloc (by simp) _
  have hWs : W.heap.size = B + 2 := by rw [← hW, ← hB]; simp
  have hx0 : W.cell? ⟨B, 0, none⟩ = some (.string x.d) := by rw [← hW, ← hB]; rw [World.cell?_alloc_lt _ _ ⟨w3.heap.size, 0, none⟩ (by simp)]; simp
  have hx1 : W.cell? ⟨B, 1, none⟩ = some (.string x.n) := by rw [← hW, ← hB]; rw [World.cell?_alloc_lt _ _ ⟨w3.heap.size, 1, none⟩ (by simp)]; simp
  have hy0 : W.cell? ⟨B + 1, 0, none⟩ = some (.string y.d) := by rw [← hW, ← hB]; have := World.cell?_alloc_mark (w3.alloc (.cells #[.string x.d, .string x.n] 79)) #[.string y.d, .string y.n] 79 (0, 0) 0; rw [World.size_alloc] at this; exact this
  have hy1 : W.cell? ⟨B + 1, 1, none⟩ = some (.string y.n) := by rw [← hW, ← hB]; have := World.cell?_alloc_mark (w3.alloc (.cells #[.string x.d, .string x.n] 79)) #[.string y.d, .string y.n] 79 (0, 0) 1; rw [World.size_alloc] at this; exact this
  have HA4 := Lib.hid (HA3.out.below hbW); have HG4 := Lib.hid (gb_below HG3.out hbW)
  have hq2 : ∀ d os, (Sort.grow (redrawn W d) os).cell? ⟨p, 2, none⟩ = some (.map (some l.bn)) := fun d os => by rw [(HA4.out.regrown d os).cell]; rfl
  have hqx0 : ∀ d os, (Sort.grow (redrawn W d) os).cell? ⟨B, 0, none⟩ = some (.string x.d) := fun d os => cell_regrown hx0 d os
  have hqx1 : ∀ d os, (Sort.grow (redrawn W d) os).cell? ⟨B, 1, none⟩ = some (.string x.n) := fun d os => cell_regrown hx1 d os
  have hlf : ∀ d os, (Instr.lookup 56 (.map (some l.bn)) (.agg #[.string x.d, .string x.n]) false).run Tryz.prog (Sort.grow (redrawn W d) os) = .ok (.pointer (some ⟨l.loc i, 0, none⟩)) (Sort.grow (redrawn W d) os) := fun d os => by
    have := (HA4.out.regrown d os).look_file hxo
    rw [HV.out] at this
    exact this
  rw [hB, hW]
  clear hW hB hbW
  refine wp_region_quiet_below (by kernel_rfl) (by kernel_rfl) ?_
  repeat (first | go_big_quiet_step (fail))
  refine wpQuiet_nil ?_
  intro w5 hV
  have hB5 := below_class hV
  have hz0 := (hB5.cell (p := ⟨B, 0, none⟩) (by show B < _; omega)).trans hx0
  have hz1 := (hB5.cell (p := ⟨B, 1, none⟩) (by show B < _; omega)).trans hx1
  have hu0 := (hB5.cell (p := ⟨B + 1, 0, none⟩) (by show B + 1 < _; omega)).trans hy0
  have hu1 := (hB5.cell (p := ⟨B + 1, 1, none⟩) (by show B + 1 < _; omega)).trans hy1
  have HA5 := Lib.hid (HA4.out.below hB5); have HG5 := Lib.hid (gb_below HG4.out hB5)
  clear hV hB5 hq2 hqx0 hqx1 hlf hx0 hx1 hy0 hy1
  go_wp2_with (first
    | (go_at_call 45; refine (HIA.out _ HA5.out).mono ?_; clear HIA; rintro e w' ⟨rfl, rfl⟩)
    | (go_at_call 45; refine (HIB.out _ HA5.out).mono ?_; clear HIB; rintro e w' ⟨rfl, rfl⟩)
    | (go_at_call 47; refine (HCH.out _ HA5.out).mono ?_; rintro e w6 ⟨⟨r, rfl⟩, l2, hA6, hM6⟩; have HA6 := Lib.hid hA6; have HM6 := Lib.hid hM6; clear hA6 hM6))
  go_ret
  exact ⟨rfl, l2, HA6.out, (moves_tick HG5.out).trans HM6.out⟩


set_option maxRecDepth 100000 in
set_option maxHeartbeats 4000000 in
theorem ren_wrong (p : Nat) (s : Pf) (l : Loc) (a b : ByteArray) (r : Int) (w : World) (hr0 : r ≠ 0) (HBG : Hid (Calls Tryz.prog 42 #[.pointer (some ⟨p, 0, none⟩), .func (.func 43) #[] #[], .slice (some ⟨w.heap.size, 0, none⟩) 2 2] (w.alloc (.cells #[.string a, .string b] 9)) fun e w' => e = .returned (.int .i64 r) ∧ At w' p (tickS s) l ∧ w.grownBy w' (some p))) :
    Calls Tryz.prog 21 #[.pointer (some ⟨p, 0, none⟩), .string a, .string b] w fun e w' => e = .returned (.int .i64 r) ∧ At w' p (tickS s) l ∧ w.grownBy w' (some p) := by
  have hr1 : (r != 0) = true := by simpa using hr0
  have hr2 : (r == 0) = false := by simpa using hr0
  clear hr0
  go_enter Tryz.func21, Tryz.ntmps21
  go_wp2_with (go_at_call 42; refine HBG.out.mono ?_; rintro e w1 ⟨rfl, hA, hg⟩; have HA := Lib.hid hA; have HG := Lib.hid hg; clear hA hg)
  go_ret
  exact ⟨rfl, HA.out, HG.out⟩

theorem rename_any (p : Nat) (s : Pf) (l : Loc) (T : Nat) (a b : ByteArray) (w : World) (h : At w p s l) (hf : Fits s T) (hT : T ≤ 100000) (ha : okS a) (hb : okS b) :
    Calls Tryz.prog 21 #[.pointer (some ⟨p, 0, none⟩), .string a, .string b] w fun e w' => e = .returned (.int .i64 (renameRes s a b)) ∧ After w p s (renameS s a b) l w' := by
  have HBG := begin_two p s l a b w h hf.left ha hb
  obtain ⟨r, hr⟩ : ∃ r, beginRes s (hasName a.data.toList && hasName b.data.toList) = r := ⟨_, rfl⟩
  rw [hr] at HBG
  have tick : ∀ {R : Int}, renameRes s a b = R → (R ≠ 0 ∨ plcOf a = plcOf b) → (Calls Tryz.prog 21 #[.pointer (some ⟨p, 0, none⟩), .string a, .string b] w fun e w' => e = .returned (.int .i64 R) ∧ At w' p (tickS s) l ∧ w.grownBy w' (some p)) → Calls Tryz.prog 21 #[.pointer (some ⟨p, 0, none⟩), .string a, .string b] w fun e w' => e = .returned (.int .i64 (renameRes s a b)) ∧ After w p s (renameS s a b) l w' := fun {R} hR hn hc => hc.mono fun e w' ⟨he, hA, hg⟩ => by
    have hsy : renameS s a b = tickS s := by unfold renameS; rw [if_pos (by rw [hR]; exact hn)]
    exact ⟨by rw [he, hR], l, by rw [hsy]; exact hA, by rw [hsy]; exact moves_tick hg⟩
  by_cases hr0 : r = 0
  · subst hr0
    obtain ⟨hga, hgb⟩ := begin_two_good hr
    have hsa := good_slashed hga
    have hsb := good_slashed hgb
    have hres := renameRes_0 hr
    obtain ⟨x, hx⟩ : ∃ x, plcOf a = x := ⟨_, rfl⟩
    obtain ⟨y, hy⟩ : ∃ y, plcOf b = y := ⟨_, rfl⟩
    have hxo : okP x := by rw [← hx]; exact plc_ok ha hsa
    have hyo : okP y := by rw [← hy]; exact plc_ok hb hsb
    obtain ⟨f, hfo⟩ : ∃ f, fileOf s a = f := ⟨_, rfl⟩
    obtain ⟨da, hda⟩ : ∃ da, isDirS s a = da := ⟨_, rfl⟩
    obtain ⟨db, hdb⟩ : ∃ db, isDirS s b = db := ⟨_, rfl⟩
    have K : RenIn p s l a b x y f da db w := ⟨HBG, fun W => by rw [← hx]; exact placeOf_any a W ha hsa, fun W => by rw [← hy]; exact placeOf_any b W hb hsb, hxo, by rw [tick_fileV, ← hx, fileV_eq, hfo],
      fun W hW => by have := isDir_any p (tickS s) l a W hW ha; rwa [tick_dir, hda] at this, fun W hW => by have := isDir_any p (tickS s) l b W hW hb; rwa [tick_dir, hdb] at this⟩
    rw [hfo, hx, hy, hda, hdb] at hres
    cases da with
    | true => exact tick hres (.inl (by simp)) (by simpa using ren_da p s l a b x y f db w K)
    | false =>
      cases db with
      | true => exact tick hres (.inl (by simp)) (by simpa using ren_db p s l a b x y f w K)
      | false =>
        cases f with
        | none => exact tick hres (.inl (by simp [renTail])) (by simpa [renTail] using ren_none p s l a b x y w K)
        | some i =>
          by_cases hd : x.d = y.d
          · have hd1 : (x.d.toList == y.d.toList) = true := by rw [toList_eq]; simpa using hd
            by_cases hn : x.n = y.n
            · have hn1 : (x.n.toList == y.n.toList) = true := by rw [toList_eq]; simpa using hn
              have hxy : plcOf a = plcOf b := by rw [hx, hy]; cases x; cases y; simp at hd hn; rw [hd, hn]
              exact tick hres (.inr hxy) (by simpa [renTail, hd] using ren_same p s l a b x y i w K hd1 hn1)
            · have hn1 : (x.n.toList == y.n.toList) = false := by rw [toList_eq]; simpa using hn
              have hR : renameRes s a b = 0 := by rw [hres]; simp [renTail, hd]
              have hne : ¬ (renameRes s a b ≠ 0 ∨ plcOf a = plcOf b) := by
                rintro (h1 | h1)
                · exact h1 hR
                · rw [hx, hy] at h1; exact hn (by rw [h1])
              have hsy : renameS s a b = changeS (tickS s) x.d ⟨x.n, y.n, some i⟩ := by unfold renameS; rw [if_neg hne, hx, hy, hfo]
              have hli := live_tick.2 (find_live hfo)
              have hfc := hf.tick.change hT x.d
              have HCH : Hid (∀ W : World, At W p (tickS s) l → Calls Tryz.prog 47 #[.pointer (some ⟨p, 0, none⟩), .string x.d, .agg #[.string x.n, .string y.n, .pointer (some ⟨l.loc i, 0, none⟩)]] W fun e w' => (∃ r, e = .returned r) ∧ After W p (tickS s) (renameS s a b) l w') := fun W hW => by
                refine (change_any p (tickS s) l x.d ⟨x.n, y.n, some i⟩ W hW hxo.1 hxo.2 hyo.2 hfc.1 hfc.2.1 hfc.2.2 (fun j hj => by injection hj with hj; subst hj; exact hW.files i hli)).mono ?_
                rintro e w' ⟨hr, v, hA, hM⟩
                refine ⟨hr, _, by rw [hsy]; exact hA, ?_⟩
                rw [hsy]
                refine moves_sub hM fun g hg => ?_
                rcases hg with hg | ⟨j, hj, e⟩
                · exact hg
                · injection hj with hj; subst hj
                  exact .inr (.inr (.inr (.inr (.inl ⟨i, hli, e⟩))))
              rw [hR]
              exact ren_change p s _ l a b x y i w K hd1 hn1 HCH
          · have hd1 : (x.d.toList == y.d.toList) = false := by rw [toList_eq]; simpa using hd
            exact tick hres (.inl (by simp [renTail, hd])) (by simpa [renTail, hd] using ren_far p s l a b x y i w K hd1)
  · have hR : renameRes s a b = r := by rw [renameRes_n (by rw [hr]; exact hr0), hr]
    exact tick hR (.inl hr0) (ren_wrong p s l a b r w hr0 HBG)
end Go.Proofs.YtdbcjiapbehacaaGreatDoor.Vp
