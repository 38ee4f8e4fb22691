/-
  Layer 5: VpRen VpSpace VpKept VpInv, one behind the other.
-/
import Derived.Test.YtdbcjiapbehacaaGreatDoorVpH
/-! Layer 5: a file that is renamed, and a crash: what the file system is behind each call, as plain data. -/
namespace Go.Proofs.YtdbcjiapbehacaaGreatDoor.Vp
open Go.RowKit Go.Maps

theorem writeRes_new {s : Pf} {path b : ByteArray} (h1 : beginRes s (hasName path.data.toList) = 0) (h2 : isDirS s (plcOf path).d = true) (h3 : isDirS s path = false) (h4 : fileOf s path = none) (h5 : decide (256 ≤ s.names.length) = false) (h6 : b.size ≤ 65536) (h7 : (usedS s : Int) + b.size ≤ s.room) : writeRes s path b = 0 := by
  rw [writeRes_0 h1, if_neg (by rw [h2]; simp), if_neg (by rw [h3]; simp), h4, h5]
  have e1 : ¬ (65536 < b.size ∨ ((none : Option Nat) = none ∧ false = true)) := by
    rintro (h | ⟨_, h⟩)
    · omega
    · cases h
  have e2 : ¬ ((usedS s : Int) - ((0 : Nat) : Int) + b.size > s.room) := by omega
  show wrTail none false _ _ 0 _ = 0
  unfold wrTail
  rw [if_neg e1, if_neg e2]
theorem writeS_new {s : Pf} {path b : ByteArray} (h : writeRes s path b = 0) (h4 : fileOf s path = none) : writeS s path b = { changeS { tickS s with made := s.made + 1 } (plcOf path).d ⟨⟨#[]⟩, (plcOf path).n, some (s.made + 1)⟩ with files := putFile s.files (s.made + 1) ⟨b, ⟨#[]⟩⟩ } := by
  unfold writeS
  rw [if_neg (by rw [h]; simp), h4]

/-! ### A crash that turns nothing -/
theorem comeS_same {x : Fil} (h : x.c = x.d) (c : Nat) : comeS x c = (x, c) := by unfold comeS; rw [if_pos h]
theorem putFile_same (f : Nat → Fil) (i : Nat) : putFile f i (f i) = f := by
  funext j
  unfold putFile
  split
  · subst_vars; rfl
  · rfl
theorem stepF_same {s : Pf} (h : ∀ q i, look s.names q = some i → (s.files i).c = (s.files i).d) : ∀ (qs : List Plc) (c : Nat), qs.foldl stepF (s, c) = (s, c)
  | [], _ => rfl
  | q :: qs, c => by
    have e : stepF (s, c) q = (s, c) := by
      unfold stepF
      cases hl : look s.names q with
      | none => simp
      | some i => simp [comeS_same (h q i hl), putFile_same]
    rw [List.foldl_cons, e]
    exact stepF_same h qs c
theorem reboot_settled {s m : Pf} {choice : Int} {c : Nat} (h : midS s choice = (m, c)) (hs : ∀ q i, look m.dur q = some i → (m.files i).c = (m.files i).d) : rebootS s choice = { m with names := m.dur, left := 0, down := false } := by
  unfold rebootS lateS
  rw [h]
  show { (List.foldl stepF (cloneS m, c) _).1 with left := 0, down := false } = _
  rw [stepF_same (s := cloneS m) hs]
  rfl

/-! ### The states -/
def pNew : ByteArray := ⟨#[47, 110, 101, 119]⟩
def pName : ByteArray := ⟨#[47, 110, 97, 109, 101]⟩
def qNew : Plc := ⟨rootB, ⟨#[110, 101, 119]⟩⟩
def qName : Plc := ⟨rootB, ⟨#[110, 97, 109, 101]⟩⟩
def st1 : Stp := ⟨⟨#[]⟩, ⟨#[110, 101, 119]⟩, some 1⟩
def st2 : Stp := ⟨⟨#[]⟩, ⟨#[110, 97, 109, 101]⟩, some 2⟩
def mvS : Stp := ⟨⟨#[110, 101, 119]⟩, ⟨#[110, 97, 109, 101]⟩, some 1⟩
def mkR (ws : List Stp) (ns ds : List (Plc × Nat)) (f : Nat → Fil) (made : Nat) (left : Int) (down : Bool) : Pf := { room := 10000, waits := [(rootB, ws)], names := ns, dur := ds, files := f, made := made, left := left, down := down }
def F0 : Nat → Fil := fun _ => ⟨⟨#[]⟩, ⟨#[]⟩⟩
def N1 : List (Plc × Nat) := [(qNew, 1)]
def N2 : List (Plc × Nat) := [(qName, 2), (qNew, 1)]
def M1 : List (Plc × Nat) := [(qName, 1)]
section
variable (old other : ByteArray)
def F1 : Nat → Fil := putFile F0 1 ⟨old, ⟨#[]⟩⟩
def F2 : Nat → Fil := putFile (F1 old) 1 ⟨old, old⟩
def F3 : Nat → Fil := putFile (F2 old) 2 ⟨other, ⟨#[]⟩⟩
def F4 : Nat → Fil := putFile (F3 old other) 2 ⟨other, other⟩
def a1 : Pf := mkR [st1] N1 [] (F1 old) 1 0 false
def a2 : Pf := mkR [st1] N1 [] (F2 old) 1 0 false
def a3 : Pf := mkR [st1, st2] N2 [] (F3 old other) 2 0 false
def a4 : Pf := mkR [st1, st2] N2 [] (F4 old other) 2 0 false
def a5 : Pf := mkR [] N2 N2 (F4 old other) 2 0 false
def a6 (n : Int) : Pf := mkR [] N2 N2 (F4 old other) 2 n false
def a7 (n : Int) : Pf := renameS (a6 old other n) pNew pName
def a8 (n : Int) (sync : Bool) : Pf := if sync then syncDirS (a7 old other n) rootB else a7 old other n
def b2 : Pf := mkR [] N2 N2 (F4 old other) 2 0 false
def b1 : Pf := mkR [] M1 M1 (F4 old other) 2 0 false
variable {old other}
theorem used_a2 : usedS (a2 old) = old.size := by
  show [(F2 old 1).c.size].sum = old.size
  simp [F2, putFile]
theorem res1 (h : old.size ≤ 300) : writeRes (newS 10000) pNew old = 0 := writeRes_new (by kernel_rfl) (by kernel_rfl) (by kernel_rfl) (by kernel_rfl) (by kernel_rfl) (by omega) (by
  show ((0 : Nat) : Int) + _ ≤ 10000
  omega)
theorem res2 : findRes (a1 old) pNew = (some 1, 0) := by kernel_rfl
theorem res3 (h : old.size ≤ 300) (h' : other.size ≤ 300) : writeRes (a2 old) pName other = 0 := writeRes_new (by kernel_rfl) (by kernel_rfl) (by kernel_rfl) (by kernel_rfl) (by kernel_rfl) (by omega) (by
  rw [used_a2]
  show _ ≤ (10000 : Int)
  omega)
theorem res4 : findRes (a3 old other) pName = (some 2, 0) := by kernel_rfl
theorem res5 : findDirRes (a4 old other) rootB = 0 := by kernel_rfl
theorem to1 (h : old.size ≤ 300) : writeS (newS 10000) pNew old = a1 old := (writeS_new (res1 h) (by kernel_rfl)).trans (by kernel_rfl)
theorem to2 : syncS (a1 old) pNew = a2 old := by kernel_rfl
theorem to3 (h : old.size ≤ 300) (h' : other.size ≤ 300) : writeS (a2 old) pName other = a3 old other := (writeS_new (res3 h h') (by kernel_rfl)).trans (by kernel_rfl)
theorem to4 : syncS (a3 old other) pName = a4 old other := by kernel_rfl
theorem to5 : syncDirS (a4 old other) rootB = a5 old other := by kernel_rfl
theorem to6 (n : Int) (hn : 0 ≤ n) : ({ a5 old other with left := max n 0 } : Pf) = a6 old other n := by
  rw [show max n 0 = n by omega]; rfl
theorem okNew : okS pNew := by unfold okS; decide
theorem okName : okS pName := by unfold okS; decide
theorem fine1 (h : old.size ≤ 300) : Fine (a1 old) 3 := by rw [← to1 h]; exact (fine_new 10000).write okNew
theorem fine2 (h : old.size ≤ 300) : Fine (a2 old) 4 := by rw [← to2]; exact (fine1 h).sync pNew
theorem fine3 (h : old.size ≤ 300) (h' : other.size ≤ 300) : Fine (a3 old other) 6 := by rw [← to3 h h']; exact (fine2 h).write okName
theorem fine4 (h : old.size ≤ 300) (h' : other.size ≤ 300) : Fine (a4 old other) 7 := by rw [← to4]; exact (fine3 h h').sync pName
theorem fine5 (h : old.size ≤ 300) (h' : other.size ≤ 300) : Fine (a5 old other) 8 := by rw [← to5]; exact (fine4 h h').syncDir
theorem fine6 (h : old.size ≤ 300) (h' : other.size ≤ 300) {n : Int} (hn : 0 ≤ n) (hn3 : n ≤ 3) : Fine (a6 old other n) 8 := by rw [← to6 n hn]; exact (fine5 h h').crash n (by omega)
theorem fine7 (h : old.size ≤ 300) (h' : other.size ≤ 300) {n : Int} (hn : 0 ≤ n) (hn3 : n ≤ 3) : Fine (a7 old other n) 9 := (fine6 h h' hn hn3).rename okNew okName
theorem fine8 (h : old.size ≤ 300) (h' : other.size ≤ 300) {n : Int} (hn : 0 ≤ n) (hn3 : n ≤ 3) (sync : Bool) : Fine (a8 old other n sync) 10 := by
  unfold a8
  split
  · exact (fine7 h h' hn hn3).syncDir
  · exact (fine7 h h' hn hn3).mono (by omega)
/-- Reboot, of such a state. -/
theorem mid_R (ws : List Stp) (ns ds : List (Plc × Nat)) (f : Nat → Fil) (made : Nat) (left : Int) (down : Bool) (choice : Int) : midS (mkR ws ns ds f made left down) choice = (mkR [] ns (takeAll ds rootB (ws.take (cntOf choice % (ws.length + 1)))) f made left down, cntOf choice / (ws.length + 1)) := by
  unfold midS
  rw [dirB_I]
  kernel_rfl
theorem reboot_R {ws : List Stp} {ns ds D : List (Plc × Nat)} {left : Int} {down : Bool} {choice : Int} (hD : takeAll ds rootB (ws.take (cntOf choice % (ws.length + 1))) = D) (hq : ∀ x ∈ D, x.2 = 1 ∨ x.2 = 2) : rebootS (mkR ws ns ds (F4 old other) 2 left down) choice = mkR [] D D (F4 old other) 2 0 false := by
  have h := mid_R ws ns ds (F4 old other) 2 left down choice
  rw [hD] at h
  rw [reboot_settled h (fun q i hl => by
    have hm := hq _ (look_mem hl)
    rcases hm with e | e
    · have e' : i = 1 := e
      subst e'
      show (F4 old other 1).c = (F4 old other 1).d
      simp [F4, F3, F2, putFile]
    · have e' : i = 2 := e
      subst e'
      show (F4 old other 2).c = (F4 old other 2).d
      simp [F4, putFile])]
  rfl
theorem in_N2 : ∀ x ∈ N2, x.2 = 1 ∨ x.2 = 2 := by unfold N2; simp
theorem in_M1 : ∀ x ∈ M1, x.2 = 1 ∨ x.2 = 2 := by unfold M1; simp
theorem rb0 {ns ds : List (Plc × Nat)} {left : Int} {down : Bool} {choice : Int} (hq : ∀ x ∈ ds, x.2 = 1 ∨ x.2 = 2) : rebootS (mkR [] ns ds (F4 old other) 2 left down) choice = mkR [] ds ds (F4 old other) 2 0 false := reboot_R (by simp [takeAll]) hq
theorem rb1 {ns : List (Plc × Nat)} {left : Int} {down : Bool} {choice : Int} : rebootS (mkR [mvS] ns N2 (F4 old other) 2 left down) choice = b2 old other ∨ rebootS (mkR [mvS] ns N2 (F4 old other) 2 left down) choice = b1 old other := by
  rcases Nat.mod_two_eq_zero_or_one (cntOf choice) with h | h
  · exact .inl (reboot_R (by show takeAll N2 rootB ([mvS].take (cntOf choice % 2)) = N2; rw [h]; rfl) in_N2)
  · exact .inr (reboot_R (by show takeAll N2 rootB ([mvS].take (cntOf choice % 2)) = M1; rw [h]; kernel_rfl) in_M1)
theorem ren_ends {n : Int} (hn : n = 0 ∨ n = 1 ∨ n = 2 ∨ n = 3) (sync : Bool) (choice : Int) : rebootS (a8 old other n sync) choice = b2 old other ∨ (renameRes (a6 old other n) pNew pName = 0 ∧ rebootS (a8 old other n sync) choice = b1 old other) := by
  rcases hn with rfl | rfl | rfl | rfl <;> cases sync
  · have e : a8 old other 0 false = mkR [mvS] M1 N2 (F4 old other) 2 0 false := by kernel_rfl
    rw [e]
    exact rb1.imp id fun h => ⟨by kernel_rfl, h⟩
  · have e : a8 old other 0 true = mkR [] M1 M1 (F4 old other) 2 0 false := by kernel_rfl
    rw [e]
    exact .inr ⟨by kernel_rfl, rb0 in_M1⟩
  · have e : a8 old other 1 false = mkR [] N2 N2 (F4 old other) 2 0 true := by kernel_rfl
    rw [e]
    exact .inl (rb0 in_N2)
  · have e : a8 old other 1 true = mkR [] N2 N2 (F4 old other) 2 0 true := by kernel_rfl
    rw [e]
    exact .inl (rb0 in_N2)
  · have e : a8 old other 2 false = mkR [mvS] M1 N2 (F4 old other) 2 1 false := by kernel_rfl
    rw [e]
    exact rb1.imp id fun h => ⟨by kernel_rfl, h⟩
  · have e : a8 old other 2 true = mkR [mvS] M1 N2 (F4 old other) 2 0 true := by kernel_rfl
    rw [e]
    exact rb1.imp id fun h => ⟨by kernel_rfl, h⟩
  · have e : a8 old other 3 false = mkR [mvS] M1 N2 (F4 old other) 2 2 false := by kernel_rfl
    rw [e]
    exact rb1.imp id fun h => ⟨by kernel_rfl, h⟩
  · have e : a8 old other 3 true = mkR [] M1 M1 (F4 old other) 2 1 false := by kernel_rfl
    rw [e]
    exact .inr ⟨by kernel_rfl, rb0 in_M1⟩
theorem tick_b2 : tickS (b2 old other) = b2 old other := by kernel_rfl
theorem tick_b1 : tickS (b1 old other) = b1 old other := by kernel_rfl
theorem b2_new : findRes (b2 old other) pNew = (some 1, 0) := by kernel_rfl
theorem b2_name : findRes (b2 old other) pName = (some 2, 0) := by kernel_rfl
theorem b1_new : (findRes (b1 old other) pNew).2 = 50 := by kernel_rfl
theorem b1_name : findRes (b1 old other) pName = (some 1, 0) := by kernel_rfl
theorem b2_old : readB (b2 old other) pNew = old := by unfold readB; rw [b2_new]; simp [b2, mkR, F4, F3, F2, putFile]
theorem b2_other : readB (b2 old other) pName = other := by unfold readB; rw [b2_name]; simp [b2, mkR, F4, putFile]
theorem b1_old : readB (b1 old other) pName = old := by unfold readB; rw [b1_name]; simp [b1, mkR, F4, F3, F2, putFile]
end
end Go.Proofs.YtdbcjiapbehacaaGreatDoor.Vp

/-! Layer 5: writes alone, without a crash: never more than the room is used; what is refused changes nothing; what was written is read. -/
namespace Go.Proofs.YtdbcjiapbehacaaGreatDoor.Vp
open Go.RowKit Go.Maps

theorem writeRes_ok {s : Pf} {path b : ByteArray} (hr : writeRes s path b = 0) : beginRes s (hasName path.data.toList) = 0 ∧ isDirS s (plcOf path).d = true ∧ isDirS s path = false ∧ b.size ≤ 65536 ∧ (usedS s : Int) - longS s (fileOf s path) + b.size ≤ s.room := by
  have hb0 : beginRes s (hasName path.data.toList) = 0 := Classical.byContradiction fun e => e (by
    have := writeRes_n (b := b) e; rw [hr] at this; exact this.symm)
  rw [writeRes_0 hb0] at hr
  split at hr
  · omega
  · rename_i h1
    split at hr
    · omega
    · rename_i h2
      unfold wrTail at hr
      split at hr
      · omega
      · rename_i h3
        split at hr
        · omega
        · rename_i h4
          refine ⟨hb0, by simpa using h1, by simpa using h2, Classical.byContradiction fun e => h3 (.inl (by omega)), by omega⟩
theorem sum_put {f : Nat → Fil} {i : Nat} {x : Fil} {q : Plc} : ∀ {l : List (Plc × Nat)}, l.Pairwise (fun p q => p.2 ≠ q.2) → (q, i) ∈ l → (l.map fun p => (putFile f i x p.2).c.size).sum + (f i).c.size = (l.map fun p => (f p.2).c.size).sum + x.c.size
  | p :: l, hp, hm => by
    obtain ⟨h1, h2⟩ := List.pairwise_cons.1 hp
    rcases List.mem_cons.1 hm with rfl | hm
    · have e : (l.map fun p => (putFile f i x p.2).c.size) = l.map fun p => (f p.2).c.size := List.map_congr_left fun r hr => by
        have : r.2 ≠ i := (h1 r hr).symm
        simp [putFile, this]
      have e2 : putFile f i x i = x := by simp [putFile]
      simp only [List.map_cons, List.sum_cons, e, e2]
      omega
    · have hne : p.2 ≠ i := h1 _ hm
      have e2 : putFile f i x p.2 = f p.2 := by simp [putFile, hne]
      have ih := sum_put (f := f) (x := x) h2 hm
      simp only [List.map_cons, List.sum_cons, e2]
      omega
theorem sum_strike (g : Plc × Nat → Nat) (a : Plc) : ∀ l : List (Plc × Nat), ((strike l a).map g).sum ≤ (l.map g).sum
  | [] => Nat.le_refl _
  | p :: l => by
    have ih := sum_strike g a l
    unfold strike at ih ⊢
    rw [List.filter_cons]
    split
    · simp only [List.map_cons, List.sum_cons]; omega
    · simp only [List.map_cons, List.sum_cons]; omega
/-- Only writes have been done, none crashed. -/
structure Wr (s : Pf) (room : Int) : Prop where
  size : s.room = room
  left : s.left = 0
  down : s.down = false
  used : (usedS s : Int) ≤ room
  one : s.names.Pairwise (fun p q => p.2 ≠ q.2)
  made : ∀ p ∈ s.names, p.2 ≤ s.made
theorem Wr.tick {s : Pf} {room : Int} (h : Wr s room) : tickS s = s := by
  unfold tickS
  rw [if_neg (by rw [h.left]; omega)]
theorem wr_start {room : Int} (h : 0 ≤ room) : Wr (newS room) room := ⟨rfl, rfl, rfl, h, List.Pairwise.nil, fun p hp => by cases hp⟩
theorem begin_still {s t : Pf} {path : ByteArray} (h : beginRes s (hasName path.data.toList) = 0) (hl : t.left = 0) (hd : t.down = false) : beginRes t (hasName path.data.toList) = 0 := by
  have hg := begin_good h
  unfold beginRes
  have e : tickS t = t := by unfold tickS; rw [if_neg (by rw [hl]; omega)]
  rw [e, hd, hg]; rfl
theorem find_is {s : Pf} {path : ByteArray} {i : Nat} (h1 : beginRes s (hasName path.data.toList) = 0) (h2 : isDirS s path = false) (h3 : fileOf s path = some i) : findRes s path = (some i, 0) := by
  unfold findRes
  rw [if_neg (by rw [h1]; simp), if_neg (by rw [h2]; simp), h3]
theorem Wr.write {s : Pf} {room : Int} (h : Wr s room) (path b : ByteArray) : Wr (writeS s path b) room ∧ (writeRes s path b ≠ 0 → usedS (writeS s path b) = usedS s) ∧ (writeRes s path b = 0 → (findRes (writeS s path b) path).2 = 0 ∧ readB (writeS s path b) path = b) := by
  by_cases hr : writeRes s path b = 0
  · obtain ⟨h1, h2, h3, h4, h5⟩ := writeRes_ok hr
    cases hf : fileOf s path with
    | some i =>
      have e : writeS s path b = { s with files := putFile s.files i ⟨b, (s.files i).d⟩ } := by
        unfold writeS; rw [if_neg (by rw [hr]; simp), hf, h.tick]
      rw [e]
      have hm := look_mem (show look s.names (plcOf path) = some i from hf)
      have hs := sum_put (f := s.files) (x := ⟨b, (s.files i).d⟩) h.one hm
      have hu : usedS { s with files := putFile s.files i ⟨b, (s.files i).d⟩ } + (s.files i).c.size = usedS s + b.size := hs
      have hfi : findRes { s with files := putFile s.files i ⟨b, (s.files i).d⟩ } path = (some i, 0) := find_is (begin_still h1 h.left h.down) h3 hf
      rw [hf] at h5
      have h5' : (usedS s : Int) - (s.files i).c.size + b.size ≤ s.room := h5
      refine ⟨⟨h.size, h.left, h.down, by have := h.size; omega, h.one, h.made⟩, fun e => absurd hr e, fun _ => ⟨by rw [hfi], ?_⟩⟩
      unfold readB
      rw [hfi]
      simp [putFile]
    | none =>
      have e := writeS_new hr hf
      rw [h.tick] at e
      rw [e]
      have hne : path ≠ (plcOf path).d := fun e => by rw [← e, h3] at h2; cases h2
      have hnm : ∀ p ∈ strike (strike s.names ⟨(plcOf path).d, ⟨#[]⟩⟩) (plcOf path), p ∈ s.names := fun p hp => (mem_strike.1 (mem_strike.1 hp).1).1
      have hu : usedS ({ changeS { s with made := s.made + 1 } (plcOf path).d ⟨⟨#[]⟩, (plcOf path).n, some (s.made + 1)⟩ with files := putFile s.files (s.made + 1) ⟨b, ⟨#[]⟩⟩ } : Pf) ≤ usedS s + b.size := by
        show (((plcOf path, s.made + 1) :: strike (strike s.names ⟨(plcOf path).d, ⟨#[]⟩⟩) (plcOf path)).map fun p => (putFile s.files (s.made + 1) ⟨b, ⟨#[]⟩⟩ p.2).c.size).sum ≤ usedS s + b.size
        have e2 : putFile s.files (s.made + 1) ⟨b, ⟨#[]⟩⟩ (s.made + 1) = ⟨b, ⟨#[]⟩⟩ := by simp [putFile]
        have e3 : ((strike (strike s.names ⟨(plcOf path).d, ⟨#[]⟩⟩) (plcOf path)).map fun p => (putFile s.files (s.made + 1) ⟨b, ⟨#[]⟩⟩ p.2).c.size) = (strike (strike s.names ⟨(plcOf path).d, ⟨#[]⟩⟩) (plcOf path)).map fun p => (s.files p.2).c.size := List.map_congr_left fun r hr => by
          have : r.2 ≠ s.made + 1 := by have := h.made r (hnm r hr); omega
          simp [putFile, this]
        have h6 := sum_strike (fun p => (s.files p.2).c.size) (plcOf path) (strike s.names ⟨(plcOf path).d, ⟨#[]⟩⟩)
        have h7 := sum_strike (fun p => (s.files p.2).c.size) ⟨(plcOf path).d, ⟨#[]⟩⟩ s.names
        have h8 : usedS s = (s.names.map fun p => (s.files p.2).c.size).sum := rfl
        simp only [List.map_cons, List.sum_cons, e2, e3]
        omega
      have hfi : findRes ({ changeS { s with made := s.made + 1 } (plcOf path).d ⟨⟨#[]⟩, (plcOf path).n, some (s.made + 1)⟩ with files := putFile s.files (s.made + 1) ⟨b, ⟨#[]⟩⟩ } : Pf) path = (some (s.made + 1), 0) := by
        refine find_is (begin_still h1 h.left h.down) ?_ ?_
        · show (look (store s.waits (plcOf path).d _) path).isSome = false
          rw [look_store_other hne]; exact h3
        · show look (store (strike s.names ⟨(plcOf path).d, ⟨#[]⟩⟩) (plcOf path) (s.made + 1)) (plcOf path) = some (s.made + 1)
          rw [look_store_same]
      rw [hf] at h5
      have h5' : (usedS s : Int) - (0 : Nat) + b.size ≤ s.room := h5
      refine ⟨⟨h.size, h.left, h.down, Int.le_trans (Int.ofNat_le.2 hu) (by have := h.size; omega), ?_, ?_⟩, fun e => absurd hr e, fun _ => ⟨by rw [hfi], ?_⟩⟩
      · show ((plcOf path, s.made + 1) :: strike (strike s.names ⟨(plcOf path).d, ⟨#[]⟩⟩) (plcOf path)).Pairwise _
        refine List.pairwise_cons.2 ⟨fun p hp => ?_, (h.one.filter _).filter _⟩
        have := h.made p (hnm p hp)
        show s.made + 1 ≠ p.2
        omega
      · intro p hp
        show p.2 ≤ s.made + 1
        rcases List.mem_cons.1 (show p ∈ (plcOf path, s.made + 1) :: strike (strike s.names ⟨(plcOf path).d, ⟨#[]⟩⟩) (plcOf path) from hp) with rfl | hp
        · exact Nat.le_refl _
        · have := h.made p (hnm p hp); omega
      · unfold readB
        rw [hfi]
        simp [putFile]
  · have e : writeS s path b = s := by unfold writeS; rw [if_pos hr, h.tick]
    rw [e]
    exact ⟨h, fun _ => rfl, fun e => absurd e hr⟩
end Go.Proofs.YtdbcjiapbehacaaGreatDoor.Vp

/-! Layer 5: a file that is there for sure stays so, whatever is done with other names. -/
namespace Go.Proofs.YtdbcjiapbehacaaGreatDoor.Vp
open Go.RowKit Go.Maps

theorem look_takeS (l : List (Plc × Nat)) (dir : ByteArray) (x : Stp) (q : Plc) : look (takeS l dir x) q = match x.file with
    | none => if q = ⟨dir, x.gone⟩ then none else look l q
    | some i => if q = ⟨dir, x.name⟩ then some i else if q = ⟨dir, x.gone⟩ then none else look l q := by
  unfold takeS
  cases x.file with
  | none =>
    dsimp only
    split
    · rename_i h; rw [h, look_strike_same]
    · rename_i h; rw [look_strike_other h]
  | some i =>
    dsimp only
    split
    · rename_i h; rw [h, look_store_same]
    · rename_i h
      rw [look_store_other h]
      split
      · rename_i h2; rw [h2, look_strike_same]
      · rename_i h2; rw [look_strike_other h2]
theorem waits_store (ws : List (ByteArray × List Stp)) (d e : ByteArray) (xs : List Stp) : (look (store ws d xs) e).getD [] = if e = d then xs else (look ws e).getD [] := by
  split
  · rename_i h; rw [h, look_store_same]; rfl
  · rename_i h; rw [look_store_other h]
theorem dir_store (ws : List (ByteArray × List Stp)) (d e : ByteArray) (xs : List Stp) : (look (store ws d xs) e).isSome = (decide (e = d) || (look ws e).isSome) := by
  by_cases h : e = d
  · rw [h, look_store_same]; simp
  · rw [look_store_other h]; simp [h]
/-- i stands at k, and nowhere else; no name stands in the directory P. -/
structure Only (l : List (Plc × Nat)) (k : Plc) (i : Nat) (P : ByteArray) : Prop where
  at_ : look l k = some i
  only : ∀ q, look l q = some i → q = k
  out : ∀ q j, look l q = some j → q.d ≠ P
/-- A step in a directory that leaves it alone. -/
structure Away (x : Stp) (dir : ByteArray) (k : Plc) (i : Nat) : Prop where
  file : x.file ≠ some i
  gone : dir = k.d → x.gone ≠ k.n
  name : dir = k.d → x.file ≠ none → x.name ≠ k.n
theorem Only.take {l : List (Plc × Nat)} {k : Plc} {i : Nat} {P dir : ByteArray} {x : Stp} (h : Only l k i P) (hx : Away x dir k i) (hP : dir ≠ P) : Only (takeS l dir x) k i P := by
  have hg : k ≠ ⟨dir, x.gone⟩ := fun e => hx.gone (by rw [e]) (by rw [e])
  refine ⟨?_, fun q hq => ?_, fun q j hq => ?_⟩
  · rw [look_takeS]
    cases hf : x.file with
    | none => dsimp only; rw [if_neg hg]; exact h.at_
    | some j =>
      dsimp only
      rw [if_neg (fun e => hx.name (by rw [e]) (by rw [hf]; simp) (by rw [e])), if_neg hg]
      exact h.at_
  · rw [look_takeS] at hq
    cases hf : x.file with
    | none =>
      rw [hf] at hq; dsimp only at hq
      split at hq
      · cases hq
      · exact h.only q hq
    | some j =>
      rw [hf] at hq; dsimp only at hq
      split at hq
      · injection hq with hq; subst hq; exact absurd hf hx.file
      · split at hq
        · cases hq
        · exact h.only q hq
  · rw [look_takeS] at hq
    cases hf : x.file with
    | none =>
      rw [hf] at hq; dsimp only at hq
      split at hq
      · cases hq
      · exact h.out q j hq
    | some i2 =>
      rw [hf] at hq; dsimp only at hq
      split at hq
      · rename_i e; rw [e]; exact hP
      · split at hq
        · cases hq
        · exact h.out q j hq
theorem Only.takeAll {k : Plc} {i : Nat} {P dir : ByteArray} (hP : dir ≠ P) : ∀ {xs : List Stp} {l : List (Plc × Nat)}, Only l k i P → (∀ x ∈ xs, Away x dir k i) → Only (takeAll l dir xs) k i P
  | [], _, h, _ => h
  | x :: xs, l, h, hx => Only.takeAll hP (xs := xs) (l := takeS l dir x) (h.take (hx x (by simp)) hP) fun y hy => hx y (by simp [hy])

/-- A file that is there for sure, as b. -/
structure Kept (s : Pf) (P b : ByteArray) (i : Nat) : Prop where
  names : Only s.names (plcOf P) i P
  dur : Only s.dur (plcOf P) i P
  cont : s.files i = ⟨b, b⟩
  wait : ∀ dir, ∀ st ∈ waitsOf s dir, Away st dir (plcOf P) i
  made : i ≤ s.made
  nodir : isDirS s P = false
section
variable {s : Pf} {P b : ByteArray} {i : Nat}
theorem Kept.set {s' : Pf} (h : Kept s P b i) (h1 : s'.names = s.names) (h2 : s'.dur = s.dur) (h3 : s'.waits = s.waits) (h4 : s'.files i = s.files i) (h5 : s.made ≤ s'.made) : Kept s' P b i :=
  ⟨by rw [h1]; exact h.names, by rw [h2]; exact h.dur, by rw [h4]; exact h.cont, fun dir st hst => h.wait dir st (by unfold waitsOf at hst ⊢; rw [h3] at hst; exact hst), Nat.le_trans h.made h5, by have := h.nodir; unfold isDirS at this ⊢; rw [h3]; exact this⟩
theorem Kept.tick (h : Kept s P b i) : Kept (tickS s) P b i := h.set (tick_names s) (tick_dur s) (tick_waits s) (by rw [tick_files]) (by rw [tick_made]; exact Nat.le_refl _)
theorem Kept.change (h : Kept s P b i) {dir : ByteArray} {x : Stp} (hx : Away x dir (plcOf P) i) (hP : dir ≠ P) : Kept (changeS s dir x) P b i := by
  refine ⟨h.names.take hx hP, h.dur, h.cont, fun e st hst => ?_, h.made, ?_⟩
  · have e1 : waitsOf (changeS s dir x) e = if e = dir then waitsOf s dir ++ [x] else waitsOf s e := waits_store _ _ _ _
    rw [e1] at hst
    split at hst
    · rename_i he
      subst he
      rcases List.mem_append.1 hst with hm | hm
      · exact h.wait _ st hm
      · rw [List.mem_singleton.1 hm]; exact hx
    · exact h.wait e st hst
  · have e1 : isDirS (changeS s dir x) P = (decide (P = dir) || isDirS s P) := dir_store _ _ _ _
    rw [e1, h.nodir]; simp [Ne.symm hP]
theorem Kept.keep (h : Kept s P b i) (dir : ByteArray) (n : Nat) (hd : isDirS s dir = true) : Kept (keepS s dir n) P b i := by
  have hP : dir ≠ P := fun e => by rw [e, h.nodir] at hd; cases hd
  refine ⟨h.names, Only.takeAll hP h.dur fun x hx => h.wait dir x (List.mem_of_mem_take hx), h.cont, fun e st hst => ?_, h.made, ?_⟩
  · have e1 : waitsOf (keepS s dir n) e = if e = dir then [] else waitsOf s e := waits_store _ _ _ _
    rw [e1] at hst
    split at hst
    · cases hst
    · exact h.wait e st hst
  · have e1 : isDirS (keepS s dir n) P = (decide (P = dir) || isDirS s P) := dir_store _ _ _ _
    rw [e1, h.nodir]; simp [Ne.symm hP]
theorem Kept.file (h : Kept s P b i) {j : Nat} (hj : j ≠ i) (x : Fil) : Kept { s with files := putFile s.files j x } P b i := h.set rfl rfl rfl (by simp [putFile, Ne.symm hj]) (Nat.le_refl _)
/-- Another path's place is another one. -/
theorem plc_ne {path : ByteArray} (hP : hasName P.data.toList = true) (h : hasName path.data.toList = true) (hne : path ≠ P) : plcOf path ≠ plcOf P := fun e => hne (by rw [← path_back h, e, path_back hP])
theorem Kept.other (h : Kept s P b i) {q : Plc} (hq : q ≠ plcOf P) {j : Nat} (hj : look s.names q = some j) : j ≠ i := fun e => hq (h.names.only q (by rw [hj, e]))
theorem Kept.mkdir (h : Kept s P b i) {path : ByteArray} (hne : path ≠ P) : Kept (mkdirS s path) P b i := by
  unfold mkdirS
  split
  · rename_i hr
    have hb0 : beginRes s (hasName path.data.toList) = 0 := Classical.byContradiction fun e => by
      unfold mkdirRes at hr; rw [if_pos e] at hr; exact e hr
    have hpb := path_back (begin_good hb0)
    have ht := h.tick
    refine ⟨ht.names, ht.dur, ht.cont, fun e st hst => ?_, ht.made, ?_⟩
    · have e1 : waitsOf { tickS s with waits := store s.waits (pathOfP (plcOf path)) [] } e = if e = pathOfP (plcOf path) then [] else waitsOf s e := waits_store _ _ _ _
      rw [e1] at hst
      split at hst
      · cases hst
      · exact h.wait e st hst
    · have e1 : isDirS { tickS s with waits := store s.waits (pathOfP (plcOf path)) [] } P = (decide (P = pathOfP (plcOf path)) || isDirS s P) := dir_store _ _ _ _
      rw [e1, h.nodir, hpb]; simp [Ne.symm hne]
  · exact h.tick
theorem Kept.write (h : Kept s P b i) (hP : hasName P.data.toList = true) (hN : (⟨#[]⟩ : ByteArray) ≠ (plcOf P).n) {path t : ByteArray} (hne : path ≠ P) : Kept (writeS s path t) P b i := by
  by_cases hr : writeRes s path t = 0
  · obtain ⟨h1, h2, h3, h4, h5⟩ := writeRes_ok hr
    have hq := plc_ne hP (begin_good h1) hne
    cases hf : fileOf s path with
    | some j =>
      have e : writeS s path t = { tickS s with files := putFile s.files j ⟨t, (s.files j).d⟩ } := by
        unfold writeS; rw [if_neg (by rw [hr]; simp), hf]
      rw [e]
      have := h.tick.file (j := j) (h.other hq hf) ⟨t, (s.files j).d⟩
      rw [tick_files] at this
      exact this
    | none =>
      rw [writeS_new hr hf]
      have hk : Kept { tickS s with made := s.made + 1, files := putFile s.files (s.made + 1) ⟨t, ⟨#[]⟩⟩ } P b i := h.tick.set rfl rfl rfl (by have := h.made; rw [tick_files]; simp [putFile]; omega) (by rw [tick_made]; exact Nat.le_succ _)
      have hd : (plcOf path).d ≠ P := fun e => by rw [e, h.nodir] at h2; cases h2
      exact hk.change (x := ⟨⟨#[]⟩, (plcOf path).n, some (s.made + 1)⟩) ⟨by have := h.made; simp; omega, fun _ => hN, fun e _ e2 => hq (by cases hpp : plcOf path; rw [hpp] at e e2; dsimp only at e e2; rw [e, e2])⟩ hd
  · have e : writeS s path t = tickS s := by unfold writeS; rw [if_pos hr]
    rw [e]; exact h.tick
theorem Kept.sync (h : Kept s P b i) (hP : hasName P.data.toList = true) {path : ByteArray} (hne : path ≠ P) : Kept (syncS s path) P b i := by
  by_cases h0 : (findRes s path).2 = 0
  · obtain ⟨j, h1, h2, h3⟩ := findRes_some h0
    have e : syncS s path = { tickS s with files := putFile s.files j ⟨(s.files j).c, (s.files j).c⟩ } := by unfold syncS; rw [h1]
    rw [e]
    have := h.tick.file (j := j) (h.other (plc_ne hP h3 hne) h2) ⟨(s.files j).c, (s.files j).c⟩
    rw [tick_files] at this
    exact this
  · have e : syncS s path = tickS s := by unfold syncS; rw [findRes_none h0]
    rw [e]; exact h.tick
theorem findDir_is {path : ByteArray} (h0 : findDirRes s path = 0) : isDirS s path = true := by
  unfold findDirRes at h0
  split at h0
  · rename_i h2; exact absurd h0 h2
  · split at h0
    · omega
    · split at h0
      · assumption
      · omega
theorem Kept.syncDir (h : Kept s P b i) (path : ByteArray) : Kept (syncDirS s path) P b i := by
  unfold syncDirS
  split
  · exact h.tick
  · rename_i h0
    exact h.tick.keep path _ (by rw [tick_dir]; exact findDir_is (by simpa using h0))
theorem Kept.rename (h : Kept s P b i) (hP : hasName P.data.toList = true) {x y : ByteArray} (hx : x ≠ P) (hy : y ≠ P) : Kept (renameS s x y) P b i := by
  unfold renameS
  split
  · exact h.tick
  · rename_i h0
    have hr : renameRes s x y = 0 := Classical.byContradiction fun e => h0 (.inl e)
    have hb0 : beginRes s (hasName x.data.toList && hasName y.data.toList) = 0 := Classical.byContradiction fun e => e (by
      have := renameRes_n e; rw [hr] at this; exact this.symm)
    obtain ⟨hgx, hgy⟩ := begin_two_good hb0
    have hqx := plc_ne hP hgx hx
    have hqy := plc_ne hP hgy hy
    rw [renameRes_0 hb0] at hr
    split at hr
    · omega
    · unfold renTail at hr
      cases hf : fileOf s x with
      | none => rw [hf] at hr; simp at hr
      | some j =>
        rw [hf] at hr
        simp only [] at hr
        split at hr
        · omega
        · rename_i hde
          have hde' : (plcOf x).d = (plcOf y).d := Classical.byContradiction fun e => hde e
          refine h.tick.change ⟨?_, fun e e2 => hqx ?_, fun e _ e2 => hqy ?_⟩ (h.names.out _ _ hf)
          · intro e; injection e with e; exact h.other hqx hf e
          · cases hpp : plcOf x; rw [hpp] at e e2; dsimp only at e e2; rw [e, e2]
          · rw [hde'] at e; cases hpp : plcOf y; rw [hpp] at e e2; dsimp only at e e2; rw [e, e2]
theorem Kept.remove (h : Kept s P b i) (hP : hasName P.data.toList = true) {path : ByteArray} (hne : path ≠ P) : Kept (removeS s path) P b i := by
  unfold removeS
  split
  · exact h.tick
  · rename_i h0
    obtain ⟨j, h1, h2, h3⟩ := findRes_some (s := s) (path := path) (by simpa using h0)
    have hq := plc_ne hP h3 hne
    exact h.tick.change ⟨by simp, fun e e2 => hq (by cases hpp : plcOf path; rw [hpp] at e e2; dsimp only at e e2; rw [e, e2]), fun _ e => absurd rfl e⟩ (h.names.out _ _ h2)
theorem Kept.crash (h : Kept s P b i) (n : Int) : Kept { s with left := max n 0 } P b i := h.set rfl rfl rfl rfl (Nat.le_refl _)
theorem stepD_dirs (x : Pf × Nat) (d e : ByteArray) : isDirS (stepD x d).1 e = (decide (e = d) || isDirS x.1 e) := dir_store _ _ _ _
theorem Kept.mid (P b : ByteArray) (i : Nat) : ∀ (ds : List ByteArray) (x : Pf × Nat), Kept x.1 P b i → (∀ d ∈ ds, isDirS x.1 d = true) → Kept (ds.foldl stepD x).1 P b i
  | [], _, h, _ => h
  | d :: ds, x, h, hd => Kept.mid P b i ds (stepD x d) (h.keep d _ (hd d (by simp))) fun e he => by rw [stepD_dirs, hd e (by simp [he])]; simp
theorem Kept.late (P b : ByteArray) (i : Nat) : ∀ (qs : List Plc) (x : Pf × Nat), Kept x.1 P b i → Kept (qs.foldl stepF x).1 P b i
  | [], _, h => h
  | q :: qs, x, h => by
    rw [List.foldl_cons]
    refine Kept.late P b i qs _ ?_
    unfold stepF
    cases hl : look x.1.names q with
    | none => exact h
    | some j =>
      show Kept { x.1 with files := putFile x.1.files j (comeS (x.1.files j) x.2).1 } P b i
      by_cases hj : j = i
      · subst hj
        have e : (comeS (x.1.files j) x.2).1 = x.1.files j := by rw [comeS_same (by rw [h.cont])]
        rw [e, putFile_same]; exact h
      · exact h.file hj _
theorem dirB_dirs {d : ByteArray} (h : d ∈ dirB s) : isDirS s d = true := by
  rw [dirB_I] at h
  unfold dirI at h
  obtain ⟨l, hl, rfl⟩ := List.mem_map.1 h
  obtain ⟨y, hy, rfl⟩ := List.mem_map.1 ((isort_perm _).mem_iff.1 hl)
  have e : (⟨y.1.data.toList.toArray⟩ : ByteArray) = y.1 := by simp
  rw [e]
  unfold isDirS
  cases hk : look s.waits y.1 with
  | none => exact absurd rfl (look_none.1 hk y hy)
  | some _ => rfl
theorem Kept.reboot (h : Kept s P b i) (choice : Int) : Kept (rebootS s choice) P b i := by
  have hm : Kept (midS s choice).1 P b i := Kept.mid P b i _ _ h fun d hd => dirB_dirs hd
  have hc : Kept (cloneS (midS s choice).1) P b i := ⟨hm.dur, hm.dur, hm.cont, hm.wait, hm.made, hm.nodir⟩
  have hl : Kept (lateS s choice).1 P b i := Kept.late P b i _ _ hc
  exact hl.set rfl rfl rfl rfl (Nat.le_refl _)
/-- It is found, and reads so. -/
theorem Kept.read (h : Kept s P b i) (hP : hasName P.data.toList = true) (hl : s.left = 0) (hd : s.down = false) : (findRes s P).2 = 0 ∧ readB s P = b := by
  have h1 : beginRes s (hasName P.data.toList) = 0 := by
    unfold beginRes
    have e : tickS s = s := by unfold tickS; rw [if_neg (by rw [hl]; omega)]
    rw [e, hd, hP]; rfl
  have h2 := find_is h1 h.nodir h.names.at_
  refine ⟨by rw [h2], ?_⟩
  unfold readB
  rw [h2]
  dsimp only
  rw [h.cont]
end
end Go.Proofs.YtdbcjiapbehacaaGreatDoor.Vp

/-! Layer 5: what holds of the program's file system whatever has been done: a file has at most one name in each state that a crash may leave; and what is synced is there for sure. -/
namespace Go.Proofs.YtdbcjiapbehacaaGreatDoor.Vp
open Go.RowKit Go.Maps

theorem look_takeS_far {l : List (Plc × Nat)} {dir : ByteArray} {x : Stp} {q : Plc} (h : q.d ≠ dir) : look (takeS l dir x) q = look l q := by
  have h1 : ∀ n : ByteArray, q ≠ ⟨dir, n⟩ := fun n e => h (by rw [e])
  rw [look_takeS]
  cases x.file with
  | none => dsimp only; rw [if_neg (h1 _)]
  | some i => dsimp only; rw [if_neg (h1 _), if_neg (h1 _)]
theorem look_takeAll_far {dir : ByteArray} {q : Plc} (h : q.d ≠ dir) : ∀ (xs : List Stp) (l : List (Plc × Nat)), look (takeAll l dir xs) q = look l q
  | [], _ => rfl
  | x :: xs, l => (look_takeAll_far h xs (takeS l dir x)).trans (look_takeS_far h)
theorem look_takeS_near {l l' : List (Plc × Nat)} {dir : ByteArray} (x : Stp) (h : ∀ n, look l ⟨dir, n⟩ = look l' ⟨dir, n⟩) (n : ByteArray) : look (takeS l dir x) ⟨dir, n⟩ = look (takeS l' dir x) ⟨dir, n⟩ := by
  rw [look_takeS, look_takeS]
  simp only [h n]
theorem look_takeAll_near {dir : ByteArray} : ∀ (xs : List Stp) {l l' : List (Plc × Nat)}, (∀ n, look l ⟨dir, n⟩ = look l' ⟨dir, n⟩) → ∀ n, look (takeAll l dir xs) ⟨dir, n⟩ = look (takeAll l' dir xs) ⟨dir, n⟩
  | [], _, _, h, n => h n
  | x :: xs, _, _, h, n => look_takeAll_near xs (look_takeS_near x h) n
theorem look_takeS_of {l : List (Plc × Nat)} {dir : ByteArray} {x : Stp} {q : Plc} {i : Nat} (h : look (takeS l dir x) q = some i) : look l q = some i ∨ (q.d = dir ∧ x.file = some i) := by
  rw [look_takeS] at h
  cases hf : x.file with
  | none =>
    rw [hf] at h; dsimp only at h
    split at h
    · cases h
    · exact .inl h
  | some j =>
    rw [hf] at h; dsimp only at h
    split at h
    · rename_i e; exact .inr ⟨by rw [e], h⟩
    · split at h
      · cases h
      · exact .inl h
theorem look_takeAll_of {dir : ByteArray} {q : Plc} {i : Nat} : ∀ {xs : List Stp} {l : List (Plc × Nat)}, look (takeAll l dir xs) q = some i → look l q = some i ∨ (q.d = dir ∧ ∃ x ∈ xs, x.file = some i)
  | [], _, h => .inl h
  | x :: xs, l, h => by
    rcases look_takeAll_of (xs := xs) (l := takeS l dir x) h with h | ⟨h1, y, hy, h2⟩
    · rcases look_takeS_of h with h | ⟨h1, h2⟩
      · exact .inl h
      · exact .inr ⟨h1, x, by simp, h2⟩
    · exact .inr ⟨h1, y, by simp [hy], h2⟩
def InjAt (l : List (Plc × Nat)) (dir : ByteArray) : Prop := ∀ a b i, look l ⟨dir, a⟩ = some i → look l ⟨dir, b⟩ = some i → a = b
/-- Of what is durable, and what waits. -/
structure Base (s : Pf) : Prop where
  home : ∃ hm : Nat → ByteArray, (∀ q i, look s.dur q = some i → hm i = q.d) ∧ ∀ dir, ∀ st ∈ waitsOf s dir, ∀ i, st.file = some i → hm i = dir
  made : (∀ q i, look s.dur q = some i → i ≤ s.made) ∧ ∀ dir, ∀ st ∈ waitsOf s dir, ∀ i, st.file = some i → i ≤ s.made
  dirs : ∀ q i, look s.dur q = some i → isDirS s q.d = true
  inj : ∀ dir k, InjAt (takeAll s.dur dir ((waitsOf s dir).take k)) dir
/-- And of the names. -/
structure Inv (s : Pf) : Prop where
  base : Base s
  full : ∀ dir n, look s.names ⟨dir, n⟩ = look (takeAll s.dur dir (waitsOf s dir)) ⟨dir, n⟩
section
variable {s : Pf}
theorem Base.set {s' : Pf} (h : Base s) (h2 : s'.dur = s.dur) (h3 : ∀ d, waitsOf s' d = waitsOf s d) (h4 : ∀ d, isDirS s d = true → isDirS s' d = true) (h5 : s.made ≤ s'.made) : Base s' := by
  obtain ⟨hm, a, b⟩ := h.home
  exact ⟨⟨hm, by rw [h2]; exact a, fun d st hst => b d st (by rw [h3] at hst; exact hst)⟩, ⟨fun q i hq => Nat.le_trans (h.made.1 q i (by rw [h2] at hq; exact hq)) h5, fun d st hst i hi => Nat.le_trans (h.made.2 d st (by rw [h3] at hst; exact hst) i hi) h5⟩, fun q i hq => h4 _ (h.dirs q i (by rw [h2] at hq; exact hq)), fun d k => by rw [h2, h3]; exact h.inj d k⟩
theorem Inv.set {s' : Pf} (h : Inv s) (h1 : s'.names = s.names) (h2 : s'.dur = s.dur) (h3 : ∀ d, waitsOf s' d = waitsOf s d) (h4 : ∀ d, isDirS s d = true → isDirS s' d = true) (h5 : s.made ≤ s'.made) : Inv s' :=
  ⟨h.base.set h2 h3 h4 h5, fun d n => by rw [h1, h2, h3]; exact h.full d n⟩
theorem waits_dir {dir : ByteArray} {st : Stp} (h : st ∈ waitsOf s dir) : isDirS s dir = true := by
  unfold waitsOf at h
  unfold isDirS
  cases hl : look s.waits dir with
  | none => rw [hl] at h; cases h
  | some _ => rfl
theorem Inv.injN (h : Inv s) {dir a b : ByteArray} {i : Nat} (ha : look s.names ⟨dir, a⟩ = some i) (hb : look s.names ⟨dir, b⟩ = some i) : a = b := by
  have := h.base.inj dir (waitsOf s dir).length
  rw [List.take_of_length_le (Nat.le_refl _)] at this
  rw [h.full] at ha hb
  exact this a b i ha hb
theorem Inv.madeN (h : Inv s) {q : Plc} {i : Nat} (hq : look s.names q = some i) : i ≤ s.made := by
  have hq2 : look s.names ⟨q.d, q.n⟩ = some i := hq
  rw [h.full] at hq2
  rcases look_takeAll_of hq2 with e | ⟨_, x, hx, e⟩
  · exact h.base.made.1 _ _ e
  · exact h.base.made.2 _ x hx i e
theorem Inv.dirsN (h : Inv s) {q : Plc} {i : Nat} (hq : look s.names q = some i) : isDirS s q.d = true := by
  have hq2 : look s.names ⟨q.d, q.n⟩ = some i := hq
  rw [h.full] at hq2
  rcases look_takeAll_of hq2 with e | ⟨_, x, hx, e⟩
  · exact h.base.dirs _ _ e
  · exact waits_dir hx
theorem Base.keep (h : Base s) (dir : ByteArray) (n : Nat) : Base (keepS s dir n) := by
  obtain ⟨hm, a, b⟩ := h.home
  have e1 : ∀ e, waitsOf (keepS s dir n) e = if e = dir then [] else waitsOf s e := fun e => waits_store _ _ _ _
  have e2 : ∀ e, isDirS (keepS s dir n) e = (decide (e = dir) || isDirS s e) := fun e => dir_store _ _ _ _
  have hd : ∀ q i, look (takeAll s.dur dir ((waitsOf s dir).take n)) q = some i → look s.dur q = some i ∨ (q.d = dir ∧ ∃ x ∈ waitsOf s dir, x.file = some i) := fun q i hq => (look_takeAll_of hq).imp id fun ⟨h1, x, hx, h2⟩ => ⟨h1, x, List.mem_of_mem_take hx, h2⟩
  have hw : ∀ e, ∀ st ∈ waitsOf (keepS s dir n) e, st ∈ waitsOf s e := fun e st hst => by
    rw [e1] at hst
    split at hst
    · cases hst
    · exact hst
  refine ⟨⟨hm, fun q i hq => ?_, fun e st hst => b e st (hw e st hst)⟩, ⟨fun q i hq => ?_, fun e st hst => h.made.2 e st (hw e st hst)⟩, fun q i hq => ?_, fun e k => ?_⟩
  · rcases hd q i hq with e | ⟨e, x, hx, e3⟩
    · exact a q i e
    · rw [e]; exact b dir x hx i e3
  · rcases hd q i hq with e | ⟨e, x, hx, e3⟩
    · exact h.made.1 q i e
    · exact h.made.2 dir x hx i e3
  · rw [e2]
    rcases hd q i hq with e | ⟨e, x, hx, e3⟩
    · rw [h.dirs q i e]; simp
    · simp [e]
  · rw [e1]
    by_cases he : e = dir
    · rw [if_pos he, List.take_nil, he]
      exact h.inj dir n
    · rw [if_neg he]
      have hn : ∀ m, look (keepS s dir n).dur ⟨e, m⟩ = look s.dur ⟨e, m⟩ := fun m => look_takeAll_far (q := ⟨e, m⟩) he _ _
      intro x y i hx hy
      rw [look_takeAll_near _ hn] at hx hy
      exact h.inj e k x y i hx hy
/-- A file that is nowhere. -/
def Fresh (s : Pf) (j : Nat) : Prop := (∀ q, look s.dur q ≠ some j) ∧ ∀ dir, ∀ st ∈ waitsOf s dir, st.file ≠ some j
theorem Inv.change (h : Inv s) {dir : ByteArray} {x : Stp} (hx : ∀ j, x.file = some j → j ≤ s.made ∧ ((∃ n, look s.names ⟨dir, n⟩ = some j) ∨ Fresh s j)) (hinj : InjAt (takeS s.names dir x) dir) : Inv (changeS s dir x) := by
  obtain ⟨hm, a, b⟩ := h.base.home
  have e1 : ∀ e, waitsOf (changeS s dir x) e = if e = dir then waitsOf s dir ++ [x] else waitsOf s e := fun e => waits_store _ _ _ _
  have e2 : ∀ e, isDirS (changeS s dir x) e = (decide (e = dir) || isDirS s e) := fun e => dir_store _ _ _ _
  have hnear : ∀ n, look s.names ⟨dir, n⟩ = look (takeAll s.dur dir (waitsOf s dir)) ⟨dir, n⟩ := h.full dir
  have hhome : ∃ hm' : Nat → ByteArray, (∀ q i, look s.dur q = some i → hm' i = q.d) ∧ (∀ d, ∀ st ∈ waitsOf s d, ∀ i, st.file = some i → hm' i = d) ∧ ∀ j, x.file = some j → hm' j = dir := by
    cases hf : x.file with
    | none => exact ⟨hm, a, b, fun j hj => by cases hj⟩
    | some j =>
      rcases (hx j hf).2 with ⟨n, hn⟩ | ⟨f1, f2⟩
      · refine ⟨hm, a, b, fun j' hj' => ?_⟩
        injection hj' with hj'; subst hj'
        rw [hnear] at hn
        rcases look_takeAll_of hn with e | ⟨_, y, hy, e⟩
        · exact a _ _ e
        · exact b dir y hy j e
      · refine ⟨fun m => if m = j then dir else hm m, fun q i hq => ?_, fun d st hst i hst2 => ?_, fun j' hj' => ?_⟩
        · have : i ≠ j := fun e => f1 q (by rw [hq, e])
          simp [this, a q i hq]
        · have : i ≠ j := fun e => f2 d st hst (by rw [hst2, e])
          simp [this, b d st hst i hst2]
        · injection hj' with hj'; simp [hj']
  obtain ⟨hm', a', b', c'⟩ := hhome
  have hw : ∀ e, ∀ st ∈ waitsOf (changeS s dir x) e, st ∈ waitsOf s e ∨ (e = dir ∧ st = x) := fun e st hst => by
    rw [e1] at hst
    split at hst
    · rename_i he
      rw [he]
      rcases List.mem_append.1 hst with hm | hm
      · exact .inl hm
      · exact .inr ⟨rfl, List.mem_singleton.1 hm⟩
    · exact .inl hst
  have hfull : ∀ n, look (takeAll s.dur dir (waitsOf s dir ++ [x])) ⟨dir, n⟩ = look (takeS s.names dir x) ⟨dir, n⟩ := fun n => by
    rw [takeAll_snoc]
    exact (look_takeS_near x hnear n).symm
  refine ⟨⟨⟨hm', a', fun e st hst i hi => ?_⟩, ⟨h.base.made.1, fun e st hst i hi => ?_⟩, fun q i hq => by rw [e2, h.base.dirs q i hq]; simp, fun e k => ?_⟩, fun e n => ?_⟩
  · rcases hw e st hst with hm | ⟨rfl, rfl⟩
    · exact b' e st hm i hi
    · exact c' i hi
  · rcases hw e st hst with hm | ⟨rfl, rfl⟩
    · exact h.base.made.2 e st hm i hi
    · exact (hx i hi).1
  · rw [e1]
    by_cases he : e = dir
    · rw [if_pos he, he]
      show InjAt (takeAll s.dur dir ((waitsOf s dir ++ [x]).take k)) dir
      rcases Nat.lt_or_ge (waitsOf s dir).length k with hk | hk
      · rw [List.take_of_length_le (by simp; omega)]
        intro p q i hp hq
        rw [hfull] at hp hq
        exact hinj p q i hp hq
      · rw [List.take_append_of_le_length hk]
        exact h.base.inj dir k
    · rw [if_neg he]; exact h.base.inj e k
  · rw [e1]
    by_cases he : e = dir
    · rw [if_pos he, he]
      exact (hfull n).symm
    · rw [if_neg he]
      exact (look_takeS_far (q := ⟨e, n⟩) he).trans (h.full e n)
theorem Inv.tick (h : Inv s) : Inv (tickS s) := h.set (tick_names s) (tick_dur s) (fun d => by unfold waitsOf; rw [tick_waits]) (fun d hd => by rw [tick_dir]; exact hd) (by rw [tick_made]; exact Nat.le_refl _)
theorem Inv.files (h : Inv s) (f : Nat → Fil) : Inv { s with files := f } := h.set rfl rfl (fun _ => rfl) (fun _ hd => hd) (Nat.le_refl _)
theorem Inv.crash (h : Inv s) (n : Int) : Inv { s with left := max n 0 } := h.set rfl rfl (fun _ => rfl) (fun _ hd => hd) (Nat.le_refl _)
theorem inv_new (room : Int) : Inv (newS room) := by
  have hw : ∀ d, waitsOf (newS room) d = [] := fun d => by
    show (look [(rootB, ([] : List Stp))] d).getD [] = []
    unfold look
    rw [List.find?_cons]
    split
    · rfl
    · rfl
  refine ⟨⟨⟨fun _ => rootB, fun q i hq => (by cases hq), fun d st hst => (by rw [hw] at hst; cases hst)⟩, ⟨fun q i hq => (by cases hq), fun d st hst => (by rw [hw] at hst; cases hst)⟩, fun q i hq => (by cases hq), fun d k a b i ha => ?_⟩, fun d n => by rw [hw]; rfl⟩
  rw [hw, List.take_nil] at ha; cases ha
theorem Inv.mkdir (h : Inv s) (path : ByteArray) : Inv (mkdirS s path) := by
  unfold mkdirS
  split
  · rename_i hr
    have hb0 : beginRes s (hasName path.data.toList) = 0 := Classical.byContradiction fun e => by
      unfold mkdirRes at hr; rw [if_pos e] at hr; exact e hr
    have hpb := path_back (begin_good hb0)
    have hnd : isDirS s path = false := by
      unfold mkdirRes at hr
      rw [if_neg (by rw [hb0]; simp)] at hr
      split at hr
      · omega
      · split at hr
        · omega
        · rename_i h2
          simp at h2
          exact h2.1
    have hnl : look s.waits path = none := by
      unfold isDirS at hnd
      cases hl : look s.waits path with
      | none => rfl
      | some _ => rw [hl] at hnd; cases hnd
    rw [hpb]
    refine h.tick.set rfl rfl (fun d => ?_) (fun d hd => ?_) (Nat.le_refl _)
    · have e1 : waitsOf { tickS s with waits := store s.waits path [] } d = if d = path then [] else waitsOf s d := waits_store _ _ _ _
      have e2 : waitsOf (tickS s) d = waitsOf s d := by unfold waitsOf; rw [tick_waits]
      rw [e1, e2]
      split
      · rename_i e
        rw [e]; unfold waitsOf; rw [hnl]; rfl
      · rfl
    · have e1 : isDirS { tickS s with waits := store s.waits path [] } d = (decide (d = path) || isDirS s d) := dir_store _ _ _ _
      rw [tick_dir] at hd
      rw [e1, hd]; simp
  · exact h.tick
theorem Inv.write (h : Inv s) (path t : ByteArray) : Inv (writeS s path t) := by
  by_cases hr : writeRes s path t = 0
  · cases hf : fileOf s path with
    | some j =>
      have e : writeS s path t = { tickS s with files := putFile s.files j ⟨t, (s.files j).d⟩ } := by
        unfold writeS; rw [if_neg (by rw [hr]; simp), hf]
      rw [e]; exact h.tick.files _
    | none =>
      rw [writeS_new hr hf]
      have hk : Inv { tickS s with made := s.made + 1, files := putFile s.files (s.made + 1) ⟨t, ⟨#[]⟩⟩ } := h.tick.set rfl rfl (fun _ => rfl) (fun _ hd => hd) (by rw [tick_made]; exact Nat.le_succ _)
      have hnn : ∀ q, look (tickS s).names q ≠ some (s.made + 1) := fun q hq => by rw [tick_names] at hq; have := h.madeN hq; omega
      refine hk.change (x := ⟨⟨#[]⟩, (plcOf path).n, some (s.made + 1)⟩) (fun j hj => ?_) (fun a b i ha hb => ?_)
      · injection hj with hj
        subst hj
        refine ⟨Nat.le_refl _, .inr ⟨fun q hq => ?_, fun d st hst hj => ?_⟩⟩
        · have := h.tick.base.made.1 q _ hq
          rw [tick_made] at this; omega
        · have := h.tick.base.made.2 d st hst _ hj
          rw [tick_made] at this; omega
      · have ha' := ha
        have hb' := hb
        rw [look_takeS] at ha hb
        dsimp only at ha hb
        have hnn2 : ∀ q, look { tickS s with made := s.made + 1, files := putFile s.files (s.made + 1) ⟨t, ⟨#[]⟩⟩ }.names q ≠ some (s.made + 1) := hnn
        by_cases e1 : (⟨(plcOf path).d, a⟩ : Plc) = ⟨(plcOf path).d, (plcOf path).n⟩
        · by_cases e2 : (⟨(plcOf path).d, b⟩ : Plc) = ⟨(plcOf path).d, (plcOf path).n⟩
          · have := e1.trans e2.symm
            injection this
          · rw [if_pos e1] at ha
            rw [if_neg e2] at hb
            injection ha with ha
            subst ha
            split at hb
            · cases hb
            · exact absurd hb (hnn2 _)
        · rw [if_neg e1] at ha
          split at ha
          · cases ha
          · by_cases e2 : (⟨(plcOf path).d, b⟩ : Plc) = ⟨(plcOf path).d, (plcOf path).n⟩
            · rw [if_pos e2] at hb
              injection hb with hb
              subst hb
              exact absurd ha (hnn2 _)
            · rw [if_neg e2] at hb
              split at hb
              · cases hb
              · exact hk.injN ha hb
  · have e : writeS s path t = tickS s := by unfold writeS; rw [if_pos hr]
    rw [e]; exact h.tick
theorem Inv.sync (h : Inv s) (path : ByteArray) : Inv (syncS s path) := by
  unfold syncS
  split
  · exact h.tick
  · exact h.tick.files _
theorem Inv.keepAll (h : Inv s) (dir : ByteArray) : Inv (keepS s dir (waitsOf s dir).length) := by
  have e1 : ∀ e, waitsOf (keepS s dir (waitsOf s dir).length) e = if e = dir then [] else waitsOf s e := fun e => waits_store _ _ _ _
  refine ⟨h.base.keep dir _, fun e n => ?_⟩
  rw [e1]
  show look s.names _ = look (takeAll (takeAll s.dur dir ((waitsOf s dir).take (waitsOf s dir).length)) e _) _
  rw [List.take_of_length_le (Nat.le_refl _)]
  by_cases he : e = dir
  · rw [if_pos he, he]; exact h.full dir n
  · rw [if_neg he, look_takeAll_near (waitsOf s e) (fun m => look_takeAll_far (q := ⟨e, m⟩) he _ _)]
    exact h.full e n
theorem Inv.syncDir (h : Inv s) (path : ByteArray) : Inv (syncDirS s path) := by
  unfold syncDirS
  split
  · exact h.tick
  · have e : waitsOf s path = waitsOf (tickS s) path := by unfold waitsOf; rw [tick_waits]
    rw [e]; exact h.tick.keepAll path
theorem Inv.rename (h : Inv s) (x y : ByteArray) : Inv (renameS s x y) := by
  unfold renameS
  split
  · exact h.tick
  · rename_i h0
    have hr : renameRes s x y = 0 := Classical.byContradiction fun e => h0 (.inl e)
    have hpp : plcOf x ≠ plcOf y := fun e => h0 (.inr e)
    have hb0 : beginRes s (hasName x.data.toList && hasName y.data.toList) = 0 := Classical.byContradiction fun e => e (by
      have := renameRes_n e; rw [hr] at this; exact this.symm)
    rw [renameRes_0 hb0] at hr
    split at hr
    · omega
    · unfold renTail at hr
      cases hf : fileOf s x with
      | none => rw [hf] at hr; simp at hr
      | some j =>
        rw [hf] at hr
        simp only [] at hr
        split at hr
        · omega
        · have ht := h.tick
          have hfx : look (tickS s).names ⟨(plcOf x).d, (plcOf x).n⟩ = some j := by rw [tick_names]; exact hf
          refine ht.change (fun i hi => ?_) (fun a b i ha hb => ?_)
          · injection hi with hi; subst hi
            exact ⟨ht.madeN hfx, .inl ⟨_, hfx⟩⟩
          · rw [look_takeS] at ha hb
            dsimp only at ha hb
            have key : ∀ c, look (tickS s).names ⟨(plcOf x).d, c⟩ = some j → c = (plcOf x).n := fun c hc => ht.injN hc hfx
            by_cases e1 : (⟨(plcOf x).d, a⟩ : Plc) = ⟨(plcOf x).d, (plcOf y).n⟩
            · by_cases e2 : (⟨(plcOf x).d, b⟩ : Plc) = ⟨(plcOf x).d, (plcOf y).n⟩
              · have := e1.trans e2.symm
                injection this
              · rw [if_pos e1] at ha
                rw [if_neg e2] at hb
                injection ha with ha
                subst ha
                split at hb
                · cases hb
                · rename_i e3
                  exact absurd (by rw [key b hb]) e3
            · rw [if_neg e1] at ha
              split at ha
              · cases ha
              · rename_i e3
                by_cases e2 : (⟨(plcOf x).d, b⟩ : Plc) = ⟨(plcOf x).d, (plcOf y).n⟩
                · rw [if_pos e2] at hb
                  injection hb with hb
                  subst hb
                  exact absurd (by rw [key a ha]) e3
                · rw [if_neg e2] at hb
                  split at hb
                  · cases hb
                  · exact ht.injN ha hb
theorem Inv.remove (h : Inv s) (path : ByteArray) : Inv (removeS s path) := by
  unfold removeS
  split
  · exact h.tick
  · refine h.tick.change (fun j hj => by cases hj) (fun a b i ha hb => ?_)
    rw [look_takeS] at ha hb
    dsimp only at ha hb
    split at ha
    · cases ha
    · split at hb
      · cases hb
      · exact h.tick.injN ha hb
theorem Base.mid : ∀ (ds : List ByteArray) (x : Pf × Nat), Base x.1 → Base (ds.foldl stepD x).1
  | [], _, h => h
  | d :: ds, x, h => Base.mid ds (stepD x d) (h.keep d _)
theorem mid_waits (e : ByteArray) : ∀ (ds : List ByteArray) (x : Pf × Nat), (e ∈ ds ∨ waitsOf x.1 e = []) → waitsOf (ds.foldl stepD x).1 e = []
  | [], x, h => by
    rcases h with h | h
    · cases h
    · exact h
  | d :: ds, x, h => by
    refine mid_waits e ds (stepD x d) ?_
    have e1 : waitsOf (stepD x d).1 e = if e = d then [] else waitsOf x.1 e := waits_store _ _ _ _
    rw [e1]
    by_cases he : e = d
    · rw [if_pos he]; exact .inr rfl
    · rw [if_neg he]
      rcases h with h | h
      · rcases List.mem_cons.1 h with h | h
        · exact absurd h he
        · exact .inl h
      · exact .inr h
theorem dirs_dirB {d : ByteArray} (h : isDirS s d = true) : d ∈ dirB s := by
  rw [dirB_I]
  unfold dirI
  unfold isDirS at h
  cases hl : look s.waits d with
  | none => rw [hl] at h; cases h
  | some xs =>
    refine List.mem_map.2 ⟨d.data.toList, (isort_perm _).mem_iff.2 (List.mem_map.2 ⟨(d, xs), look_mem hl, rfl⟩), by simp⟩
theorem mid_none (s : Pf) (choice : Int) (e : ByteArray) : waitsOf (midS s choice).1 e = [] := by
  refine mid_waits e _ _ ?_
  by_cases hd : isDirS s e = true
  · exact .inl (dirs_dirB hd)
  · right
    show waitsOf s e = []
    cases hw : waitsOf s e with
    | nil => rfl
    | cons st l => exact absurd (waits_dir (s := s) (dir := e) (st := st) (by rw [hw]; simp)) hd
theorem late_frame : ∀ (qs : List Plc) (x : Pf × Nat), (qs.foldl stepF x).1.names = x.1.names ∧ (qs.foldl stepF x).1.dur = x.1.dur ∧ (qs.foldl stepF x).1.waits = x.1.waits ∧ (qs.foldl stepF x).1.made = x.1.made ∧ (qs.foldl stepF x).1.room = x.1.room
  | [], _ => ⟨rfl, rfl, rfl, rfl, rfl⟩
  | q :: qs, x => by
    rw [List.foldl_cons]
    obtain ⟨h1, h2, h3, h4, h5⟩ := late_frame qs (stepF x q)
    have e : (stepF x q).1.names = x.1.names ∧ (stepF x q).1.dur = x.1.dur ∧ (stepF x q).1.waits = x.1.waits ∧ (stepF x q).1.made = x.1.made ∧ (stepF x q).1.room = x.1.room := by
      unfold stepF
      split <;> exact ⟨rfl, rfl, rfl, rfl, rfl⟩
    exact ⟨h1.trans e.1, h2.trans e.2.1, h3.trans e.2.2.1, h4.trans e.2.2.2.1, h5.trans e.2.2.2.2⟩
theorem Inv.reboot (h : Inv s) (choice : Int) : Inv (rebootS s choice) := by
  have hb : Base (midS s choice).1 := Base.mid _ _ h.base
  obtain ⟨h1, h2, h3, h4, _⟩ := late_frame (sortP ((midS s choice).1.dur.map (·.1))) (cloneS (midS s choice).1, (midS s choice).2)
  have hw : ∀ e, waitsOf (cloneS (midS s choice).1) e = [] := mid_none s choice
  have hc : Inv (cloneS (midS s choice).1) := by
    refine ⟨hb.set rfl (fun _ => rfl) (fun _ hd => hd) (Nat.le_refl _), fun e n => ?_⟩
    rw [hw e]; rfl
  exact hc.set h1 h2 (fun d => by unfold waitsOf; exact congrArg (fun z => (look z d).getD []) h3) (fun d hd => by unfold isDirS at hd ⊢; exact (congrArg (fun z => (look z d).isSome) h3).trans hd) (Nat.le_of_eq h4.symm)
/-- Written, synced, its directory synced: it is there for sure. -/
theorem Inv.kept (h : Inv s) {P b : ByteArray} (hPd : (plcOf P).d = rootB) (hr : writeRes s P b = 0) (hs : (findRes (writeS s P b) P).2 = 0) (hsd : findDirRes (syncS (writeS s P b) P) rootB = 0) : ∃ i, Kept (syncDirS (syncS (writeS s P b) P) rootB) P b i := by
  obtain ⟨w1, w2, w3, _, _⟩ := writeRes_ok hr
  have hnp : P ≠ (plcOf P).d := fun e => by rw [← e, w3] at w2; cases w2
  obtain ⟨t, ht⟩ : ∃ t, writeS s P b = t := ⟨_, rfl⟩
  have hcont : ∃ i, look t.names (plcOf P) = some i ∧ (t.files i).c = b ∧ isDirS t P = false := by
    rw [← ht]
    cases hf : fileOf s P with
    | some j =>
      have e : writeS s P b = { tickS s with files := putFile s.files j ⟨b, (s.files j).d⟩ } := by
        unfold writeS; rw [if_neg (by rw [hr]; simp), hf]
      rw [e]
      refine ⟨j, by show look (tickS s).names _ = _; rw [tick_names]; exact hf, by simp [putFile], ?_⟩
      show isDirS (tickS s) P = false
      rw [tick_dir]; exact w3
    | none =>
      rw [writeS_new hr hf]
      refine ⟨s.made + 1, ?_, by simp [putFile], ?_⟩
      · show look (store (strike (tickS s).names ⟨(plcOf P).d, ⟨#[]⟩⟩) (plcOf P) (s.made + 1)) (plcOf P) = _
        rw [look_store_same]
      · show (look (store (tickS s).waits (plcOf P).d _) P).isSome = false
        rw [look_store_other hnp]
        have := tick_dir s P
        unfold isDirS at this w3
        rw [this]; exact w3
  obtain ⟨i, hi, hci, hdi⟩ := hcont
  have hti : Inv t := by rw [← ht]; exact h.write P b
  rw [ht] at hs hsd ⊢
  obtain ⟨j, h1, h2, h3⟩ := findRes_some hs
  have hij : j = i := by
    have h2' : look t.names (plcOf P) = some j := h2
    rw [hi] at h2'; injection h2' with h2'; exact h2'.symm
  subst hij
  have e : syncS t P = { tickS t with files := putFile t.files j ⟨(t.files j).c, (t.files j).c⟩ } := by unfold syncS; rw [h1]
  obtain ⟨u, hu⟩ : ∃ u, syncS t P = u := ⟨_, rfl⟩
  rw [hu] at hsd e ⊢
  have hui : Inv u := by rw [← hu]; exact hti.sync P
  have hun : look u.names (plcOf P) = some j := by rw [e]; show look (tickS t).names _ = _; rw [tick_names]; exact hi
  have huf : u.files j = ⟨b, b⟩ := by rw [e]; simp [putFile, hci]
  have hud : isDirS u P = false := by
    rw [e]; show isDirS (tickS t) P = false
    rw [tick_dir]; exact hdi
  clear e hu
  have e : syncDirS u rootB = keepS (tickS u) rootB (waitsOf (tickS u) rootB).length := by
    unfold syncDirS; rw [if_neg (by rw [hsd]; simp)]
    congr 1
    unfold waitsOf; rw [tick_waits]
  rw [e]
  have hv := hui.tick
  have hvn : look (tickS u).names (plcOf P) = some j := by rw [tick_names]; exact hun
  have hvd : isDirS (tickS u) P = false := by rw [tick_dir]; exact hud
  have hvf : (tickS u).files j = ⟨b, b⟩ := by rw [tick_files]; exact huf
  obtain ⟨v, hve⟩ : ∃ v, tickS u = v := ⟨_, rfl⟩
  rw [hve] at hv hvn hvd hvf ⊢
  have hk := hv.keepAll rootB
  have e1 : ∀ d, waitsOf (keepS v rootB (waitsOf v rootB).length) d = if d = rootB then [] else waitsOf v d := fun d => waits_store _ _ _ _
  have e2 : ∀ d, isDirS (keepS v rootB (waitsOf v rootB).length) d = (decide (d = rootB) || isDirS v d) := fun d => dir_store _ _ _ _
  have hPr : P ≠ rootB := by rw [← hPd]; exact hnp
  have hkd : isDirS (keepS v rootB (waitsOf v rootB).length) P = false := by rw [e2, hvd]; simp [hPr]
  have hkn : look (keepS v rootB (waitsOf v rootB).length).names (plcOf P) = some j := hvn
  obtain ⟨z, hz⟩ : ∃ z, keepS v rootB (waitsOf v rootB).length = z := ⟨_, rfl⟩
  have hzf : z.files j = ⟨b, b⟩ := by rw [← hz]; exact hvf
  have hwr : waitsOf z rootB = [] := by rw [← hz, e1, if_pos rfl]
  rw [hz] at hk hkd hkn ⊢
  obtain ⟨hm, a, c⟩ := hk.base.home
  have hfr : ∀ n, look z.names ⟨rootB, n⟩ = look z.dur ⟨rootB, n⟩ := fun n => by rw [hk.full, hwr]; rfl
  have hPq : plcOf P = ⟨rootB, (plcOf P).n⟩ := by rw [← hPd]
  have hdn : look z.dur (plcOf P) = some j := by rw [hPq, ← hfr, ← hPq]; exact hkn
  have hmj : hm j = rootB := by rw [a _ _ hdn, hPd]
  have hmN : ∀ q, look z.names q = some j → q.d = rootB := fun q hq => by
    have hq2 : look z.names ⟨q.d, q.n⟩ = some j := hq
    rw [hk.full] at hq2
    rcases look_takeAll_of hq2 with e | ⟨_, y, hy, e⟩
    · exact (a _ _ e).symm.trans hmj
    · exact (c _ y hy j e).symm.trans hmj
  have hone : ∀ q, look z.names q = some j → q = plcOf P := fun q hq => by
    have hd := hmN q hq
    have hq2 : look z.names ⟨rootB, q.n⟩ = some j := by rw [← hd]; exact hq
    have := hk.injN hq2 (show look z.names ⟨rootB, (plcOf P).n⟩ = some j by rw [← hPq]; exact hkn)
    rw [hPq, ← this, ← hd]
  refine ⟨j, ⟨hkn, hone, fun q i' hq e => ?_⟩, ⟨hdn, fun q hq => ?_, fun q i' hq e => ?_⟩, hzf, fun d st hst => ⟨fun e => ?_, fun e => ?_, fun e => ?_⟩, hk.madeN hkn, hkd⟩
  · have := hk.dirsN hq; rw [e, hkd] at this; cases this
  · have hd : q.d = rootB := (a _ _ hq).symm.trans hmj
    refine hone q ?_
    have hq2 : look z.dur ⟨rootB, q.n⟩ = some j := by rw [← hd]; exact hq
    rw [← hfr, ← hd] at hq2; exact hq2
  · have := hk.base.dirs q i' hq; rw [e, hkd] at this; cases this
  · have hd : d = rootB := (c d st hst j e).symm.trans hmj
    rw [hd, hwr] at hst; cases hst
  · rw [hPd] at e; rw [e, hwr] at hst; cases hst
  · rw [hPd] at e; rw [e, hwr] at hst; cases hst
end
end Go.Proofs.YtdbcjiapbehacaaGreatDoor.Vp
