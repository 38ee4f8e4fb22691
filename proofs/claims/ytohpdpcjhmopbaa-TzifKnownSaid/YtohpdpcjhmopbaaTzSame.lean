/-
  Layer 6 (tzif): Same, the program's and the document's.
-/
import Derived.Test.YtohpdpcjhmopbaaTzMd
namespace Go.Proofs.Ytohpdpcjhmopbaa.Tz
open Go.RowKit

def eqL {α : Type} (e : α → α → Bool) : List α → List α → Bool
  | [], [] => true
  | a :: l, b :: m => e a b && eqL e l m
  | _, _ => false
theorem eqL_len {α : Type} {e : α → α → Bool} : ∀ {l m : List α}, l.length ≠ m.length → eqL e l m = false
  | [], [], h => absurd rfl h
  | [], _ :: _, _ => rfl
  | _ :: _, [], _ => rfl
  | a :: l, b :: m, h => by unfold eqL; rw [eqL_len (l := l) (m := m) (by simpa using h)]; simp
theorem eqL_no {α : Type} {e : α → α → Bool} : ∀ {l m : List α} {k : Nat} {a b : α}, l[k]? = some a → m[k]? = some b → e a b = false → eqL e l m = false
  | [], _, _, _, _, h, _, _ => by simp at h
  | _ :: _, [], _, _, _, _, h, _ => by simp at h
  | x :: l, y :: m, 0, a, b, h1, h2, h => by simp at h1 h2; subst h1; subst h2; unfold eqL; rw [h]; rfl
  | x :: l, y :: m, k + 1, a, b, h1, h2, h => by unfold eqL; rw [eqL_no (l := l) (m := m) (by simpa using h1) (by simpa using h2) h]; simp
theorem eqL_yes {α : Type} {e : α → α → Bool} : ∀ {l m : List α}, l.length = m.length → (∀ (k : Nat) (a b : α), l[k]? = some a → m[k]? = some b → e a b = true) → eqL e l m = true
  | [], [], _, _ => rfl
  | [], _ :: _, h, _ => by simp at h
  | _ :: _, [], h, _ => by simp at h
  | a :: l, b :: m, hl, h => by
    unfold eqL
    rw [h 0 a b rfl rfl, eqL_yes (by simpa using hl) fun k x y hx hy => h (k + 1) x y (by simpa using hx) (by simpa using hy)]; rfl
instance : DecidableEq ByteArray := inferInstance
def eqT (a b : Ty) : Bool := decide (a.off = b.off) && (a.dst == b.dst) && decide (a.abbr = b.abbr)
def eqI (a b : Int) : Bool := decide (a = b)
theorem ty_ext {x y : Ty} (h1 : x.off = y.off) (h2 : x.dst = y.dst) (h3 : x.abbr = y.abbr) : x = y := by
  obtain ⟨a, b, c⟩ := x
  obtain ⟨a', b', c'⟩ := y
  dsimp only at h1 h2 h3
  rw [h1, h2, h3]
theorem toList_ne {a b : ByteArray} (h : a ≠ b) : ¬ a.toList = b.toList := fun e => h (ByteArray.ext (Array.toList_inj.mp (by rw [← ByteArray.toList_eq, ← ByteArray.toList_eq]; exact e)))
theorem neq_ty_same (t : Ty) (W : World) : (binOp .neq 54 (.agg #[.int .i64 t.off, .bool t.dst, .string t.abbr]) (.agg #[.int .i64 t.off, .bool t.dst, .string t.abbr])).run Try.prog W = .ok (.bool false) W := by
  simp [go_sem]
theorem neq_rty_same (t : Ty) (W : World) : (binOp .neq 56 (.agg #[.int .i64 t.off, .bool t.dst, .string t.abbr]) (.agg #[.int .i64 t.off, .bool t.dst, .string t.abbr])).run Try.prog W = .ok (.bool false) W := by
  simp [go_sem]
set_option maxRecDepth 100000 in
set_option maxHeartbeats 1000000 in
theorem equalI_any (va vb : Value) (a b : List Int) (B : Nat) (w : World) (ha : Sl w B 1 va (a.map intCells)) (hb : Sl w B 1 vb (b.map intCells)) (la : a.length ≤ 1000000) :
    Calls Try.prog 37 #[va, vb] w fun e w' => e = .returned (.bool (eqL eqI a b)) ∧ ∃ m, w' = w.drewN m := by
  obtain ⟨A1, c1, rfl⟩ := ha.len
  obtain ⟨A2, c2, rfl⟩ := hb.len
  have HA := Lib.hid ha; have HB := Lib.hid hb
  obtain ⟨r, hr⟩ : ∃ r, eqL eqI a b = r := ⟨_, rfl⟩
  rw [hr]
  have HR := Lib.hid hr
  clear hr ha hb
  by_cases hl : a.length = b.length
  · have HL := Lib.hid hl
    have d1 : decide ((a.length : Int) = (b.length : Int)) = true := by simp [hl]
    have d2 : ((a.length : Int) == (b.length : Int)) = true := by simp [hl]
    have d3 : ((a.length : Int) != (b.length : Int)) = false := by simp [hl]
    clear hl
    go_enter Try.func37, Try.ntmps37
    go_wp2_with fail
    clear d1 d2 d3
    go_loopw [13] (fun i wr => ∃ k m : Nat, k ≤ a.length ∧ i = .int .i64 k ∧ (∀ (j : Nat) (x y : Int), j < k → a[j]? = some x → b[j]? = some y → eqI x y = true) ∧ wr = w.drewN m) (fun i _ => a.length - (intOf i).toNat)
    case atStart => exact ⟨0, 0, Nat.zero_le _, rfl, fun j x y hj => absurd hj (by omega), rfl⟩
    case round =>
      obtain ⟨k, m, hk, rfl, hall, rfl⟩ := hrel
      have HALL := Lib.hid hall
      clear hall
      by_cases hlt : k < a.length
      · have hk0 : (0 : Int) ≤ (k : Int) := by omega
        have hk1 : (k : Int) < (a.length : Int) := by omega
        have hk2 : (k : Int) < (b.length : Int) := by have := HL.out; omega
        obtain ⟨x, hx⟩ : ∃ x, a[k]? = some x := ⟨_, List.getElem?_eq_getElem hlt⟩
        obtain ⟨y, hy⟩ : ∃ y, b[k]? = some y := ⟨_, List.getElem?_eq_getElem (by have := HL.out; omega)⟩
        obtain ⟨g, off, c', hv, hg, k0⟩ := HA.out.one hx
        obtain ⟨g2, off2, c2', hv2, hg2, k2⟩ := HB.out.one hy
        injection hv with e1 _ e3
        subst e1; subst e3
        injection hv2 with e1 _ e3
        subst e1; subst e3
        have HX := Lib.hid hx; have HY := Lib.hid hy
        clear hx hy hg hg2
        by_cases hxy : x = y
        · subst hxy
          go_wp2_with fail
          go_quiet (fail)
          go_wp2_with fail
          exact ⟨⟨k + 1, m + nq, hlt, by go_num, fun j u v hj hu hv => by
            by_cases e : j = k
            · subst e
              rw [HX.out] at hu; rw [HY.out] at hv
              injection hu with hu; injection hv with hv
              subst hu; subst hv; unfold eqI; simp
            · exact HALL.out j u v (by omega) hu hv, rfl⟩, by simp [intOf]; omega⟩
        · have HE : Hid (eqI x y = false) := Lib.hid (by unfold eqI; simp [hxy])
          have b1 : decide (x = y) = false := by simp [hxy]
          have b2 : (x == y) = false := by simp [hxy]
          have b3 : (x != y) = true := by simp [hxy]
          clear hxy
          go_wp2_with fail
          go_quiet (fail)
          go_wp2_with fail
          go_ret
          exact ⟨by rw [← HR.out, eqL_no HX.out HY.out HE.out]; rfl, m + nq, by simp [World.drewN, Nat.add_assoc]⟩
      · have hk1 : ¬ (k : Int) < (a.length : Int) := by omega
        go_wp2_with fail
        go_ret
        refine ⟨?_, m, rfl⟩
        rw [← HR.out, eqL_yes HL.out fun j x y hx hy => HALL.out j x y (by have := (List.getElem?_eq_some_iff.1 hx).1; omega) hx hy]; rfl
  · have HE : Hid (r = false) := Lib.hid (by rw [← HR.out]; exact eqL_len hl)
    have d1 : decide ((a.length : Int) = (b.length : Int)) = false := by simp; omega
    have d2 : ((a.length : Int) == (b.length : Int)) = false := by simp; omega
    have d3 : ((a.length : Int) != (b.length : Int)) = true := by simp; omega
    clear hl
    go_enter Try.func37, Try.ntmps37
    go_wp2_with fail
    go_ret
    exact ⟨by rw [HE.out]; rfl, 0, rfl⟩
set_option maxRecDepth 100000 in
set_option maxHeartbeats 1000000 in
theorem equalN_any (va vb : Value) (a b : List Int) (B : Nat) (w : World) (ha : Sl w B 1 va (a.map intCells)) (hb : Sl w B 1 vb (b.map intCells)) (la : a.length ≤ 1000000) :
    Calls Try.prog 38 #[va, vb] w fun e w' => e = .returned (.bool (eqL eqI a b)) ∧ ∃ m, w' = w.drewN m := by
  obtain ⟨A1, c1, rfl⟩ := ha.len
  obtain ⟨A2, c2, rfl⟩ := hb.len
  have HA := Lib.hid ha; have HB := Lib.hid hb
  obtain ⟨r, hr⟩ : ∃ r, eqL eqI a b = r := ⟨_, rfl⟩
  rw [hr]
  have HR := Lib.hid hr
  clear hr ha hb
  by_cases hl : a.length = b.length
  · have HL := Lib.hid hl
    have d1 : decide ((a.length : Int) = (b.length : Int)) = true := by simp [hl]
    have d2 : ((a.length : Int) == (b.length : Int)) = true := by simp [hl]
    have d3 : ((a.length : Int) != (b.length : Int)) = false := by simp [hl]
    clear hl
    go_enter Try.func38, Try.ntmps38
    go_wp2_with fail
    clear d1 d2 d3
    go_loopw [13] (fun i wr => ∃ k m : Nat, k ≤ a.length ∧ i = .int .i64 k ∧ (∀ (j : Nat) (x y : Int), j < k → a[j]? = some x → b[j]? = some y → eqI x y = true) ∧ wr = w.drewN m) (fun i _ => a.length - (intOf i).toNat)
    case atStart => exact ⟨0, 0, Nat.zero_le _, rfl, fun j x y hj => absurd hj (by omega), rfl⟩
    case round =>
      obtain ⟨k, m, hk, rfl, hall, rfl⟩ := hrel
      have HALL := Lib.hid hall
      clear hall
      by_cases hlt : k < a.length
      · have hk0 : (0 : Int) ≤ (k : Int) := by omega
        have hk1 : (k : Int) < (a.length : Int) := by omega
        have hk2 : (k : Int) < (b.length : Int) := by have := HL.out; omega
        obtain ⟨x, hx⟩ : ∃ x, a[k]? = some x := ⟨_, List.getElem?_eq_getElem hlt⟩
        obtain ⟨y, hy⟩ : ∃ y, b[k]? = some y := ⟨_, List.getElem?_eq_getElem (by have := HL.out; omega)⟩
        obtain ⟨g, off, c', hv, hg, k0⟩ := HA.out.one hx
        obtain ⟨g2, off2, c2', hv2, hg2, k2⟩ := HB.out.one hy
        injection hv with e1 _ e3
        subst e1; subst e3
        injection hv2 with e1 _ e3
        subst e1; subst e3
        have HX := Lib.hid hx; have HY := Lib.hid hy
        clear hx hy hg hg2
        by_cases hxy : x = y
        · subst hxy
          go_wp2_with fail
          go_quiet (fail)
          go_wp2_with fail
          exact ⟨⟨k + 1, m + nq, hlt, by go_num, fun j u v hj hu hv => by
            by_cases e : j = k
            · subst e
              rw [HX.out] at hu; rw [HY.out] at hv
              injection hu with hu; injection hv with hv
              subst hu; subst hv; unfold eqI; simp
            · exact HALL.out j u v (by omega) hu hv, rfl⟩, by simp [intOf]; omega⟩
        · have HE : Hid (eqI x y = false) := Lib.hid (by unfold eqI; simp [hxy])
          have b1 : decide (x = y) = false := by simp [hxy]
          have b2 : (x == y) = false := by simp [hxy]
          have b3 : (x != y) = true := by simp [hxy]
          clear hxy
          go_wp2_with fail
          go_quiet (fail)
          go_wp2_with fail
          go_ret
          exact ⟨by rw [← HR.out, eqL_no HX.out HY.out HE.out]; rfl, m + nq, by simp [World.drewN, Nat.add_assoc]⟩
      · have hk1 : ¬ (k : Int) < (a.length : Int) := by omega
        go_wp2_with fail
        go_ret
        refine ⟨?_, m, rfl⟩
        rw [← HR.out, eqL_yes HL.out fun j x y hx hy => HALL.out j x y (by have := (List.getElem?_eq_some_iff.1 hx).1; omega) hx hy]; rfl
  · have HE : Hid (r = false) := Lib.hid (by rw [← HR.out]; exact eqL_len hl)
    have d1 : decide ((a.length : Int) = (b.length : Int)) = false := by simp; omega
    have d2 : ((a.length : Int) == (b.length : Int)) = false := by simp; omega
    have d3 : ((a.length : Int) != (b.length : Int)) = true := by simp; omega
    clear hl
    go_enter Try.func38, Try.ntmps38
    go_wp2_with fail
    go_ret
    exact ⟨by rw [HE.out]; rfl, 0, rfl⟩
set_option maxRecDepth 100000 in
set_option maxHeartbeats 1000000 in
theorem equalT_any (va vb : Value) (a b : List Ty) (B : Nat) (w : World) (ha : Sl w B 3 va (a.map tyCells)) (hb : Sl w B 3 vb (b.map tyCells)) (la : a.length ≤ 1000000) :
    Calls Try.prog 36 #[va, vb] w fun e w' => e = .returned (.bool (eqL eqT a b)) ∧ ∃ m, w' = w.drewN m := by
  obtain ⟨A1, c1, rfl⟩ := ha.len
  obtain ⟨A2, c2, rfl⟩ := hb.len
  have HA := Lib.hid ha; have HB := Lib.hid hb
  obtain ⟨r, hr⟩ : ∃ r, eqL eqT a b = r := ⟨_, rfl⟩
  rw [hr]
  have HR := Lib.hid hr
  clear hr ha hb
  by_cases hl : a.length = b.length
  · have HL := Lib.hid hl
    have d1 : decide ((a.length : Int) = (b.length : Int)) = true := by simp [hl]
    have d2 : ((a.length : Int) == (b.length : Int)) = true := by simp [hl]
    have d3 : ((a.length : Int) != (b.length : Int)) = false := by simp [hl]
    clear hl
    go_enter Try.func36, Try.ntmps36
    go_wp2_with fail
    clear d1 d2 d3
    go_loopw [13] (fun i wr => ∃ k m : Nat, k ≤ a.length ∧ i = .int .i64 k ∧ (∀ (j : Nat) (x y : Ty), j < k → a[j]? = some x → b[j]? = some y → eqT x y = true) ∧ wr = w.drewN m) (fun i _ => a.length - (intOf i).toNat)
    case atStart => exact ⟨0, 0, Nat.zero_le _, rfl, fun j x y hj => absurd hj (by omega), rfl⟩
    case round =>
      obtain ⟨k, m, hk, rfl, hall, rfl⟩ := hrel
      have HALL := Lib.hid hall
      clear hall
      by_cases hlt : k < a.length
      · have hk0 : (0 : Int) ≤ (k : Int) := by omega
        have hk1 : (k : Int) < (a.length : Int) := by omega
        have hk2 : (k : Int) < (b.length : Int) := by have := HL.out; omega
        obtain ⟨x, hx⟩ : ∃ x, a[k]? = some x := ⟨_, List.getElem?_eq_getElem hlt⟩
        obtain ⟨y, hy⟩ : ∃ y, b[k]? = some y := ⟨_, List.getElem?_eq_getElem (by have := HL.out; omega)⟩
        obtain ⟨g, off, c', hv, hg, k0, k01, k02⟩ := HA.out.ty hx
        obtain ⟨g2, off2, c2', hv2, hg2, k2, k21, k22⟩ := HB.out.ty hy
        injection hv with e1 _ e3
        subst e1; subst e3
        injection hv2 with e1 _ e3
        subst e1; subst e3
        have HX := Lib.hid hx; have HY := Lib.hid hy
        clear hx hy hg hg2
        by_cases ho : x.off = y.off
        · by_cases hd : x.dst = y.dst
          · by_cases hs : x.abbr = y.abbr
            · have hxy : x = y := ty_ext ho hd hs
              subst hxy
              have hne := neq_ty_same x
              clear ho hd hs
              go_wp2_with fail
              go_quiet (fail)
              go_wp2_with fail
              exact ⟨⟨k + 1, m + nq, hlt, by go_num, fun j u v hj hu hv => by
                by_cases e : j = k
                · subst e
                  rw [HX.out] at hu; rw [HY.out] at hv
                  injection hu with hu; injection hv with hv
                  subst hu; subst hv; unfold eqT; simp
                · exact HALL.out j u v (by omega) hu hv, rfl⟩, by simp [intOf]; omega⟩

            · have HE : Hid (eqT x y = false) := Lib.hid (by unfold eqT; simp [hs])
              have b1 := toList_ne hs
              have b2 : decide (x.abbr.toList = y.abbr.toList) = false := decide_eq_false b1
              rw [← hd] at k21
              rw [← ho] at k2
              clear ho hd hs
              go_wp2_with fail
              go_quiet (fail)
              go_wp2_with fail
              go_ret
              exact ⟨by rw [← HR.out, eqL_no HX.out HY.out HE.out]; rfl, m + nq, by simp [World.drewN, Nat.add_assoc]⟩

          · have HE : Hid (eqT x y = false) := Lib.hid (by unfold eqT; simp [hd])
            have b1 : decide (x.dst = y.dst) = false := by simp [hd]
            have b2 : (x.dst == y.dst) = false := by simp [hd]
            rw [← ho] at k2
            clear ho hd
            go_wp2_with fail
            go_quiet (fail)
            go_wp2_with fail
            go_ret
            exact ⟨by rw [← HR.out, eqL_no HX.out HY.out HE.out]; rfl, m + nq, by simp [World.drewN, Nat.add_assoc]⟩

        · have HE : Hid (eqT x y = false) := Lib.hid (by unfold eqT; simp [ho])
          have b1 : decide (x.off = y.off) = false := by simp [ho]
          have b2 : (x.off == y.off) = false := by simp [ho]
          clear ho
          go_wp2_with fail
          go_quiet (fail)
          go_wp2_with fail
          go_ret
          exact ⟨by rw [← HR.out, eqL_no HX.out HY.out HE.out]; rfl, m + nq, by simp [World.drewN, Nat.add_assoc]⟩
      · have hk1 : ¬ (k : Int) < (a.length : Int) := by omega
        go_wp2_with fail
        go_ret
        refine ⟨?_, m, rfl⟩
        rw [← HR.out, eqL_yes HL.out fun j x y hx hy => HALL.out j x y (by have := (List.getElem?_eq_some_iff.1 hx).1; omega) hx hy]; rfl
  · have HE : Hid (r = false) := Lib.hid (by rw [← HR.out]; exact eqL_len hl)
    have d1 : decide ((a.length : Int) = (b.length : Int)) = false := by simp; omega
    have d2 : ((a.length : Int) == (b.length : Int)) = false := by simp; omega
    have d3 : ((a.length : Int) != (b.length : Int)) = true := by simp; omega
    clear hl
    go_enter Try.func36, Try.ntmps36
    go_wp2_with fail
    go_ret
    exact ⟨by rw [HE.out]; rfl, 0, rfl⟩
end Go.Proofs.Ytohpdpcjhmopbaa.Tz
