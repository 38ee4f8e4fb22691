/-
  TzKb, TzKc, TzKd, TzKe, TzKg, one behind the other.
-/
import Derived.Test.YtohpdpcjhmopbaaTzKa
import Derived.Test.YtohpdpcjhmopbaaTzBs
import Derived.RegionTactic
import Derived.ChangeAlike
import Derived.Test.YtohpdpcjhmopbaaTzPerm
/-! Layer 6 (tzif): Parse of any bytes, as one plain function. -/
namespace Go.Proofs.Ytohpdpcjhmopbaa.Tz
open Go.RowKit

/-- The zone of a block. -/
def blockZ (h : Hd) (wd : Nat) (val : List Nat → Int) (l : List Nat) : Option Zn :=
  if mayB h = true ∧ longN h wd ≤ l.length then (tysOf (lettersL h wd l) (rowsL h wd l)).map fun tys => ⟨tys, timesL h wd val l, indexL h wd l, ⟨#[]⟩⟩ else none
/-- The bytes behind the first head and block. -/
def behind1 (l : List Nat) : List Nat := (l.drop 44).drop (longN (hdOf l) 4)
/-- What a file tells, whether it is right or not. -/
def parseZ (l : List Nat) : Option Zn :=
  if hdGood l = true then
    if l.getD 4 0 = 0 then (if (l.drop 44).length = longN (hdOf l) 4 then blockZ (hdOf l) 4 val4 (l.drop 44) else none)
    else if longN (hdOf l) 4 ≤ (l.drop 44).length ∧ hdGood (behind1 l) = true ∧ (behind1 l).getD 4 0 = l.getD 4 0 then
      (blockZ (hdOf (behind1 l)) 8 val8 ((behind1 l).drop 44)).bind fun z => (footT (((behind1 l).drop 44).drop (longN (hdOf (behind1 l)) 8))).map fun t => { z with footer := strOfNums (natsI t) }
    else none
  else none
def parseR (l : List Nat) : Option Zn := (parseZ l).bind fun z => if rightZ z = true then some z else none
theorem blockZ_some {h : Hd} {wd : Nat} {val : List Nat → Int} {l : List Nat} {z : Zn} (hz : blockZ h wd val l = some z) : mayB h = true ∧ longN h wd ≤ l.length ∧ tysOf (lettersL h wd l) (rowsL h wd l) = some z.types ∧ timesL h wd val l = z.times ∧ indexL h wd l = z.index ∧ z.footer = ⟨#[]⟩ := by
  unfold blockZ at hz
  split at hz
  · rename_i hc
    cases ht : tysOf (lettersL h wd l) (rowsL h wd l) with
    | none => rw [ht] at hz; cases hz
    | some tys =>
      rw [ht] at hz
      have e : Zn.mk tys (timesL h wd val l) (indexL h wd l) ⟨#[]⟩ = z := by simpa using hz
      subst e
      exact ⟨hc.1, hc.2, rfl, rfl, rfl, rfl⟩
  · cases hz
theorem tyOf_small {L : List Nat} {r : Rw} {t : Ty} (h : tyOf L r = some t) : t.abbr.size ≤ L.length := by
  unfold tyOf at h
  split at h
  · unfold lettersV at h
    split at h
    · have e : Ty.mk r.off (decide (r.dst = 1)) (strOfNums (natsI (till0 (L.drop r.place.toNat)))) = t := by simpa using h
      rw [← e]
      show (strOfNums _).size ≤ _
      rw [strOfNums_size]
      have h1 := till0_len (L.drop r.place.toNat)
      rw [List.length_drop] at h1
      unfold natsI
      rw [List.length_map]
      omega
    · simp at h
  · cases h
theorem tysOf_small {L : List Nat} : ∀ {rs : List Rw} {ts : List Ty}, tysOf L rs = some ts → ts.length = rs.length ∧ ∀ t ∈ ts, t.abbr.size ≤ L.length
  | [], ts, h => by
    have e : [] = ts := by simpa [tysOf] using h
    subst e
    exact ⟨rfl, fun t ht => by cases ht⟩
  | r :: rs, ts, h => by
    unfold tysOf at h
    cases h1 : tyOf L r with
    | none => rw [h1] at h; cases h
    | some t =>
      cases h2 : tysOf L rs with
      | none => rw [h1, h2] at h; cases h
      | some ts' =>
        rw [h1, h2] at h
        have e : t :: ts' = ts := by simpa using h
        subst e
        obtain ⟨a, b⟩ := tysOf_small h2
        exact ⟨by simp [a], fun x hx => by
          rcases List.mem_cons.1 hx with rfl | hx
          · exact tyOf_small h1
          · exact b x hx⟩
theorem blockZ_ok {h : Hd} {wd : Nat} {val : List Nat → Int} {l : List Nat} {z : Zn} (hz : blockZ h wd val l = some z) (f : ByteArray) (hf : f.size ≤ 9223372036854775807) : ZnOk { z with footer := f } := by
  obtain ⟨h1, _, h3, h4, h5, _⟩ := blockZ_some hz
  obtain ⟨t1, t2, t3, _⟩ := may_small h1
  obtain ⟨a, b⟩ := tysOf_small h3
  refine ⟨?_, ?_, ?_, ?_, hf⟩
  · show z.types.length ≤ _
    rw [a]; unfold rowsL; rw [rws_len]; omega
  · show z.times.length ≤ _
    rw [← h4]; unfold timesL; rw [vals_len]; omega
  · show z.index.length ≤ _
    rw [← h5]; unfold indexL; rw [vals_len]; omega
  · intro t ht
    have := b t ht
    have hl : (lettersL h wd l).length ≤ h.letters := by unfold lettersL; rw [List.length_take]; omega
    omega
theorem block8_any (h : Hd) (l : List Nat) (B g : Nat) (m : Int) (V : World) (hr : Rd V B g l) (ho : HdOk h) (hb : ∀ b ∈ l, b < 256) (hB : 0 < B) (h0 : V.cell? ⟨0, 0, none⟩ = some (.int .i64 m)) :
    Calls Try.prog 45 #[.pointer (some ⟨g, 0, none⟩), hdVal h, .int .i64 8] V fun e w' => (blockZ h 8 val8 l = none → e = .returned (.tuple #[noZone, .bool false])) ∧ (∀ z, blockZ h 8 val8 l = some z → ∃ vt vs vi, e = .returned (.tuple #[.agg #[vt, vs, vi, .string ⟨#[]⟩], .bool true]) ∧ ZnOwn w' (V.heap.size + 2) z vt vs vi ∧ Rd w' B g (l.drop (longN h 8))) ∧ V.grownBy w' (some g) := by
  cases hm : mayB h with
  | false => exact (block_a h 8 g V hm).mono fun e w' ⟨he, hbl⟩ => ⟨fun _ => he, fun z hz => (by rw [(blockZ_some hz).1] at hm; cases hm), gb_below (World.grownBy.refl _ _) hbl⟩
  | true =>
    by_cases hl : longN h 8 ≤ l.length
    · refine (block_8 h l B g m V hr ho hm hl hb hB h0).mono ?_
      rintro e w' ⟨h1, h2, h3⟩
      have e0 : blockZ h 8 val8 l = (tysOf (lettersL h 8 l) (rowsL h 8 l)).map fun tys => ⟨tys, timesL h 8 val8 l, indexL h 8 l, ⟨#[]⟩⟩ := by unfold blockZ; rw [if_pos ⟨hm, hl⟩]
      rw [e0]
      refine ⟨fun hn => h1 (by simpa using hn), fun z hz => ?_, h3⟩
      cases ht : tysOf (lettersL h 8 l) (rowsL h 8 l) with
      | none => rw [ht] at hz; cases hz
      | some tys =>
        rw [ht] at hz
        have e : Zn.mk tys (timesL h 8 val8 l) (indexL h 8 l) ⟨#[]⟩ = z := by simpa using hz
        subst e
        exact h2 tys ht
    · exact (block_b h 8 l B g V hr (.inr rfl) ho hm (by omega)).mono fun e w' ⟨he, hbl⟩ => ⟨fun _ => he, fun z hz => absurd (blockZ_some hz).2.1 hl, gb_below (World.grownBy.refl _ _) hbl⟩
theorem block4_any (h : Hd) (l : List Nat) (B g : Nat) (m : Int) (V : World) (hr : Rd V B g l) (ho : HdOk h) (hb : ∀ b ∈ l, b < 256) (hB : 0 < B) (h0 : V.cell? ⟨0, 0, none⟩ = some (.int .i64 m)) :
    Calls Try.prog 45 #[.pointer (some ⟨g, 0, none⟩), hdVal h, .int .i64 4] V fun e w' => (blockZ h 4 val4 l = none → e = .returned (.tuple #[noZone, .bool false])) ∧ (∀ z, blockZ h 4 val4 l = some z → ∃ vt vs vi, e = .returned (.tuple #[.agg #[vt, vs, vi, .string ⟨#[]⟩], .bool true]) ∧ ZnOwn w' (V.heap.size + 2) z vt vs vi ∧ Rd w' B g (l.drop (longN h 4))) ∧ V.grownBy w' (some g) := by
  cases hm : mayB h with
  | false => exact (block_a h 4 g V hm).mono fun e w' ⟨he, hbl⟩ => ⟨fun _ => he, fun z hz => (by rw [(blockZ_some hz).1] at hm; cases hm), gb_below (World.grownBy.refl _ _) hbl⟩
  | true =>
    by_cases hl : longN h 4 ≤ l.length
    · refine (block_4 h l B g m V hr ho hm hl hb hB h0).mono ?_
      rintro e w' ⟨h1, h2, h3⟩
      have e0 : blockZ h 4 val4 l = (tysOf (lettersL h 4 l) (rowsL h 4 l)).map fun tys => ⟨tys, timesL h 4 val4 l, indexL h 4 l, ⟨#[]⟩⟩ := by unfold blockZ; rw [if_pos ⟨hm, hl⟩]
      rw [e0]
      refine ⟨fun hn => h1 (by simpa using hn), fun z hz => ?_, h3⟩
      cases ht : tysOf (lettersL h 4 l) (rowsL h 4 l) with
      | none => rw [ht] at hz; cases hz
      | some tys =>
        rw [ht] at hz
        have e : Zn.mk tys (timesL h 4 val4 l) (indexL h 4 l) ⟨#[]⟩ = z := by simpa using hz
        subst e
        exact h2 tys ht
    · exact (block_b h 4 l B g V hr (.inl rfl) ho hm (by omega)).mono fun e w' ⟨he, hbl⟩ => ⟨fun _ => he, fun z hz => absurd (blockZ_some hz).2.1 hl, gb_below (World.grownBy.refl _ _) hbl⟩
/-- What parse answers. -/
def ParseP (l : List Nat) (V : World) (g : Nat) (e : Ending) (w' : World) : Prop :=
  (parseZ l = none → ∃ A1 n1 c1 A2 n2 c2 A3 n3 c3 F, e = .returned (.tuple #[.agg #[.slice A1 n1 c1, .slice A2 n2 c2, .slice A3 n3 c3, .string F], .bool false])) ∧ (∀ z, parseZ l = some z → ∃ vt vs vi, e = .returned (.tuple #[.agg #[vt, vs, vi, .string z.footer], .bool true]) ∧ ZnOwn w' (V.heap.size + 1) z vt vs vi) ∧ V.grownBy w' (some g)
theorem parseP_no {l : List Nat} {V : World} {g : Nat} (hn : parseZ l = none) {e : Ending} {w' : World} (h : e = .returned (.tuple #[noZone, .bool false]) ∧ V.grownBy w' (some g)) : ParseP l V g e w' :=
  ⟨fun _ => ⟨none, 0, 0, none, 0, 0, none, 0, 0, ⟨#[]⟩, h.1⟩, (fun z hz => by rw [hn] at hz; cases hz), h.2⟩
theorem parse_any (l : List Nat) (B g : Nat) (m : Int) (V : World) (hr : Rd V B g l) (hb : ∀ b ∈ l, b < 256) (hB : 0 < B) (h0 : V.cell? ⟨0, 0, none⟩ = some (.int .i64 m)) :
    Calls Try.prog 39 #[.pointer (some ⟨g, 0, none⟩)] V fun e w' => ParseP l V g e w' := by
  cases hq : hdGood l with
  | false => exact (parse_a l B g V hr hb hq).mono fun e w' h => parseP_no (by unfold parseZ; rw [hq]; rfl) h
  | true =>
    by_cases hv : l.getD 4 0 = 0
    · have e1 : parseZ l = if (l.drop 44).length = longN (hdOf l) 4 then blockZ (hdOf l) 4 val4 (l.drop 44) else none := by unfold parseZ; rw [if_pos hq, if_pos hv]
      cases hz : blockZ (hdOf l) 4 val4 (l.drop 44) with
      | none =>
        refine (parse_g l _ B g m V hr hB h0 hb hq hv rfl fun U hU hU0 => ?_).mono fun e w' h => parseP_no (by rw [e1, hz]; simp) h
        exact (block4_any (hdOf l) _ B g m U hU (hdOk_bytes hb) (drop_byt hb _) hB hU0).mono fun e w' ⟨h1, _, h3⟩ => ⟨h1 hz, h3⟩
      | some z =>
        refine (parse_f l _ ((l.drop 44).drop (longN (hdOf l) 4)) B g m V hr hB h0 hb hq hv rfl z fun U hU hU0 => ?_).mono ?_
        · exact (block4_any (hdOf l) _ B g m U hU (hdOk_bytes hb) (drop_byt hb _) hB hU0).mono fun e w' ⟨_, h2, h3⟩ => by
            obtain ⟨vt, vs, vi, he, hzo, hrd⟩ := h2 z hz
            exact ⟨vt, vs, vi, he, hzo, hrd, h3⟩
        · rintro e w' ⟨vt, vs, vi, he, hzo, hg⟩
          obtain ⟨_, hle, _, _, _, hft⟩ := blockZ_some hz
          rw [List.length_drop] at he
          obtain ⟨l2, e2⟩ : ∃ l2, l.drop 44 = l2 := ⟨_, rfl⟩
          rw [e2] at he e1 hz hle
          by_cases hl : l2.length = longN (hdOf l) 4
          · rw [if_pos hl, hz] at e1
            refine ⟨fun hn => (by rw [e1] at hn; cases hn), fun z' hz' => ?_, hg⟩
            rw [e1] at hz'
            have e2' : z = z' := by simpa using hz'
            subst e2'
            have e3 : ({ z with footer := ⟨#[]⟩ } : Zn) = z := by cases z; simp at hft; subst hft; rfl
            rw [e3] at hzo
            rw [decide_eq_true (by omega)] at he
            exact ⟨vt, vs, vi, by rw [hft]; exact he, hzo⟩
          · rw [if_neg hl] at e1
            rw [decide_eq_false (by omega)] at he
            obtain ⟨A1, c1, rfl⟩ := hzo.types.form
            obtain ⟨A2, c2, rfl⟩ := hzo.times.form
            obtain ⟨A3, c3, rfl⟩ := hzo.index.form
            exact ⟨fun _ => ⟨A1, _, c1, A2, _, c2, A3, _, c3, ⟨#[]⟩, he⟩, (fun z' hz' => by rw [e1] at hz'; cases hz'), hg⟩
    · have e1 : parseZ l = if longN (hdOf l) 4 ≤ (l.drop 44).length ∧ hdGood (behind1 l) = true ∧ (behind1 l).getD 4 0 = l.getD 4 0 then (blockZ (hdOf (behind1 l)) 8 val8 ((behind1 l).drop 44)).bind fun z => (footT (((behind1 l).drop 44).drop (longN (hdOf (behind1 l)) 8))).map fun t => { z with footer := strOfNums (natsI t) } else none := by unfold parseZ; rw [if_pos hq, if_neg hv]
      by_cases hl : longN (hdOf l) 4 ≤ (l.drop 44).length
      · have hbb : ∀ b ∈ behind1 l, b < 256 := drop_byt (drop_byt hb _) _
        cases hq2 : hdGood (behind1 l) with
        | false => exact (parse_c l B g V hr hb hq hv (hdOk_bytes hb) hl hq2).mono fun e w' h => parseP_no (by rw [e1, if_neg]; rintro ⟨_, h2, _⟩; rw [hq2] at h2; cases h2) h
        | true =>
          by_cases hv2 : (behind1 l).getD 4 0 = l.getD 4 0
          · rw [if_pos ⟨hl, hq2, hv2⟩] at e1
            cases hz : blockZ (hdOf (behind1 l)) 8 val8 ((behind1 l).drop 44) with
            | none =>
              refine (parse_d l _ B g m V hr hB h0 hb hq hv (hdOk_bytes hb) hl hq2 hv2 rfl fun U hU hU0 => ?_).mono fun e w' h => parseP_no (by rw [e1, hz]; rfl) h
              exact (block8_any _ _ B g m U hU (hdOk_bytes hbb) (drop_byt hbb _) hB hU0).mono fun e w' ⟨h1, _, h3⟩ => ⟨h1 hz, h3⟩
            | some z =>
              obtain ⟨F, fb, hf, hfz⟩ : ∃ F fb, footV (footT (((behind1 l).drop 44).drop (longN (hdOf (behind1 l)) 8))) = .tuple #[.string F, .bool fb] ∧ ((fb = false ∧ parseZ l = none) ∨ (fb = true ∧ parseZ l = some { z with footer := F })) := by
                rw [e1, hz]
                cases footT (((behind1 l).drop 44).drop (longN (hdOf (behind1 l)) 8)) with
                | none => exact ⟨⟨#[]⟩, false, rfl, .inl ⟨rfl, rfl⟩⟩
                | some t => exact ⟨strOfNums (natsI t), true, rfl, .inr ⟨rfl, rfl⟩⟩
              refine (parse_e l _ _ B g m V hr hB h0 hb hq hv (hdOk_bytes hb) hl hq2 hv2 rfl z F fb hf fun U hU hU0 => ?_).mono ?_
              · exact (block8_any _ _ B g m U hU (hdOk_bytes hbb) (drop_byt hbb _) hB hU0).mono fun e w' ⟨_, h2, h3⟩ => by
                  obtain ⟨vt, vs, vi, he, hzo, hrd⟩ := h2 z hz
                  exact ⟨vt, vs, vi, he, hzo, hrd, h3⟩
              · rintro e w' ⟨vt, vs, vi, he, hzo, hg⟩
                rcases hfz with ⟨rfl, hp⟩ | ⟨rfl, hp⟩
                · obtain ⟨A1, c1, rfl⟩ := hzo.types.form
                  obtain ⟨A2, c2, rfl⟩ := hzo.times.form
                  obtain ⟨A3, c3, rfl⟩ := hzo.index.form
                  exact ⟨fun _ => ⟨A1, _, c1, A2, _, c2, A3, _, c3, F, he⟩, (fun z' hz' => by rw [hp] at hz'; cases hz'), hg⟩
                · refine ⟨fun hn => (by rw [hp] at hn; cases hn), fun z' hz' => ?_, hg⟩
                  rw [hp] at hz'
                  have e2 : ({ z with footer := F } : Zn) = z' := by simpa using hz'
                  subst e2
                  exact ⟨vt, vs, vi, he, hzo⟩
          · exact (parse_v l _ B g m V hr hB h0 hb hq hv (hdOk_bytes hb) hl hq2 hv2 rfl).mono fun e w' h => parseP_no (by rw [e1, if_neg]; rintro ⟨_, _, h3⟩; exact hv2 h3) h
      · exact (parse_b l B g V hr hb hq hv (hdOk_bytes hb) (by omega)).mono fun e w' h => parseP_no (by rw [e1, if_neg]; rintro ⟨h1, _⟩; exact hl h1) h
theorem parseZ_ok {l : List Nat} (hl : l.length ≤ 9223372036854775807) {z : Zn} (hz : parseZ l = some z) : ZnOk z := by
  unfold parseZ at hz
  split at hz
  · split at hz
    · split at hz
      · have := blockZ_ok hz ⟨#[]⟩ (by show (0 : Nat) ≤ _; omega)
        have hf := (blockZ_some hz).2.2.2.2.2
        cases z
        simp at hf
        subst hf
        exact this
      · cases hz
    · split at hz
      · cases hb : blockZ (hdOf (behind1 l)) 8 val8 ((behind1 l).drop 44) with
        | none => rw [hb] at hz; cases hz
        | some y =>
          rw [hb] at hz
          cases hf : footT (((behind1 l).drop 44).drop (longN (hdOf (behind1 l)) 8)) with
          | none =>
            rw [Option.bind_some, hf] at hz
            cases hz
          | some t =>
            rw [Option.bind_some, hf] at hz
            have e : ({ y with footer := strOfNums (natsI t) } : Zn) = z := by simpa using hz
            rw [← e]
            refine blockZ_ok hb _ ?_
            rw [strOfNums_size]
            unfold natsI
            rw [List.length_map]
            have hlt : t.length ≤ l.length := by
              unfold footT at hf
              split at hf
              · have e2 : ((((behind1 l).drop 44).drop (longN (hdOf (behind1 l)) 8)).drop 1).take ((((behind1 l).drop 44).drop (longN (hdOf (behind1 l)) 8)).length - 2) = t := by simpa using hf
                rw [← e2]
                unfold behind1
                simp only [List.length_take, List.length_drop]
                omega
              · cases hf
            omega
      · cases hz
  · cases hz
/-- What Parse answers. -/
theorem Parse_any (l : List Nat) (A : Option Addr) (n c : Nat) (m : Int) (w : World) (h : SB w w.heap.size A n c l) (hb : ∀ b ∈ l, b < 256) (h1 : 0 < w.heap.size) (h0 : w.cell? ⟨0, 0, none⟩ = some (.int .i64 m)) :
    Calls Try.prog 19 #[.slice A n c] w fun e w' => (parseR l = none → e = .returned (.tuple #[noZone, .int .i64 60])) ∧ (∀ z, parseR l = some z → ∃ vt vs vi, e = .returned (.tuple #[.agg #[vt, vs, vi, .string z.footer], .int .i64 0]) ∧ ZnOwn w' (w.heap.size + 1) z vt vs vi) ∧ Below w.heap.size w w' := by
  have hl : l.length ≤ 9223372036854775807 := by have := h.1; have := h.2.1; have := h.2.2.1; omega
  cases hz : parseZ l with
  | none =>
    have e : parseR l = none := by unfold parseR; rw [hz]; rfl
    refine (Parse_no l _ A n c m w h (Nat.le_refl _) h1 h0 fun U g hU hU0 => ?_).mono fun e' w' ⟨he, hbl⟩ => ⟨fun _ => he, (fun z hz' => by rw [e] at hz'; cases hz'), hbl⟩
    exact (parse_any l _ g m U hU hb h1 hU0).mono fun e' w' ⟨a, _, c⟩ => by
      obtain ⟨A1, n1, c1, A2, n2, c2, A3, n3, c3, F, he⟩ := a hz
      exact ⟨A1, n1, c1, A2, n2, c2, A3, n3, c3, F, he, c⟩
  | some z =>
    have ho := parseZ_ok hl hz
    have hp : ∀ V g, Rd V w.heap.size g l → V.cell? ⟨0, 0, none⟩ = some (.int .i64 m) → Calls Try.prog 39 #[.pointer (some ⟨g, 0, none⟩)] V fun e w' => ∃ vt vs vi, e = .returned (.tuple #[.agg #[vt, vs, vi, .string z.footer], .bool true]) ∧ ZnOwn w' (V.heap.size + 1) z vt vs vi ∧ V.grownBy w' (some g) := fun U g hU hU0 =>
      (parse_any l _ g m U hU hb h1 hU0).mono fun e' w' ⟨_, b, c⟩ => by
        obtain ⟨vt, vs, vi, he, hzo⟩ := b z hz
        exact ⟨vt, vs, vi, he, hzo, c⟩
    cases hr : rightZ z with
    | false =>
      have e : parseR l = none := by unfold parseR; rw [hz]; simp [hr]
      exact (Parse_bad l _ A n c m w h (Nat.le_refl _) h1 h0 z ho hr hp).mono fun e' w' ⟨he, hbl⟩ => ⟨fun _ => he, (fun z hz' => by rw [e] at hz'; cases hz'), hbl⟩
    | true =>
      have e : parseR l = some z := by unfold parseR; rw [hz]; simp [hr]
      refine (Parse_yes l _ A n c m w h (Nat.le_refl _) h1 h0 z ho hr hp).mono ?_
      rintro e' w' ⟨vt, vs, vi, he, hzo, hbl⟩
      refine ⟨fun hn => (by rw [e] at hn; cases hn), fun z' hz' => ?_, hbl⟩
      rw [e] at hz'
      have e2 : z = z' := by simpa using hz'
      subst e2
      exact ⟨vt, vs, vi, he, hzo⟩
end Go.Proofs.Ytohpdpcjhmopbaa.Tz

/-! Layer 6 (tzif): the document's numbers and letters, read. -/
namespace Go.Proofs.Ytohpdpcjhmopbaa.Tz
open Go.RowKit

set_option maxRecDepth 100000 in
set_option maxHeartbeats 1000000 in
theorem get_any (l : List Nat) (A : Option Addr) (B n c at_ k : Nat) (w : World) (h : SB w B A n c l) (hk : at_ + k ≤ n) (h8 : k ≤ 8) (hb : ∀ b ∈ l, b < 256) :
    Calls Try.prog 62 #[.slice A n c, .int .i64 at_, .int .i64 k] w fun e w' => e = .returned (.int .u64 (be ((l.drop at_).take k))) ∧ w = w' := by
  obtain ⟨xs, hxs⟩ : ∃ xs, (l.drop at_).take k = xs := ⟨_, rfl⟩
  have hn := h.1
  have hnc := h.2.1
  have hcm := h.2.2.1
  have hxl : xs.length = k := by rw [← hxs, List.length_take, List.length_drop]; omega
  have hxb : ∀ b ∈ xs, b < 256 := fun b hx => hb b (by rw [← hxs] at hx; exact List.mem_of_mem_drop (List.mem_of_mem_take hx))
  have hat : ∀ j x, xs[j]? = some x → l[at_ + j]? = some x := fun j x hx => by
    rw [← hxs, List.getElem?_take] at hx
    split at hx
    · rwa [List.getElem?_drop] at hx
    · cases hx
  rw [hxs]
  have HXL := Lib.hid hxl; have HXB := Lib.hid hxb; have HAT := Lib.hid hat; have HS := Lib.hid h
  clear hxs hxl hxb hb h hat
  have hk0 : (0 : Int) ≤ (k : Int) := by omega
  have hk8 : (k : Int) ≤ 8 := by omega
  have ha0 : (0 : Int) ≤ (at_ : Int) := by omega
  have ha1 : (at_ : Int) + (k : Int) ≤ (n : Int) := by omega
  have ha2 : (n : Int) ≤ 9223372036854775807 := by omega
  clear hn
  go_enter Try.func62, Try.ntmps62
  go_wp2_with fail
  go_loopw [7, 8] (fun u i wr => ∃ j : Nat, j ≤ k ∧ i = .int .i64 j ∧ u = .int .u64 (be (xs.take j) : Nat) ∧ wr = w) (fun _ i _ => k - (intOf i).toNat)
  case atStart => exact ⟨0, Nat.zero_le _, rfl, rfl, rfl⟩
  case round =>
    obtain ⟨j, hj, rfl, rfl, rfl⟩ := hrel
    by_cases hlt : j < k
    · have hj0 : (0 : Int) ≤ (j : Int) := by omega
      have hj1 : (j : Int) < (k : Int) := by omega
      obtain ⟨x, hx⟩ : ∃ x, xs[j]? = some x := ⟨_, List.getElem?_eq_getElem (by have := HXL.out; omega)⟩
      have hxb := HXB.out x (List.mem_of_getElem? hx)
      obtain ⟨m, hm⟩ : ∃ m, be (xs.take j) = m := ⟨_, rfl⟩
      have hnb : m < 72057594037927936 := by
        have h1 : m < 256 ^ (xs.take j).length := by rw [← hm]; exact be_lt fun b hb => HXB.out b (List.mem_of_mem_take hb)
        have h2 : (xs.take j).length ≤ 7 := by rw [List.length_take]; omega
        have h3 : (256 : Nat) ^ (xs.take j).length ≤ 256 ^ 7 := Nat.pow_le_pow_right (by omega) h2
        omega
      rw [hm]
      have ho := or_byte m x hnb hxb
      have ho2 : bits .or .u64 ((m : Int) * 256) (x : Int) = ((m * 256 + x : Nat) : Int) := by
        rw [← ho, show IntKind.u64.wrap ((m : Int) * 256) = (m : Int) * 256 by rw [IntKind.wrap_u64]; omega]
      clear ho
      obtain ⟨q, hq⟩ : ∃ q, at_ + j = q := ⟨_, rfl⟩
      have e1 : (at_ : Int) + (j : Int) = (q : Int) := by omega
      have e2 : (q : Int) < (n : Int) := by omega
      have e3 : (0 : Int) ≤ (q : Int) := by omega
      rcases HS.out.2.2.2 with ⟨rfl, rfl⟩ | ⟨gb, off, rfl, hgb, hcell⟩
      · omega
      · have c0 : wr.cell? ⟨gb, off + q, none⟩ = some (.int .u8 x) := hcell q x (by rw [← hq]; exact HAT.out j x hx)
        have HN := Lib.hid hm; have HX := Lib.hid hx
        have hx0 : (0 : Int) ≤ (x : Int) := by omega
        have hx1 : (x : Int) < 256 := by omega
        clear hm hx hcell hgb hq
        go_wp2_with fail
        refine ⟨⟨j + 1, hlt, by go_num, ?_, by first | rfl | trivial⟩, by simp [intOf]; omega⟩
        rw [take_one HX.out, be_snoc, HN.out]
        exact congrArg (Value.int .u64) (by omega)
    · have hj1 : ¬ (j : Int) < (k : Int) := by omega
      have he : be (xs.take j) = be xs := by rw [List.take_of_length_le (by have := HXL.out; omega)]
      rw [he]
      clear he
      go_wp2_with fail
      go_ret
      exact ⟨rfl, rfl⟩
set_option maxRecDepth 100000 in
set_option maxHeartbeats 400000 in
theorem signed_8 (l : List Nat) (A : Option Addr) (B n c at_ : Nat) (w : World) (h : SB w B A n c l) (hk : at_ + 8 ≤ n) (hb : ∀ b ∈ l, b < 256) :
    Calls Try.prog 63 #[.slice A n c, .int .i64 at_, .int .i64 8] w fun e w' => e = .returned (.int .i64 (val8 ((l.drop at_).take 8))) ∧ w = w' := by
  have HG := Lib.hid (get_any l A B n c at_ 8 w h hk (by omega) hb)
  have hlt := be_lt (l := (l.drop at_).take 8) (fun b hx => hb b (List.mem_of_mem_drop (List.mem_of_mem_take hx)))
  have hl : ((l.drop at_).take 8).length = 8 := by rw [List.length_take, List.length_drop]; have := h.1; omega
  rw [hl] at hlt
  unfold val8
  obtain ⟨m, hm⟩ : ∃ m, be ((l.drop at_).take 8) = m := ⟨_, rfl⟩
  rw [hm] at HG hlt ⊢
  have hn0 : (0 : Int) ≤ (m : Int) := by omega
  have hn1 : (m : Int) < 18446744073709551616 := by omega
  clear hm hlt h hk hb hl
  go_enter Try.func63, Try.ntmps63
  go_wp2_with (first
    | (go_at_call 62; refine HG.out.mono ?_; clear HG; rintro e V ⟨rfl, rfl⟩)
    | fail)
  go_ret
  exact ⟨rfl, rfl⟩
set_option maxRecDepth 100000 in
set_option maxHeartbeats 400000 in
theorem signed_4 (l : List Nat) (A : Option Addr) (B n c at_ : Nat) (w : World) (h : SB w B A n c l) (hk : at_ + 4 ≤ n) (hb : ∀ b ∈ l, b < 256) :
    Calls Try.prog 63 #[.slice A n c, .int .i64 at_, .int .i64 4] w fun e w' => e = .returned (.int .i64 (val4 ((l.drop at_).take 4))) ∧ w = w' := by
  have HG := Lib.hid (get_any l A B n c at_ 4 w h hk (by omega) hb)
  have hlt := be_lt (l := (l.drop at_).take 4) (fun b hx => hb b (List.mem_of_mem_drop (List.mem_of_mem_take hx)))
  have hl : ((l.drop at_).take 4).length = 4 := by rw [List.length_take, List.length_drop]; have := h.1; omega
  rw [hl] at hlt
  unfold val4
  obtain ⟨m, hm⟩ : ∃ m, be ((l.drop at_).take 4) = m := ⟨_, rfl⟩
  rw [hm] at HG hlt ⊢
  have hn0 : (0 : Int) ≤ (m : Int) := by omega
  have hn1 : (m : Int) < 4294967296 := by omega
  clear hm hlt h hk hb hl
  obtain ⟨mi, hmi⟩ : ∃ mi : Int, (m : Int) = mi := ⟨_, rfl⟩
  rw [hmi] at HG hn0 hn1 ⊢
  clear hmi
  by_cases hs : mi < 2147483648
  · have e : wrap64 (wrap32 mi) = mi := by unfold wrap64 wrap32; omega
    rw [e]
    clear e
    have hs3 : ¬ (2147483648 : Int) ≤ mi := by omega
    clear hs
    go_enter Try.func63, Try.ntmps63
    go_wp2_with (first
      | (go_at_call 62; refine HG.out.mono ?_; clear HG; rintro e V ⟨rfl, rfl⟩)
      | fail)
    go_ret
    exact ⟨rfl, rfl⟩
  · have e : wrap64 (wrap32 mi) = mi - 4294967296 := by unfold wrap64 wrap32; omega
    rw [e]
    clear e
    have hs2 : (2147483648 : Int) ≤ mi := by omega
    clear hs
    go_enter Try.func63, Try.ntmps63
    go_wp2_with (first
      | (go_at_call 62; refine HG.out.mono ?_; clear HG; rintro e V ⟨rfl, rfl⟩)
      | fail)
    go_ret
    exact ⟨rfl, rfl⟩
/-! ### Letters -/
/-- What letters answers. -/
def LetP (l : List Nat) (p : Nat) (e : Ending) : Prop := ∃ S ok, e = .returned (.tuple #[.string S, .bool ok]) ∧ ok = (lettersV l p).isSome ∧ ∀ t, lettersV l p = some t → S = strOfNums (natsI t)
theorem till0_at : ∀ {l : List Nat} {m : Nat}, (∀ x ∈ l.take m, x ≠ 0) → l[m]? = some 0 → 0 ∈ l ∧ till0 l = l.take m
  | [], _, _, h => by simp at h
  | x :: l, 0, _, h => by
    have e : x = 0 := by simpa using h
    subst e
    exact ⟨by simp, by unfold till0; simp⟩
  | x :: l, m + 1, ha, h => by
    have hx : x ≠ 0 := ha x (by simp)
    obtain ⟨h1, h2⟩ := till0_at (l := l) (m := m) (fun y hy => ha y (by simp [hy])) (by simpa using h)
    refine ⟨by simp [h1], ?_⟩
    unfold till0 at h2 ⊢
    rw [List.takeWhile_cons, if_pos (by simpa using hx), h2, List.take_succ_cons]
set_option maxRecDepth 100000 in
set_option maxHeartbeats 1000000 in
theorem rletters_any (p : Nat) (l : List Nat) (B n c : Nat) (A : Option Addr) (w : World) (h : SB w B A n c l) (hp : p ≤ 9000000000000000000) :
    Calls Try.prog 64 #[.slice A n c, .int .i64 p] w fun e w' => LetP l p e ∧ w = w' := by
  have hn := h.1
  have hnc := h.2.1
  have hcm := h.2.2.1
  have HS := Lib.hid h
  obtain ⟨xs, hxs⟩ : ∃ xs, l.drop p = xs := ⟨_, rfl⟩
  have HXS := Lib.hid hxs
  have hp0 : (0 : Int) ≤ (p : Int) := by omega
  have hn0 : (n : Int) ≤ 9223372036854775807 := by omega
  have hp2 : (p : Int) ≤ 9000000000000000000 := by omega
  clear h hxs
  go_enter Try.func64, Try.ntmps64
  go_wp2_with fail
  go_loopw [6] (fun i wr => ∃ j : Nat, (j = 0 ∨ p + j ≤ n) ∧ i = .int .i64 ((p + j : Nat) : Int) ∧ (∀ x ∈ xs.take j, x ≠ 0) ∧ wr = w) (fun i _ => n - (intOf i).toNat)
  case atStart => exact ⟨0, .inl rfl, rfl, fun x hx => by simp at hx, rfl⟩
  case round =>
    obtain ⟨j, hj, rfl, hall, rfl⟩ := hrel
    have HALL := Lib.hid hall
    clear hall
    obtain ⟨q, hq⟩ : ∃ q, p + j = q := ⟨_, rfl⟩
    rw [hq]
    by_cases hlt : q < n
    · have e1 : (q : Int) < (n : Int) := by omega
      have e2 : (0 : Int) ≤ (q : Int) := by omega
      obtain ⟨x, hx⟩ : ∃ x, l[q]? = some x := ⟨_, List.getElem?_eq_getElem (by omega)⟩
      have hxj : xs[j]? = some x := by rw [← HXS.out, List.getElem?_drop, hq]; exact hx
      have HXJ := Lib.hid hxj
      rcases HS.out.2.2.2 with ⟨rfl, rfl⟩ | ⟨gb, off, rfl, hgb, hcell⟩
      · omega
      · have c0 : wr.cell? ⟨gb, off + q, none⟩ = some (.int .u8 x) := hcell q x hx
        clear hx hxj hcell hgb
        by_cases hx0 : x = 0
        · subst hx0
          have ht : (convert 33 9 (.slice (some ⟨gb, off + p, none⟩) (q - p) (c - p))).run Try.prog wr = .ok (.string (strOfNums (natsI ((l.drop p).take (q - p))))) wr := ((HS.out.drop (k := p) (by omega)).take (k := q - p) (by omega)).texts
          obtain ⟨S, hS⟩ : ∃ S, strOfNums (natsI ((l.drop p).take (q - p))) = S := ⟨_, rfl⟩
          rw [hS] at ht
          have HSS := Lib.hid hS
          have e3 : ¬ c - p = 0 := by omega
          have e4 : (p : Int) ≤ (q : Int) := by omega
          have e5 : (q : Int) ≤ (c : Int) := by omega
          clear hS
          go_wp2_with fail
          go_ret2
          obtain ⟨h1, h2⟩ := till0_at HALL.out HXJ.out
          have e6 : lettersV l p = some (xs.take j) := by unfold lettersV; rw [HXS.out, if_pos h1, h2]
          refine ⟨⟨S, true, rfl, by rw [e6]; rfl, fun t ht => ?_⟩, rfl⟩
          rw [e6] at ht
          injection ht with ht
          rw [← ht, ← HSS.out, HXS.out, show q - p = j by omega]
        · have e3 : ¬ (x : Int) = 0 := by omega
          have e4 : decide ((x : Int) = 0) = false := by simp; omega
          have e5 : ((x : Int) == 0) = false := by simp; omega
          have HX0 := Lib.hid hx0
          clear hx0
          go_wp2_with fail
          refine ⟨⟨j + 1, .inr (by omega), by rw [← Nat.add_assoc, hq]; go_num, ?_, by first | rfl | trivial⟩, by simp [intOf]; omega⟩
          intro y hy
          rw [take_one HXJ.out] at hy
          rcases List.mem_append.1 hy with hy | hy
          · exact HALL.out y hy
          · rw [List.mem_singleton.1 hy]; exact HX0.out
    · have e1 : ¬ (q : Int) < (n : Int) := by omega
      go_wp2_with fail
      go_ret2
      have e6 : lettersV l p = none := by
        unfold lettersV
        rw [HXS.out, if_neg]
        intro h0
        refine HALL.out 0 ?_ rfl
        rwa [List.take_of_length_le (by rw [← HXS.out, List.length_drop]; omega)]
      exact ⟨⟨⟨#[]⟩, false, rfl, by rw [e6]; rfl, fun t ht => by rw [e6] at ht; cases ht⟩, rfl⟩
end Go.Proofs.Ytohpdpcjhmopbaa.Tz

/-! Layer 6 (tzif): the document's counts of a head, and how long a block is. -/
namespace Go.Proofs.Ytohpdpcjhmopbaa.Tz
open Go.RowKit

/-- The counts, as the document has them. -/
def hdArr (h : Hd) : Value := .agg #[.int .i64 h.uts, .int .i64 h.stds, .int .i64 h.leaps, .int .i64 h.times, .int .i64 h.types, .int .i64 h.letters]
def noArr : Value := .agg #[.int .i64 0, .int .i64 0, .int .i64 0, .int .i64 0, .int .i64 0, .int .i64 0]
set_option maxRecDepth 100000 in
set_option maxHeartbeats 1000000 in
theorem rlong_any (h : Hd) (wd : Nat) (hw : wd = 4 ∨ wd = 8) (ho : HdOk h) (w : World) : Calls Try.prog 50 #[hdArr h, .int .i64 wd] w fun e w' => e = .returned (.int .i64 (longN h wd)) ∧ Below w.heap.size w w' := by
  obtain ⟨o1, o2, o3, o4, o5, o6⟩ := ho
  obtain ⟨version, uts, stds, leaps, times, types, letters⟩ := h
  simp only at o1 o2 o3 o4 o5 o6
  unfold hdArr longN restN
  simp only
  have b1 : (0 : Int) ≤ (uts : Int) := by omega
  have b2 : (0 : Int) ≤ (stds : Int) := by omega
  have b3 : (0 : Int) ≤ (leaps : Int) := by omega
  have b4 : (0 : Int) ≤ (times : Int) := by omega
  have b5 : (0 : Int) ≤ (types : Int) := by omega
  have b6 : (0 : Int) ≤ (letters : Int) := by omega
  have c1 : (uts : Int) ≤ 4294967295 := by omega
  have c2 : (stds : Int) ≤ 4294967295 := by omega
  have c3 : (leaps : Int) ≤ 4294967295 := by omega
  have c4 : (times : Int) ≤ 4294967295 := by omega
  have c5 : (types : Int) ≤ 4294967295 := by omega
  have c6 : (letters : Int) ≤ 4294967295 := by omega
  have HB : Hid (Below w.heap.size w (w.alloc (.cells #[.int .i64 uts, .int .i64 stds, .int .i64 leaps, .int .i64 times, .int .i64 types, .int .i64 letters] 96))) := Lib.hid ((Below.refl _ _).alloc (Nat.le_refl _) _)
  clear o1 o2 o3 o4 o5 o6
  rcases hw with rfl | rfl
  all_goals
    go_enter Try.func50, Try.ntmps50
    go_wp2_with fail
    go_ret
    refine ⟨?_, HB.out⟩
    refine congrArg (fun n : Int => Ending.returned (Value.int .i64 n)) ?_
    omega
/-! ### Counts -/
theorem drop_getD (l : List Nat) (a k : Nat) : (l.drop a).getD k 0 = l.getD (a + k) 0 := by
  rw [List.getD_eq_getElem?_getD, List.getD_eq_getElem?_getD, List.getElem?_drop]
set_option maxRecDepth 100000 in
set_option maxHeartbeats 1000000 in
/-- Too few bytes. -/
theorem counts_a (A : Option Addr) (n c at_ : Nat) (w : World) (hl : n < at_ + 44) (ha : at_ ≤ 4000000000000) (hn : n ≤ 9223372036854775807) :
    Calls Try.prog 49 #[.slice A n c, .int .i64 at_] w fun e w' => e = .returned (.tuple #[noArr, .int .u8 0, .bool false]) ∧ Below w.heap.size w w' := by
  have h1 : (0 : Int) ≤ (at_ : Int) := by omega
  have h2 : (at_ : Int) ≤ 4000000000000 := by omega
  have h3 : (n : Int) - (at_ : Int) < 44 := by omega
  have h4 : (n : Int) ≤ 9223372036854775807 := by omega
  have h5 : (0 : Int) ≤ (n : Int) := by omega
  clear hl ha hn
  unfold noArr
  go_enter Try.func49, Try.ntmps49
  go_wp2_with fail
  exact bodyPost_ret (v := .tuple #[noArr, .int .u8 0, .bool false]) (by simp [results, Try.results49, go_sem, noArr]) rfl ⟨rfl, ((Below.refl w.heap.size w).alloc (Nat.le_refl _) _).alloc (by simp) _⟩
set_option maxRecDepth 100000 in
set_option maxHeartbeats 1000000 in
/-- Other letters. -/
theorem counts_b (l : List Nat) (A : Option Addr) (B n c at_ : Nat) (w : World) (h : SB w B A n c l) (hB : B ≤ w.heap.size) (hb : ∀ b ∈ l, b < 256) (hk : at_ + 44 ≤ n) (ha : at_ ≤ 4000000000000) (hm : (l.drop at_).take 4 ≠ [84, 90, 105, 102]) :
    Calls Try.prog 49 #[.slice A n c, .int .i64 at_] w fun e w' => e = .returned (.tuple #[noArr, .int .u8 0, .bool false]) ∧ Below w.heap.size w w' := by
  have hl := h.1
  have hnc := h.2.1
  have hcm := h.2.2.1
  have hb4 : ∀ b ∈ (l.drop at_).take 4, b < 256 := fun b hx => hb b (List.mem_of_mem_drop (List.mem_of_mem_take hx))
  have h4l : ((l.drop at_).take 4).length = 4 := by rw [List.length_take, List.length_drop]; omega
  rcases h.2.2.2 with ⟨_, e⟩ | ⟨gb, off, rfl, hgb, hcell⟩
  · omega
  have hsb : ∀ o1 o2, SB ((w.alloc o1).alloc o2) B (some ⟨gb, off, none⟩) n c l := fun o1 o2 => (h.below ((Below.refl w.heap.size w).alloc (Nat.le_refl _) o1) hB).below ((Below.refl (w.alloc o1).heap.size (w.alloc o1)).alloc (Nat.le_refl _) o2) (by simp; omega)
  have HSB := Lib.hid hsb
  have e1 : (0 : Int) ≤ (at_ : Int) := by omega
  have e2 : (at_ : Int) ≤ 4000000000000 := by omega
  have e3 : ¬ (n : Int) - (at_ : Int) < 44 := by omega
  have e4 : (n : Int) ≤ 9223372036854775807 := by omega
  have e5 : (0 : Int) ≤ (n : Int) := by omega
  obtain ⟨a4, ha4⟩ : ∃ a4, at_ + 4 = a4 := ⟨_, rfl⟩
  have e6 : (at_ : Int) + 4 = (a4 : Int) := by omega
  have e7 : (a4 : Int) ≤ (c : Int) := by omega
  have e8 : a4 - at_ = 4 := by omega
  have e9 : ¬ c - at_ = 0 := by omega
  have f1 : (at_ : Int) ≤ (a4 : Int) := by omega
  have f2 : (a4 : Int) < (n : Int) := by omega
  have f3 : (0 : Int) ≤ (a4 : Int) := by omega
  obtain ⟨S, hS⟩ : ∃ S, strOfNums (natsI ((l.drop at_).take 4)) = S := ⟨_, rfl⟩
  have hne : S ≠ ⟨#[84, 90, 105, 102]⟩ := fun e => hm ((magic_text _ h4l hb4).1 (hS.trans e))
  have hcv : ∀ o1 o2, (convert 33 9 (.slice (some ⟨gb, off + at_, none⟩) 4 (c - at_))).run Try.prog ((w.alloc o1).alloc o2) = .ok (.string S) ((w.alloc o1).alloc o2) := fun o1 o2 => by
    rw [← hS]
    exact (((HSB.out o1 o2).drop (k := at_) (by omega)).take (k := 4) (by omega)).texts
  have n1 : S.toList ≠ [84, 90, 105, 102] := fun e => toList_ne hne (by rw [e]; decide +kernel)
  have n2 : (S.toList == [84, 90, 105, 102]) = false := by simpa using n1
  have n3 : (S.toList != [84, 90, 105, 102]) = true := by simpa using n1
  have n4 := toList_ne hne
  clear hS hne h hB hb hk ha hm hl hnc hcm hb4 h4l hcell hgb hsb ha4
  unfold noArr
  go_enter Try.func49, Try.ntmps49
  go_wp2_with fail
  exact bodyPost_ret (v := .tuple #[noArr, .int .u8 0, .bool false]) (by simp [results, Try.results49, go_sem, noArr]) rfl ⟨rfl, ((Below.refl w.heap.size w).alloc (Nat.le_refl _) _).alloc (by simp) _⟩
set_option maxRecDepth 100000 in
set_option maxHeartbeats 1000000 in
/-- Another version. -/
theorem counts_c (l : List Nat) (A : Option Addr) (B n c at_ : Nat) (w : World) (h : SB w B A n c l) (hB : B ≤ w.heap.size) (hb : ∀ b ∈ l, b < 256) (hk : at_ + 44 ≤ n) (ha : at_ ≤ 4000000000000) (hm : (l.drop at_).take 4 = [84, 90, 105, 102]) (hv0 : (l.drop at_).getD 4 0 ≠ 0 ∧ (l.drop at_).getD 4 0 ≠ 50 ∧ (l.drop at_).getD 4 0 ≠ 51) :
    Calls Try.prog 49 #[.slice A n c, .int .i64 at_] w fun e w' => e = .returned (.tuple #[noArr, .int .u8 0, .bool false]) ∧ Below w.heap.size w w' := by
  have hl := h.1
  have hnc := h.2.1
  have hcm := h.2.2.1
  have hb4 : ∀ b ∈ (l.drop at_).take 4, b < 256 := fun b hx => hb b (List.mem_of_mem_drop (List.mem_of_mem_take hx))
  have h4l : ((l.drop at_).take 4).length = 4 := by rw [List.length_take, List.length_drop]; omega
  rcases h.2.2.2 with ⟨_, e⟩ | ⟨gb, off, rfl, hgb, hcell⟩
  · omega
  have hsb : ∀ o1 o2, SB ((w.alloc o1).alloc o2) B (some ⟨gb, off, none⟩) n c l := fun o1 o2 => (h.below ((Below.refl w.heap.size w).alloc (Nat.le_refl _) o1) hB).below ((Below.refl (w.alloc o1).heap.size (w.alloc o1)).alloc (Nat.le_refl _) o2) (by simp; omega)
  have HSB := Lib.hid hsb
  have e1 : (0 : Int) ≤ (at_ : Int) := by omega
  have e2 : (at_ : Int) ≤ 4000000000000 := by omega
  have e3 : ¬ (n : Int) - (at_ : Int) < 44 := by omega
  have e4 : (n : Int) ≤ 9223372036854775807 := by omega
  have e5 : (0 : Int) ≤ (n : Int) := by omega
  obtain ⟨a4, ha4⟩ : ∃ a4, at_ + 4 = a4 := ⟨_, rfl⟩
  have e6 : (at_ : Int) + 4 = (a4 : Int) := by omega
  have e7 : (a4 : Int) ≤ (c : Int) := by omega
  have e8 : a4 - at_ = 4 := by omega
  have e9 : ¬ c - at_ = 0 := by omega
  have f1 : (at_ : Int) ≤ (a4 : Int) := by omega
  have f2 : (a4 : Int) < (n : Int) := by omega
  have f3 : (0 : Int) ≤ (a4 : Int) := by omega
  have hS : strOfNums (natsI ((l.drop at_).take 4)) = ⟨#[84, 90, 105, 102]⟩ := (magic_text _ h4l hb4).2 hm
  have hcv : ∀ o1 o2, (convert 33 9 (.slice (some ⟨gb, off + at_, none⟩) 4 (c - at_))).run Try.prog ((w.alloc o1).alloc o2) = .ok (.string ⟨#[84, 90, 105, 102]⟩) ((w.alloc o1).alloc o2) := fun o1 o2 => by
    rw [← hS]
    exact (((HSB.out o1 o2).drop (k := at_) (by omega)).take (k := 4) (by omega)).texts
  obtain ⟨v, hv⟩ : ∃ v, l[a4]? = some v := ⟨_, List.getElem?_eq_getElem (by omega)⟩
  have hvv : (l.drop at_).getD 4 0 = v := by rw [drop_getD, ha4, List.getD_eq_getElem?_getD, hv]; rfl
  have hcx : ∀ o1 o2, ((w.alloc o1).alloc o2).cell? ⟨gb, off + a4, none⟩ = some (.int .u8 v) := fun o1 o2 => (HSB.out o1 o2).cells a4 v hv
  rw [hvv] at hv0
  obtain ⟨vi, hvi⟩ : ∃ vi : Int, (v : Int) = vi := ⟨_, rfl⟩
  rw [hvi] at hcx
  have m1 : vi ≠ 0 := by omega
  have m2 : vi ≠ 50 := by omega
  have m3 : vi ≠ 51 := by omega
  have m4 : (vi == 0) = false := by simpa using m1
  have m5 : (vi == 50) = false := by simpa using m2
  have m6 : (vi == 51) = false := by simpa using m3
  have m7 : (vi != 0) = true := by simpa using m1
  have m8 : (vi != 50) = true := by simpa using m2
  have m9 : (vi != 51) = true := by simpa using m3
  clear hv0 hvv hv hvi hS h hB hb hk ha hm hl hnc hcm hb4 h4l hcell hgb hsb ha4
  unfold noArr
  go_enter Try.func49, Try.ntmps49
  go_wp2_with fail
  exact bodyPost_ret (v := .tuple #[noArr, .int .u8 0, .bool false]) (by simp [results, Try.results49, go_sem, noArr]) rfl ⟨rfl, ((Below.refl w.heap.size w).alloc (Nat.le_refl _) _).alloc (by simp) _⟩
end Go.Proofs.Ytohpdpcjhmopbaa.Tz

/-! Layer 6 (tzif): the document's counts of a head that is one. -/
namespace Go.Proofs.Ytohpdpcjhmopbaa.Tz
open Go.RowKit

set_option maxRecDepth 100000 in
set_option maxHeartbeats 2000000 in
theorem counts_0 (l : List Nat) (A : Option Addr) (B n c at_ : Nat) (w : World) (h : SB w B A n c l) (hB : B ≤ w.heap.size) (hb : ∀ b ∈ l, b < 256) (hk : at_ + 44 ≤ n) (ha : at_ ≤ 4000000000000) (hm : (l.drop at_).take 4 = [84, 90, 105, 102]) (hv0 : (l.drop at_).getD 4 0 = 0) :
    Calls Try.prog 49 #[.slice A n c, .int .i64 at_] w fun e w' => e = .returned (.tuple #[hdArr (hdOf (l.drop at_)), .int .u8 (hdOf (l.drop at_)).version, .bool true]) ∧ Below w.heap.size w w' := by
  have hl := h.1
  have hnc := h.2.1
  have hcm := h.2.2.1
  have hb4 : ∀ b ∈ (l.drop at_).take 4, b < 256 := fun b hx => hb b (List.mem_of_mem_drop (List.mem_of_mem_take hx))
  have h4l : ((l.drop at_).take 4).length = 4 := by rw [List.length_take, List.length_drop]; omega
  rcases h.2.2.2 with ⟨_, e⟩ | ⟨gb, off, rfl, hgb, hcell⟩
  · omega
  have hsb : ∀ o1 o2, SB ((w.alloc o1).alloc o2) B (some ⟨gb, off, none⟩) n c l := fun o1 o2 => (h.below ((Below.refl w.heap.size w).alloc (Nat.le_refl _) o1) hB).below ((Below.refl (w.alloc o1).heap.size (w.alloc o1)).alloc (Nat.le_refl _) o2) (by simp; omega)
  have HSB := Lib.hid hsb
  have e1 : (0 : Int) ≤ (at_ : Int) := by omega
  have e2 : (at_ : Int) ≤ 4000000000000 := by omega
  have e3 : ¬ (n : Int) - (at_ : Int) < 44 := by omega
  have e4 : (n : Int) ≤ 9223372036854775807 := by omega
  have e5 : (0 : Int) ≤ (n : Int) := by omega
  obtain ⟨a4, ha4⟩ : ∃ a4, at_ + 4 = a4 := ⟨_, rfl⟩
  have e6 : (at_ : Int) + 4 = (a4 : Int) := by omega
  have e7 : (a4 : Int) ≤ (c : Int) := by omega
  have e8 : a4 - at_ = 4 := by omega
  have e9 : ¬ c - at_ = 0 := by omega
  have f1 : (at_ : Int) ≤ (a4 : Int) := by omega
  have f2 : (a4 : Int) < (n : Int) := by omega
  have f3 : (0 : Int) ≤ (a4 : Int) := by omega
  have hS : strOfNums (natsI ((l.drop at_).take 4)) = ⟨#[84, 90, 105, 102]⟩ := (magic_text _ h4l hb4).2 hm
  have hcv : ∀ o1 o2, (convert 33 9 (.slice (some ⟨gb, off + at_, none⟩) 4 (c - at_))).run Try.prog ((w.alloc o1).alloc o2) = .ok (.string ⟨#[84, 90, 105, 102]⟩) ((w.alloc o1).alloc o2) := fun o1 o2 => by
    rw [← hS]
    exact (((HSB.out o1 o2).drop (k := at_) (by omega)).take (k := 4) (by omega)).texts
  obtain ⟨v, hv⟩ : ∃ v, l[a4]? = some v := ⟨_, List.getElem?_eq_getElem (by omega)⟩
  have hvv : (l.drop at_).getD 4 0 = v := by rw [drop_getD, ha4, List.getD_eq_getElem?_getD, hv]; rfl
  have hcx : ∀ o1 o2, ((w.alloc o1).alloc o2).cell? ⟨gb, off + a4, none⟩ = some (.int .u8 v) := fun o1 o2 => (HSB.out o1 o2).cells a4 v hv
  have HCN : Hid (∀ V j, SB V B (some ⟨gb, off, none⟩) n c l → j < 6 → Calls Try.prog 62 #[.slice (some ⟨gb, off, none⟩) n c, .int .i64 ((at_ + 20 + 4 * j : Nat) : Int), .int .i64 4] V fun e w' => e = .returned (.int .u64 (be ((l.drop (at_ + 20 + 4 * j)).take 4))) ∧ V = w') := Lib.hid fun V j hV hj => get_any l _ B n c (at_ + 20 + 4 * j) 4 V hV (by omega) (by omega) hb
  have hbl : ∀ j, be ((l.drop (at_ + 20 + 4 * j)).take 4) ≤ 4294967295 := fun j => be_take_lt hb _
  obtain ⟨cn, hcn⟩ : ∃ cn : Nat → Nat, ∀ j, be ((l.drop (at_ + 20 + 4 * j)).take 4) = cn j := ⟨_, fun _ => rfl⟩
  simp only [hcn] at HCN hbl
  have hhd : hdArr (hdOf (l.drop at_)) = .agg #[.int .i64 (cn 0), .int .i64 (cn 1), .int .i64 (cn 2), .int .i64 (cn 3), .int .i64 (cn 4), .int .i64 (cn 5)] := by
    unfold hdArr hdOf
    simp only [List.drop_drop]
    rw [← hcn 0, ← hcn 1, ← hcn 2, ← hcn 3, ← hcn 4, ← hcn 5]
  have hvr : (hdOf (l.drop at_)).version = v := hvv
  rw [hhd, hvr]
  rw [hvv] at hv0
  have HBL := Lib.hid hbl
  have HHB : Hid (B ≤ w.heap.size) := Lib.hid hB
  have HGB := Lib.hid hgb
  have HCX : Hid (l[a4]? = some v) := Lib.hid hv
  clear hbl hcn hhd hvr hvv hv hS h hB hb hk ha hm hl hnc hcm hb4 h4l hcell hgb hsb ha4
  subst hv0
  obtain ⟨X, hX⟩ : ∃ X, (w.alloc (.cells #[.int .i64 0, .int .i64 0, .int .i64 0, .int .i64 0, .int .i64 0, .int .i64 0] 96)).alloc (.cells #[.int .i64 0, .int .i64 0, .int .i64 0, .int .i64 0, .int .i64 0, .int .i64 0] 96) = X := ⟨_, rfl⟩
  have HX : Hid (Below w.heap.size w X ∧ X.heap.size = w.heap.size + 2 ∧ (∀ i u, (#[.int .i64 0, .int .i64 0, .int .i64 0, .int .i64 0, .int .i64 0, .int .i64 0] : Array Value)[i]? = some u → X.cell? ⟨w.heap.size, i, none⟩ = some u ∧ X.cell? ⟨w.heap.size + 1, i, none⟩ = some u) ∧ (∀ i, X.frozen? ⟨w.heap.size, i, none⟩ = false ∧ X.frozen? ⟨w.heap.size + 1, i, none⟩ = false) ∧ SB X B (some ⟨gb, off, none⟩) n c l) := Lib.hid (by
    rw [← hX]
    refine ⟨((Below.refl _ _).alloc (Nat.le_refl _) _).alloc (by simp) _, by simp, fun i u hu => ⟨cell_old _ _ _ _ _ (by simp) (cell_new w _ _ _ i u rfl hu), cell_new _ _ _ _ i u (by simp) hu⟩, fun i => ⟨?_, ?_⟩, HSB.out _ _⟩
    · exact (((Below.refl (w.heap.size + 1) _).alloc (by simp) _).frozen (p := ⟨w.heap.size, i, none⟩) (Nat.lt_succ_self _)).trans (frozen_of_row _ _ i _ _ (heap_alloc_new _ _))
    · exact frozen_of_row _ _ i _ _ (by have := heap_alloc_new (w.alloc (.cells #[.int .i64 0, .int .i64 0, .int .i64 0, .int .i64 0, .int .i64 0, .int .i64 0] 96)) (.cells #[.int .i64 0, .int .i64 0, .int .i64 0, .int .i64 0, .int .i64 0, .int .i64 0] 96); simpa using this))
  have hcv2 : (convert 33 9 (.slice (some ⟨gb, off + at_, none⟩) 4 (c - at_))).run Try.prog X = .ok (.string ⟨#[84, 90, 105, 102]⟩) X := by rw [← hX]; exact hcv _ _
  have hcx2 : X.cell? ⟨gb, off + a4, none⟩ = some (.int .u8 0) := by rw [← hX]; exact hcx _ _
  clear hcv hcx
  go_enter Try.func49, Try.ntmps49
  go_wp2_with fail
  obtain ⟨x1, x2, x3, x4, x5⟩ := HX.out
  have HX1 := Lib.hid x1; have HX2 := Lib.hid x2; have HX3 := Lib.hid x3; have HX4 := Lib.hid x4; have HX5 := Lib.hid x5
  have HCX2 := Lib.hid hcx2
  clear x1 x2 x3 x4 x5 HX hcv2 hcx2 hX
  have HNE : Hid (gb ≠ w.heap.size + 1 ∧ gb ≠ w.heap.size) := Lib.hid (by have := HGB.out; have := HHB.out; omega)
  go_loopw [8] (fun i wr => ∃ k : Nat, k ≤ 6 ∧ i = .int .i64 k ∧ (∀ j, j < 6 → wr.cell? ⟨w.heap.size + 1, j, none⟩ = some (.int .i64 (if j < k then (cn j : Int) else 0))) ∧ (∀ j, wr.frozen? ⟨w.heap.size + 1, j, none⟩ = false) ∧ X.grownBy wr (some (w.heap.size + 1))) (fun i _ => 6 - (intOf i).toNat)
  case atStart => exact ⟨0, Nat.zero_le _, rfl, fun j hj => (by
      rw [if_neg (Nat.not_lt_zero j)]
      match j, hj with
      | 0, _ => exact (HX3.out 0 _ rfl).2
      | 1, _ => exact (HX3.out 1 _ rfl).2
      | 2, _ => exact (HX3.out 2 _ rfl).2
      | 3, _ => exact (HX3.out 3 _ rfl).2
      | 4, _ => exact (HX3.out 4 _ rfl).2
      | 5, _ => exact (HX3.out 5 _ rfl).2
      | j + 6, hj => omega), fun j => (HX4.out j).2, World.grownBy.refl _ _⟩
  case round =>
    obtain ⟨k, hk6, rfl, hcl, hfz, hgr⟩ := hrel
    have HCL := Lib.hid hcl; have HFK := Lib.hid hfz; have HGR := Lib.hid hgr
    have HSW : Hid (SB wr B (some ⟨gb, off, none⟩) n c l) := Lib.hid (HX5.out.below (below_of_gb hgr (C := w.heap.size + 1) (Nat.le_refl _) (by rw [HX2.out]; omega)) (by have := HHB.out; omega))
    by_cases hlt : k < 6
    · have hk0 : (0 : Int) ≤ (k : Int) := by omega
      have hk1 : (k : Int) < 6 := by omega
      have ck := hcl k hlt
      rw [if_neg (Nat.lt_irrefl k)] at ck
      have fk := hfz k
      have HCK := Lib.hid ck
      clear hfz
      clear hcl hgr
      obtain ⟨q, hq⟩ : ∃ q, at_ + 20 + 4 * k = q := ⟨_, rfl⟩
      have e0 : (at_ : Int) + 20 + 4 * (k : Int) = (q : Int) := by omega
      have HGT := Lib.hid (HCN.out wr k HSW.out hlt)
      have hxb := HBL.out k
      obtain ⟨x, hx⟩ : ∃ x, cn k = x := ⟨_, rfl⟩
      rw [hq, hx] at HGT
      rw [hx] at hxb
      have HXK := Lib.hid hx
      have i0 : (0 : Int) ≤ (x : Int) := by omega
      have i1 : (x : Int) ≤ 4294967295 := by omega
      clear hq hx hxb
      go_wp2_with (first
        | (go_at_call 62; refine HGT.out.mono ?_; clear HGT; rintro e V ⟨rfl, rfl⟩)
        | fail)
      refine ⟨⟨k + 1, hlt, by go_num, fun j hj => ?_, fun j => by rw [World.frozen?_setCell]; exact HFK.out j, HGR.out.trans (grown_set wr _ k _)⟩, by simp [intOf]; omega⟩
      by_cases hjk : j = k
      · subst hjk
        rw [World.cell?_setCell_same _ _ _ HCK.out, if_pos (Nat.lt_succ_self _), HXK.out]
      · rw [set_other (Ne.symm hjk), HCL.out j hj]
        by_cases h2 : j < k
        · rw [if_pos h2, if_pos (by omega)]
        · rw [if_neg h2, if_neg (by omega)]
    · have hk1 : ¬ (k : Int) < 6 := by omega
      obtain rfl : k = 6 := by omega
      clear hcl hfz hgr
      have c0 : wr.cell? ⟨w.heap.size + 1, 0, none⟩ = some (.int .i64 (cn 0)) := by have := HCL.out 0 (by omega); rwa [if_pos (by omega)] at this
      have c1 : wr.cell? ⟨w.heap.size + 1, 1, none⟩ = some (.int .i64 (cn 1)) := by have := HCL.out 1 (by omega); rwa [if_pos (by omega)] at this
      have c2 : wr.cell? ⟨w.heap.size + 1, 2, none⟩ = some (.int .i64 (cn 2)) := by have := HCL.out 2 (by omega); rwa [if_pos (by omega)] at this
      have c3 : wr.cell? ⟨w.heap.size + 1, 3, none⟩ = some (.int .i64 (cn 3)) := by have := HCL.out 3 (by omega); rwa [if_pos (by omega)] at this
      have c4 : wr.cell? ⟨w.heap.size + 1, 4, none⟩ = some (.int .i64 (cn 4)) := by have := HCL.out 4 (by omega); rwa [if_pos (by omega)] at this
      have c5 : wr.cell? ⟨w.heap.size + 1, 5, none⟩ = some (.int .i64 (cn 5)) := by have := HCL.out 5 (by omega); rwa [if_pos (by omega)] at this
      have r0 := gb_cell HGR.out (by rw [HX2.out]; omega) (by omega) (HX3.out 0 _ rfl).1
      have r1 := gb_cell HGR.out (by rw [HX2.out]; omega) (by omega) (HX3.out 1 _ rfl).1
      have r2 := gb_cell HGR.out (by rw [HX2.out]; omega) (by omega) (HX3.out 2 _ rfl).1
      have r3 := gb_cell HGR.out (by rw [HX2.out]; omega) (by omega) (HX3.out 3 _ rfl).1
      have r4 := gb_cell HGR.out (by rw [HX2.out]; omega) (by omega) (HX3.out 4 _ rfl).1
      have r5 := gb_cell HGR.out (by rw [HX2.out]; omega) (by omega) (HX3.out 5 _ rfl).1
      have f0 : wr.frozen? ⟨w.heap.size, 0, none⟩ = false := (gb_frozen HGR.out (by rw [HX2.out]; omega) (by omega)).trans (HX4.out 0).1
      have f1 : wr.frozen? ⟨w.heap.size, 1, none⟩ = false := (gb_frozen HGR.out (by rw [HX2.out]; omega) (by omega)).trans (HX4.out 1).1
      have f2 : wr.frozen? ⟨w.heap.size, 2, none⟩ = false := (gb_frozen HGR.out (by rw [HX2.out]; omega) (by omega)).trans (HX4.out 2).1
      have f3 : wr.frozen? ⟨w.heap.size, 3, none⟩ = false := (gb_frozen HGR.out (by rw [HX2.out]; omega) (by omega)).trans (HX4.out 3).1
      have f4 : wr.frozen? ⟨w.heap.size, 4, none⟩ = false := (gb_frozen HGR.out (by rw [HX2.out]; omega) (by omega)).trans (HX4.out 4).1
      have f5 : wr.frozen? ⟨w.heap.size, 5, none⟩ = false := (gb_frozen HGR.out (by rw [HX2.out]; omega) (by omega)).trans (HX4.out 5).1
      have y0 : wr.cell? ⟨gb, off + a4, none⟩ = some (.int .u8 0) := gb_cell HGR.out (by rw [HX2.out]; have := HGB.out; have := HHB.out; omega) HNE.out.1 HCX2.out
      have hne : ∀ i, (⟨w.heap.size, i, none⟩ : Addr) ≠ ⟨gb, off + a4, none⟩ := fun i e => by injection e with e _ _; exact HNE.out.2 e.symm
      have y1 : ((((((wr.setCell ⟨w.heap.size, 0, none⟩ (.int .i64 (cn 0))).setCell ⟨w.heap.size, 1, none⟩ (.int .i64 (cn 1))).setCell ⟨w.heap.size, 2, none⟩ (.int .i64 (cn 2))).setCell ⟨w.heap.size, 3, none⟩ (.int .i64 (cn 3))).setCell ⟨w.heap.size, 4, none⟩ (.int .i64 (cn 4))).setCell ⟨w.heap.size, 5, none⟩ (.int .i64 (cn 5))).cell? ⟨gb, off + a4, none⟩ = some (.int .u8 0) := by
        rw [World.cell?_setCell_other _ _ _ _ (hne 5), World.cell?_setCell_other _ _ _ _ (hne 4), World.cell?_setCell_other _ _ _ _ (hne 3), World.cell?_setCell_other _ _ _ _ (hne 2), World.cell?_setCell_other _ _ _ _ (hne 1), World.cell?_setCell_other _ _ _ _ (hne 0)]; exact y0
      have HS1 : w.heap.size < wr.heap.size := by have := HGR.out.size; rw [HX2.out] at this; omega
      have HWB := Lib.hid (HX1.out.trans (below_of_gb HGR.out (C := w.heap.size) (Nat.le_succ _) (by rw [HX2.out]; omega)))
      clear hne
      go_wp2_with fail
      go_region
      go_wp2_with fail
      exact bodyPost_ret (v := .tuple #[.agg #[.int .i64 (cn 0), .int .i64 (cn 1), .int .i64 (cn 2), .int .i64 (cn 3), .int .i64 (cn 4), .int .i64 (cn 5)], .int .u8 0, .bool true]) (by simp [results, Try.results49, go_sem, r0, r1, r2, r3, r4, r5]) rfl ⟨rfl, (((((((HWB.out.setCell (Nat.le_refl _) _).setCell (Nat.le_refl _) _).setCell (Nat.le_refl _) _).setCell (Nat.le_refl _) _).setCell (Nat.le_refl _) _).setCell (Nat.le_refl _) _)).drew⟩
set_option maxRecDepth 100000 in
set_option maxHeartbeats 2000000 in
theorem counts_50 (l : List Nat) (A : Option Addr) (B n c at_ : Nat) (w : World) (h : SB w B A n c l) (hB : B ≤ w.heap.size) (hb : ∀ b ∈ l, b < 256) (hk : at_ + 44 ≤ n) (ha : at_ ≤ 4000000000000) (hm : (l.drop at_).take 4 = [84, 90, 105, 102]) (hv0 : (l.drop at_).getD 4 0 = 50) :
    Calls Try.prog 49 #[.slice A n c, .int .i64 at_] w fun e w' => e = .returned (.tuple #[hdArr (hdOf (l.drop at_)), .int .u8 (hdOf (l.drop at_)).version, .bool true]) ∧ Below w.heap.size w w' := by
  have hl := h.1
  have hnc := h.2.1
  have hcm := h.2.2.1
  have hb4 : ∀ b ∈ (l.drop at_).take 4, b < 256 := fun b hx => hb b (List.mem_of_mem_drop (List.mem_of_mem_take hx))
  have h4l : ((l.drop at_).take 4).length = 4 := by rw [List.length_take, List.length_drop]; omega
  rcases h.2.2.2 with ⟨_, e⟩ | ⟨gb, off, rfl, hgb, hcell⟩
  · omega
  have hsb : ∀ o1 o2, SB ((w.alloc o1).alloc o2) B (some ⟨gb, off, none⟩) n c l := fun o1 o2 => (h.below ((Below.refl w.heap.size w).alloc (Nat.le_refl _) o1) hB).below ((Below.refl (w.alloc o1).heap.size (w.alloc o1)).alloc (Nat.le_refl _) o2) (by simp; omega)
  have HSB := Lib.hid hsb
  have e1 : (0 : Int) ≤ (at_ : Int) := by omega
  have e2 : (at_ : Int) ≤ 4000000000000 := by omega
  have e3 : ¬ (n : Int) - (at_ : Int) < 44 := by omega
  have e4 : (n : Int) ≤ 9223372036854775807 := by omega
  have e5 : (0 : Int) ≤ (n : Int) := by omega
  obtain ⟨a4, ha4⟩ : ∃ a4, at_ + 4 = a4 := ⟨_, rfl⟩
  have e6 : (at_ : Int) + 4 = (a4 : Int) := by omega
  have e7 : (a4 : Int) ≤ (c : Int) := by omega
  have e8 : a4 - at_ = 4 := by omega
  have e9 : ¬ c - at_ = 0 := by omega
  have f1 : (at_ : Int) ≤ (a4 : Int) := by omega
  have f2 : (a4 : Int) < (n : Int) := by omega
  have f3 : (0 : Int) ≤ (a4 : Int) := by omega
  have hS : strOfNums (natsI ((l.drop at_).take 4)) = ⟨#[84, 90, 105, 102]⟩ := (magic_text _ h4l hb4).2 hm
  have hcv : ∀ o1 o2, (convert 33 9 (.slice (some ⟨gb, off + at_, none⟩) 4 (c - at_))).run Try.prog ((w.alloc o1).alloc o2) = .ok (.string ⟨#[84, 90, 105, 102]⟩) ((w.alloc o1).alloc o2) := fun o1 o2 => by
    rw [← hS]
    exact (((HSB.out o1 o2).drop (k := at_) (by omega)).take (k := 4) (by omega)).texts
  obtain ⟨v, hv⟩ : ∃ v, l[a4]? = some v := ⟨_, List.getElem?_eq_getElem (by omega)⟩
  have hvv : (l.drop at_).getD 4 0 = v := by rw [drop_getD, ha4, List.getD_eq_getElem?_getD, hv]; rfl
  have hcx : ∀ o1 o2, ((w.alloc o1).alloc o2).cell? ⟨gb, off + a4, none⟩ = some (.int .u8 v) := fun o1 o2 => (HSB.out o1 o2).cells a4 v hv
  have HCN : Hid (∀ V j, SB V B (some ⟨gb, off, none⟩) n c l → j < 6 → Calls Try.prog 62 #[.slice (some ⟨gb, off, none⟩) n c, .int .i64 ((at_ + 20 + 4 * j : Nat) : Int), .int .i64 4] V fun e w' => e = .returned (.int .u64 (be ((l.drop (at_ + 20 + 4 * j)).take 4))) ∧ V = w') := Lib.hid fun V j hV hj => get_any l _ B n c (at_ + 20 + 4 * j) 4 V hV (by omega) (by omega) hb
  have hbl : ∀ j, be ((l.drop (at_ + 20 + 4 * j)).take 4) ≤ 4294967295 := fun j => be_take_lt hb _
  obtain ⟨cn, hcn⟩ : ∃ cn : Nat → Nat, ∀ j, be ((l.drop (at_ + 20 + 4 * j)).take 4) = cn j := ⟨_, fun _ => rfl⟩
  simp only [hcn] at HCN hbl
  have hhd : hdArr (hdOf (l.drop at_)) = .agg #[.int .i64 (cn 0), .int .i64 (cn 1), .int .i64 (cn 2), .int .i64 (cn 3), .int .i64 (cn 4), .int .i64 (cn 5)] := by
    unfold hdArr hdOf
    simp only [List.drop_drop]
    rw [← hcn 0, ← hcn 1, ← hcn 2, ← hcn 3, ← hcn 4, ← hcn 5]
  have hvr : (hdOf (l.drop at_)).version = v := hvv
  rw [hhd, hvr]
  rw [hvv] at hv0
  have HBL := Lib.hid hbl
  have HHB : Hid (B ≤ w.heap.size) := Lib.hid hB
  have HGB := Lib.hid hgb
  have HCX : Hid (l[a4]? = some v) := Lib.hid hv
  clear hbl hcn hhd hvr hvv hv hS h hB hb hk ha hm hl hnc hcm hb4 h4l hcell hgb hsb ha4
  subst hv0
  obtain ⟨X, hX⟩ : ∃ X, (w.alloc (.cells #[.int .i64 0, .int .i64 0, .int .i64 0, .int .i64 0, .int .i64 0, .int .i64 0] 96)).alloc (.cells #[.int .i64 0, .int .i64 0, .int .i64 0, .int .i64 0, .int .i64 0, .int .i64 0] 96) = X := ⟨_, rfl⟩
  have HX : Hid (Below w.heap.size w X ∧ X.heap.size = w.heap.size + 2 ∧ (∀ i u, (#[.int .i64 0, .int .i64 0, .int .i64 0, .int .i64 0, .int .i64 0, .int .i64 0] : Array Value)[i]? = some u → X.cell? ⟨w.heap.size, i, none⟩ = some u ∧ X.cell? ⟨w.heap.size + 1, i, none⟩ = some u) ∧ (∀ i, X.frozen? ⟨w.heap.size, i, none⟩ = false ∧ X.frozen? ⟨w.heap.size + 1, i, none⟩ = false) ∧ SB X B (some ⟨gb, off, none⟩) n c l) := Lib.hid (by
    rw [← hX]
    refine ⟨((Below.refl _ _).alloc (Nat.le_refl _) _).alloc (by simp) _, by simp, fun i u hu => ⟨cell_old _ _ _ _ _ (by simp) (cell_new w _ _ _ i u rfl hu), cell_new _ _ _ _ i u (by simp) hu⟩, fun i => ⟨?_, ?_⟩, HSB.out _ _⟩
    · exact (((Below.refl (w.heap.size + 1) _).alloc (by simp) _).frozen (p := ⟨w.heap.size, i, none⟩) (Nat.lt_succ_self _)).trans (frozen_of_row _ _ i _ _ (heap_alloc_new _ _))
    · exact frozen_of_row _ _ i _ _ (by have := heap_alloc_new (w.alloc (.cells #[.int .i64 0, .int .i64 0, .int .i64 0, .int .i64 0, .int .i64 0, .int .i64 0] 96)) (.cells #[.int .i64 0, .int .i64 0, .int .i64 0, .int .i64 0, .int .i64 0, .int .i64 0] 96); simpa using this))
  have hcv2 : (convert 33 9 (.slice (some ⟨gb, off + at_, none⟩) 4 (c - at_))).run Try.prog X = .ok (.string ⟨#[84, 90, 105, 102]⟩) X := by rw [← hX]; exact hcv _ _
  have hcx2 : X.cell? ⟨gb, off + a4, none⟩ = some (.int .u8 50) := by rw [← hX]; exact hcx _ _
  clear hcv hcx
  go_enter Try.func49, Try.ntmps49
  go_wp2_with fail
  obtain ⟨x1, x2, x3, x4, x5⟩ := HX.out
  have HX1 := Lib.hid x1; have HX2 := Lib.hid x2; have HX3 := Lib.hid x3; have HX4 := Lib.hid x4; have HX5 := Lib.hid x5
  have HCX2 := Lib.hid hcx2
  clear x1 x2 x3 x4 x5 HX hcv2 hcx2 hX
  have HNE : Hid (gb ≠ w.heap.size + 1 ∧ gb ≠ w.heap.size) := Lib.hid (by have := HGB.out; have := HHB.out; omega)
  go_loopw [8] (fun i wr => ∃ k : Nat, k ≤ 6 ∧ i = .int .i64 k ∧ (∀ j, j < 6 → wr.cell? ⟨w.heap.size + 1, j, none⟩ = some (.int .i64 (if j < k then (cn j : Int) else 0))) ∧ (∀ j, wr.frozen? ⟨w.heap.size + 1, j, none⟩ = false) ∧ X.grownBy wr (some (w.heap.size + 1))) (fun i _ => 6 - (intOf i).toNat)
  case atStart => exact ⟨0, Nat.zero_le _, rfl, fun j hj => (by
      rw [if_neg (Nat.not_lt_zero j)]
      match j, hj with
      | 0, _ => exact (HX3.out 0 _ rfl).2
      | 1, _ => exact (HX3.out 1 _ rfl).2
      | 2, _ => exact (HX3.out 2 _ rfl).2
      | 3, _ => exact (HX3.out 3 _ rfl).2
      | 4, _ => exact (HX3.out 4 _ rfl).2
      | 5, _ => exact (HX3.out 5 _ rfl).2
      | j + 6, hj => omega), fun j => (HX4.out j).2, World.grownBy.refl _ _⟩
  case round =>
    obtain ⟨k, hk6, rfl, hcl, hfz, hgr⟩ := hrel
    have HCL := Lib.hid hcl; have HFK := Lib.hid hfz; have HGR := Lib.hid hgr
    have HSW : Hid (SB wr B (some ⟨gb, off, none⟩) n c l) := Lib.hid (HX5.out.below (below_of_gb hgr (C := w.heap.size + 1) (Nat.le_refl _) (by rw [HX2.out]; omega)) (by have := HHB.out; omega))
    by_cases hlt : k < 6
    · have hk0 : (0 : Int) ≤ (k : Int) := by omega
      have hk1 : (k : Int) < 6 := by omega
      have ck := hcl k hlt
      rw [if_neg (Nat.lt_irrefl k)] at ck
      have fk := hfz k
      have HCK := Lib.hid ck
      clear hfz
      clear hcl hgr
      obtain ⟨q, hq⟩ : ∃ q, at_ + 20 + 4 * k = q := ⟨_, rfl⟩
      have e0 : (at_ : Int) + 20 + 4 * (k : Int) = (q : Int) := by omega
      have HGT := Lib.hid (HCN.out wr k HSW.out hlt)
      have hxb := HBL.out k
      obtain ⟨x, hx⟩ : ∃ x, cn k = x := ⟨_, rfl⟩
      rw [hq, hx] at HGT
      rw [hx] at hxb
      have HXK := Lib.hid hx
      have i0 : (0 : Int) ≤ (x : Int) := by omega
      have i1 : (x : Int) ≤ 4294967295 := by omega
      clear hq hx hxb
      go_wp2_with (first
        | (go_at_call 62; refine HGT.out.mono ?_; clear HGT; rintro e V ⟨rfl, rfl⟩)
        | fail)
      refine ⟨⟨k + 1, hlt, by go_num, fun j hj => ?_, fun j => by rw [World.frozen?_setCell]; exact HFK.out j, HGR.out.trans (grown_set wr _ k _)⟩, by simp [intOf]; omega⟩
      by_cases hjk : j = k
      · subst hjk
        rw [World.cell?_setCell_same _ _ _ HCK.out, if_pos (Nat.lt_succ_self _), HXK.out]
      · rw [set_other (Ne.symm hjk), HCL.out j hj]
        by_cases h2 : j < k
        · rw [if_pos h2, if_pos (by omega)]
        · rw [if_neg h2, if_neg (by omega)]
    · have hk1 : ¬ (k : Int) < 6 := by omega
      obtain rfl : k = 6 := by omega
      clear hcl hfz hgr
      have c0 : wr.cell? ⟨w.heap.size + 1, 0, none⟩ = some (.int .i64 (cn 0)) := by have := HCL.out 0 (by omega); rwa [if_pos (by omega)] at this
      have c1 : wr.cell? ⟨w.heap.size + 1, 1, none⟩ = some (.int .i64 (cn 1)) := by have := HCL.out 1 (by omega); rwa [if_pos (by omega)] at this
      have c2 : wr.cell? ⟨w.heap.size + 1, 2, none⟩ = some (.int .i64 (cn 2)) := by have := HCL.out 2 (by omega); rwa [if_pos (by omega)] at this
      have c3 : wr.cell? ⟨w.heap.size + 1, 3, none⟩ = some (.int .i64 (cn 3)) := by have := HCL.out 3 (by omega); rwa [if_pos (by omega)] at this
      have c4 : wr.cell? ⟨w.heap.size + 1, 4, none⟩ = some (.int .i64 (cn 4)) := by have := HCL.out 4 (by omega); rwa [if_pos (by omega)] at this
      have c5 : wr.cell? ⟨w.heap.size + 1, 5, none⟩ = some (.int .i64 (cn 5)) := by have := HCL.out 5 (by omega); rwa [if_pos (by omega)] at this
      have r0 := gb_cell HGR.out (by rw [HX2.out]; omega) (by omega) (HX3.out 0 _ rfl).1
      have r1 := gb_cell HGR.out (by rw [HX2.out]; omega) (by omega) (HX3.out 1 _ rfl).1
      have r2 := gb_cell HGR.out (by rw [HX2.out]; omega) (by omega) (HX3.out 2 _ rfl).1
      have r3 := gb_cell HGR.out (by rw [HX2.out]; omega) (by omega) (HX3.out 3 _ rfl).1
      have r4 := gb_cell HGR.out (by rw [HX2.out]; omega) (by omega) (HX3.out 4 _ rfl).1
      have r5 := gb_cell HGR.out (by rw [HX2.out]; omega) (by omega) (HX3.out 5 _ rfl).1
      have f0 : wr.frozen? ⟨w.heap.size, 0, none⟩ = false := (gb_frozen HGR.out (by rw [HX2.out]; omega) (by omega)).trans (HX4.out 0).1
      have f1 : wr.frozen? ⟨w.heap.size, 1, none⟩ = false := (gb_frozen HGR.out (by rw [HX2.out]; omega) (by omega)).trans (HX4.out 1).1
      have f2 : wr.frozen? ⟨w.heap.size, 2, none⟩ = false := (gb_frozen HGR.out (by rw [HX2.out]; omega) (by omega)).trans (HX4.out 2).1
      have f3 : wr.frozen? ⟨w.heap.size, 3, none⟩ = false := (gb_frozen HGR.out (by rw [HX2.out]; omega) (by omega)).trans (HX4.out 3).1
      have f4 : wr.frozen? ⟨w.heap.size, 4, none⟩ = false := (gb_frozen HGR.out (by rw [HX2.out]; omega) (by omega)).trans (HX4.out 4).1
      have f5 : wr.frozen? ⟨w.heap.size, 5, none⟩ = false := (gb_frozen HGR.out (by rw [HX2.out]; omega) (by omega)).trans (HX4.out 5).1
      have y0 : wr.cell? ⟨gb, off + a4, none⟩ = some (.int .u8 50) := gb_cell HGR.out (by rw [HX2.out]; have := HGB.out; have := HHB.out; omega) HNE.out.1 HCX2.out
      have hne : ∀ i, (⟨w.heap.size, i, none⟩ : Addr) ≠ ⟨gb, off + a4, none⟩ := fun i e => by injection e with e _ _; exact HNE.out.2 e.symm
      have y1 : ((((((wr.setCell ⟨w.heap.size, 0, none⟩ (.int .i64 (cn 0))).setCell ⟨w.heap.size, 1, none⟩ (.int .i64 (cn 1))).setCell ⟨w.heap.size, 2, none⟩ (.int .i64 (cn 2))).setCell ⟨w.heap.size, 3, none⟩ (.int .i64 (cn 3))).setCell ⟨w.heap.size, 4, none⟩ (.int .i64 (cn 4))).setCell ⟨w.heap.size, 5, none⟩ (.int .i64 (cn 5))).cell? ⟨gb, off + a4, none⟩ = some (.int .u8 50) := by
        rw [World.cell?_setCell_other _ _ _ _ (hne 5), World.cell?_setCell_other _ _ _ _ (hne 4), World.cell?_setCell_other _ _ _ _ (hne 3), World.cell?_setCell_other _ _ _ _ (hne 2), World.cell?_setCell_other _ _ _ _ (hne 1), World.cell?_setCell_other _ _ _ _ (hne 0)]; exact y0
      have HS1 : w.heap.size < wr.heap.size := by have := HGR.out.size; rw [HX2.out] at this; omega
      have HWB := Lib.hid (HX1.out.trans (below_of_gb HGR.out (C := w.heap.size) (Nat.le_succ _) (by rw [HX2.out]; omega)))
      clear hne
      go_wp2_with fail
      go_region
      go_wp2_with fail
      exact bodyPost_ret (v := .tuple #[.agg #[.int .i64 (cn 0), .int .i64 (cn 1), .int .i64 (cn 2), .int .i64 (cn 3), .int .i64 (cn 4), .int .i64 (cn 5)], .int .u8 50, .bool true]) (by simp [results, Try.results49, go_sem, r0, r1, r2, r3, r4, r5]) rfl ⟨rfl, (((((((HWB.out.setCell (Nat.le_refl _) _).setCell (Nat.le_refl _) _).setCell (Nat.le_refl _) _).setCell (Nat.le_refl _) _).setCell (Nat.le_refl _) _).setCell (Nat.le_refl _) _)).drew⟩
set_option maxRecDepth 100000 in
set_option maxHeartbeats 2000000 in
theorem counts_51 (l : List Nat) (A : Option Addr) (B n c at_ : Nat) (w : World) (h : SB w B A n c l) (hB : B ≤ w.heap.size) (hb : ∀ b ∈ l, b < 256) (hk : at_ + 44 ≤ n) (ha : at_ ≤ 4000000000000) (hm : (l.drop at_).take 4 = [84, 90, 105, 102]) (hv0 : (l.drop at_).getD 4 0 = 51) :
    Calls Try.prog 49 #[.slice A n c, .int .i64 at_] w fun e w' => e = .returned (.tuple #[hdArr (hdOf (l.drop at_)), .int .u8 (hdOf (l.drop at_)).version, .bool true]) ∧ Below w.heap.size w w' := by
  have hl := h.1
  have hnc := h.2.1
  have hcm := h.2.2.1
  have hb4 : ∀ b ∈ (l.drop at_).take 4, b < 256 := fun b hx => hb b (List.mem_of_mem_drop (List.mem_of_mem_take hx))
  have h4l : ((l.drop at_).take 4).length = 4 := by rw [List.length_take, List.length_drop]; omega
  rcases h.2.2.2 with ⟨_, e⟩ | ⟨gb, off, rfl, hgb, hcell⟩
  · omega
  have hsb : ∀ o1 o2, SB ((w.alloc o1).alloc o2) B (some ⟨gb, off, none⟩) n c l := fun o1 o2 => (h.below ((Below.refl w.heap.size w).alloc (Nat.le_refl _) o1) hB).below ((Below.refl (w.alloc o1).heap.size (w.alloc o1)).alloc (Nat.le_refl _) o2) (by simp; omega)
  have HSB := Lib.hid hsb
  have e1 : (0 : Int) ≤ (at_ : Int) := by omega
  have e2 : (at_ : Int) ≤ 4000000000000 := by omega
  have e3 : ¬ (n : Int) - (at_ : Int) < 44 := by omega
  have e4 : (n : Int) ≤ 9223372036854775807 := by omega
  have e5 : (0 : Int) ≤ (n : Int) := by omega
  obtain ⟨a4, ha4⟩ : ∃ a4, at_ + 4 = a4 := ⟨_, rfl⟩
  have e6 : (at_ : Int) + 4 = (a4 : Int) := by omega
  have e7 : (a4 : Int) ≤ (c : Int) := by omega
  have e8 : a4 - at_ = 4 := by omega
  have e9 : ¬ c - at_ = 0 := by omega
  have f1 : (at_ : Int) ≤ (a4 : Int) := by omega
  have f2 : (a4 : Int) < (n : Int) := by omega
  have f3 : (0 : Int) ≤ (a4 : Int) := by omega
  have hS : strOfNums (natsI ((l.drop at_).take 4)) = ⟨#[84, 90, 105, 102]⟩ := (magic_text _ h4l hb4).2 hm
  have hcv : ∀ o1 o2, (convert 33 9 (.slice (some ⟨gb, off + at_, none⟩) 4 (c - at_))).run Try.prog ((w.alloc o1).alloc o2) = .ok (.string ⟨#[84, 90, 105, 102]⟩) ((w.alloc o1).alloc o2) := fun o1 o2 => by
    rw [← hS]
    exact (((HSB.out o1 o2).drop (k := at_) (by omega)).take (k := 4) (by omega)).texts
  obtain ⟨v, hv⟩ : ∃ v, l[a4]? = some v := ⟨_, List.getElem?_eq_getElem (by omega)⟩
  have hvv : (l.drop at_).getD 4 0 = v := by rw [drop_getD, ha4, List.getD_eq_getElem?_getD, hv]; rfl
  have hcx : ∀ o1 o2, ((w.alloc o1).alloc o2).cell? ⟨gb, off + a4, none⟩ = some (.int .u8 v) := fun o1 o2 => (HSB.out o1 o2).cells a4 v hv
  have HCN : Hid (∀ V j, SB V B (some ⟨gb, off, none⟩) n c l → j < 6 → Calls Try.prog 62 #[.slice (some ⟨gb, off, none⟩) n c, .int .i64 ((at_ + 20 + 4 * j : Nat) : Int), .int .i64 4] V fun e w' => e = .returned (.int .u64 (be ((l.drop (at_ + 20 + 4 * j)).take 4))) ∧ V = w') := Lib.hid fun V j hV hj => get_any l _ B n c (at_ + 20 + 4 * j) 4 V hV (by omega) (by omega) hb
  have hbl : ∀ j, be ((l.drop (at_ + 20 + 4 * j)).take 4) ≤ 4294967295 := fun j => be_take_lt hb _
  obtain ⟨cn, hcn⟩ : ∃ cn : Nat → Nat, ∀ j, be ((l.drop (at_ + 20 + 4 * j)).take 4) = cn j := ⟨_, fun _ => rfl⟩
  simp only [hcn] at HCN hbl
  have hhd : hdArr (hdOf (l.drop at_)) = .agg #[.int .i64 (cn 0), .int .i64 (cn 1), .int .i64 (cn 2), .int .i64 (cn 3), .int .i64 (cn 4), .int .i64 (cn 5)] := by
    unfold hdArr hdOf
    simp only [List.drop_drop]
    rw [← hcn 0, ← hcn 1, ← hcn 2, ← hcn 3, ← hcn 4, ← hcn 5]
  have hvr : (hdOf (l.drop at_)).version = v := hvv
  rw [hhd, hvr]
  rw [hvv] at hv0
  have HBL := Lib.hid hbl
  have HHB : Hid (B ≤ w.heap.size) := Lib.hid hB
  have HGB := Lib.hid hgb
  have HCX : Hid (l[a4]? = some v) := Lib.hid hv
  clear hbl hcn hhd hvr hvv hv hS h hB hb hk ha hm hl hnc hcm hb4 h4l hcell hgb hsb ha4
  subst hv0
  obtain ⟨X, hX⟩ : ∃ X, (w.alloc (.cells #[.int .i64 0, .int .i64 0, .int .i64 0, .int .i64 0, .int .i64 0, .int .i64 0] 96)).alloc (.cells #[.int .i64 0, .int .i64 0, .int .i64 0, .int .i64 0, .int .i64 0, .int .i64 0] 96) = X := ⟨_, rfl⟩
  have HX : Hid (Below w.heap.size w X ∧ X.heap.size = w.heap.size + 2 ∧ (∀ i u, (#[.int .i64 0, .int .i64 0, .int .i64 0, .int .i64 0, .int .i64 0, .int .i64 0] : Array Value)[i]? = some u → X.cell? ⟨w.heap.size, i, none⟩ = some u ∧ X.cell? ⟨w.heap.size + 1, i, none⟩ = some u) ∧ (∀ i, X.frozen? ⟨w.heap.size, i, none⟩ = false ∧ X.frozen? ⟨w.heap.size + 1, i, none⟩ = false) ∧ SB X B (some ⟨gb, off, none⟩) n c l) := Lib.hid (by
    rw [← hX]
    refine ⟨((Below.refl _ _).alloc (Nat.le_refl _) _).alloc (by simp) _, by simp, fun i u hu => ⟨cell_old _ _ _ _ _ (by simp) (cell_new w _ _ _ i u rfl hu), cell_new _ _ _ _ i u (by simp) hu⟩, fun i => ⟨?_, ?_⟩, HSB.out _ _⟩
    · exact (((Below.refl (w.heap.size + 1) _).alloc (by simp) _).frozen (p := ⟨w.heap.size, i, none⟩) (Nat.lt_succ_self _)).trans (frozen_of_row _ _ i _ _ (heap_alloc_new _ _))
    · exact frozen_of_row _ _ i _ _ (by have := heap_alloc_new (w.alloc (.cells #[.int .i64 0, .int .i64 0, .int .i64 0, .int .i64 0, .int .i64 0, .int .i64 0] 96)) (.cells #[.int .i64 0, .int .i64 0, .int .i64 0, .int .i64 0, .int .i64 0, .int .i64 0] 96); simpa using this))
  have hcv2 : (convert 33 9 (.slice (some ⟨gb, off + at_, none⟩) 4 (c - at_))).run Try.prog X = .ok (.string ⟨#[84, 90, 105, 102]⟩) X := by rw [← hX]; exact hcv _ _
  have hcx2 : X.cell? ⟨gb, off + a4, none⟩ = some (.int .u8 51) := by rw [← hX]; exact hcx _ _
  clear hcv hcx
  go_enter Try.func49, Try.ntmps49
  go_wp2_with fail
  obtain ⟨x1, x2, x3, x4, x5⟩ := HX.out
  have HX1 := Lib.hid x1; have HX2 := Lib.hid x2; have HX3 := Lib.hid x3; have HX4 := Lib.hid x4; have HX5 := Lib.hid x5
  have HCX2 := Lib.hid hcx2
  clear x1 x2 x3 x4 x5 HX hcv2 hcx2 hX
  have HNE : Hid (gb ≠ w.heap.size + 1 ∧ gb ≠ w.heap.size) := Lib.hid (by have := HGB.out; have := HHB.out; omega)
  go_loopw [8] (fun i wr => ∃ k : Nat, k ≤ 6 ∧ i = .int .i64 k ∧ (∀ j, j < 6 → wr.cell? ⟨w.heap.size + 1, j, none⟩ = some (.int .i64 (if j < k then (cn j : Int) else 0))) ∧ (∀ j, wr.frozen? ⟨w.heap.size + 1, j, none⟩ = false) ∧ X.grownBy wr (some (w.heap.size + 1))) (fun i _ => 6 - (intOf i).toNat)
  case atStart => exact ⟨0, Nat.zero_le _, rfl, fun j hj => (by
      rw [if_neg (Nat.not_lt_zero j)]
      match j, hj with
      | 0, _ => exact (HX3.out 0 _ rfl).2
      | 1, _ => exact (HX3.out 1 _ rfl).2
      | 2, _ => exact (HX3.out 2 _ rfl).2
      | 3, _ => exact (HX3.out 3 _ rfl).2
      | 4, _ => exact (HX3.out 4 _ rfl).2
      | 5, _ => exact (HX3.out 5 _ rfl).2
      | j + 6, hj => omega), fun j => (HX4.out j).2, World.grownBy.refl _ _⟩
  case round =>
    obtain ⟨k, hk6, rfl, hcl, hfz, hgr⟩ := hrel
    have HCL := Lib.hid hcl; have HFK := Lib.hid hfz; have HGR := Lib.hid hgr
    have HSW : Hid (SB wr B (some ⟨gb, off, none⟩) n c l) := Lib.hid (HX5.out.below (below_of_gb hgr (C := w.heap.size + 1) (Nat.le_refl _) (by rw [HX2.out]; omega)) (by have := HHB.out; omega))
    by_cases hlt : k < 6
    · have hk0 : (0 : Int) ≤ (k : Int) := by omega
      have hk1 : (k : Int) < 6 := by omega
      have ck := hcl k hlt
      rw [if_neg (Nat.lt_irrefl k)] at ck
      have fk := hfz k
      have HCK := Lib.hid ck
      clear hfz
      clear hcl hgr
      obtain ⟨q, hq⟩ : ∃ q, at_ + 20 + 4 * k = q := ⟨_, rfl⟩
      have e0 : (at_ : Int) + 20 + 4 * (k : Int) = (q : Int) := by omega
      have HGT := Lib.hid (HCN.out wr k HSW.out hlt)
      have hxb := HBL.out k
      obtain ⟨x, hx⟩ : ∃ x, cn k = x := ⟨_, rfl⟩
      rw [hq, hx] at HGT
      rw [hx] at hxb
      have HXK := Lib.hid hx
      have i0 : (0 : Int) ≤ (x : Int) := by omega
      have i1 : (x : Int) ≤ 4294967295 := by omega
      clear hq hx hxb
      go_wp2_with (first
        | (go_at_call 62; refine HGT.out.mono ?_; clear HGT; rintro e V ⟨rfl, rfl⟩)
        | fail)
      refine ⟨⟨k + 1, hlt, by go_num, fun j hj => ?_, fun j => by rw [World.frozen?_setCell]; exact HFK.out j, HGR.out.trans (grown_set wr _ k _)⟩, by simp [intOf]; omega⟩
      by_cases hjk : j = k
      · subst hjk
        rw [World.cell?_setCell_same _ _ _ HCK.out, if_pos (Nat.lt_succ_self _), HXK.out]
      · rw [set_other (Ne.symm hjk), HCL.out j hj]
        by_cases h2 : j < k
        · rw [if_pos h2, if_pos (by omega)]
        · rw [if_neg h2, if_neg (by omega)]
    · have hk1 : ¬ (k : Int) < 6 := by omega
      obtain rfl : k = 6 := by omega
      clear hcl hfz hgr
      have c0 : wr.cell? ⟨w.heap.size + 1, 0, none⟩ = some (.int .i64 (cn 0)) := by have := HCL.out 0 (by omega); rwa [if_pos (by omega)] at this
      have c1 : wr.cell? ⟨w.heap.size + 1, 1, none⟩ = some (.int .i64 (cn 1)) := by have := HCL.out 1 (by omega); rwa [if_pos (by omega)] at this
      have c2 : wr.cell? ⟨w.heap.size + 1, 2, none⟩ = some (.int .i64 (cn 2)) := by have := HCL.out 2 (by omega); rwa [if_pos (by omega)] at this
      have c3 : wr.cell? ⟨w.heap.size + 1, 3, none⟩ = some (.int .i64 (cn 3)) := by have := HCL.out 3 (by omega); rwa [if_pos (by omega)] at this
      have c4 : wr.cell? ⟨w.heap.size + 1, 4, none⟩ = some (.int .i64 (cn 4)) := by have := HCL.out 4 (by omega); rwa [if_pos (by omega)] at this
      have c5 : wr.cell? ⟨w.heap.size + 1, 5, none⟩ = some (.int .i64 (cn 5)) := by have := HCL.out 5 (by omega); rwa [if_pos (by omega)] at this
      have r0 := gb_cell HGR.out (by rw [HX2.out]; omega) (by omega) (HX3.out 0 _ rfl).1
      have r1 := gb_cell HGR.out (by rw [HX2.out]; omega) (by omega) (HX3.out 1 _ rfl).1
      have r2 := gb_cell HGR.out (by rw [HX2.out]; omega) (by omega) (HX3.out 2 _ rfl).1
      have r3 := gb_cell HGR.out (by rw [HX2.out]; omega) (by omega) (HX3.out 3 _ rfl).1
      have r4 := gb_cell HGR.out (by rw [HX2.out]; omega) (by omega) (HX3.out 4 _ rfl).1
      have r5 := gb_cell HGR.out (by rw [HX2.out]; omega) (by omega) (HX3.out 5 _ rfl).1
      have f0 : wr.frozen? ⟨w.heap.size, 0, none⟩ = false := (gb_frozen HGR.out (by rw [HX2.out]; omega) (by omega)).trans (HX4.out 0).1
      have f1 : wr.frozen? ⟨w.heap.size, 1, none⟩ = false := (gb_frozen HGR.out (by rw [HX2.out]; omega) (by omega)).trans (HX4.out 1).1
      have f2 : wr.frozen? ⟨w.heap.size, 2, none⟩ = false := (gb_frozen HGR.out (by rw [HX2.out]; omega) (by omega)).trans (HX4.out 2).1
      have f3 : wr.frozen? ⟨w.heap.size, 3, none⟩ = false := (gb_frozen HGR.out (by rw [HX2.out]; omega) (by omega)).trans (HX4.out 3).1
      have f4 : wr.frozen? ⟨w.heap.size, 4, none⟩ = false := (gb_frozen HGR.out (by rw [HX2.out]; omega) (by omega)).trans (HX4.out 4).1
      have f5 : wr.frozen? ⟨w.heap.size, 5, none⟩ = false := (gb_frozen HGR.out (by rw [HX2.out]; omega) (by omega)).trans (HX4.out 5).1
      have y0 : wr.cell? ⟨gb, off + a4, none⟩ = some (.int .u8 51) := gb_cell HGR.out (by rw [HX2.out]; have := HGB.out; have := HHB.out; omega) HNE.out.1 HCX2.out
      have hne : ∀ i, (⟨w.heap.size, i, none⟩ : Addr) ≠ ⟨gb, off + a4, none⟩ := fun i e => by injection e with e _ _; exact HNE.out.2 e.symm
      have y1 : ((((((wr.setCell ⟨w.heap.size, 0, none⟩ (.int .i64 (cn 0))).setCell ⟨w.heap.size, 1, none⟩ (.int .i64 (cn 1))).setCell ⟨w.heap.size, 2, none⟩ (.int .i64 (cn 2))).setCell ⟨w.heap.size, 3, none⟩ (.int .i64 (cn 3))).setCell ⟨w.heap.size, 4, none⟩ (.int .i64 (cn 4))).setCell ⟨w.heap.size, 5, none⟩ (.int .i64 (cn 5))).cell? ⟨gb, off + a4, none⟩ = some (.int .u8 51) := by
        rw [World.cell?_setCell_other _ _ _ _ (hne 5), World.cell?_setCell_other _ _ _ _ (hne 4), World.cell?_setCell_other _ _ _ _ (hne 3), World.cell?_setCell_other _ _ _ _ (hne 2), World.cell?_setCell_other _ _ _ _ (hne 1), World.cell?_setCell_other _ _ _ _ (hne 0)]; exact y0
      have HS1 : w.heap.size < wr.heap.size := by have := HGR.out.size; rw [HX2.out] at this; omega
      have HWB := Lib.hid (HX1.out.trans (below_of_gb HGR.out (C := w.heap.size) (Nat.le_succ _) (by rw [HX2.out]; omega)))
      clear hne
      go_wp2_with fail
      go_region
      go_wp2_with fail
      exact bodyPost_ret (v := .tuple #[.agg #[.int .i64 (cn 0), .int .i64 (cn 1), .int .i64 (cn 2), .int .i64 (cn 3), .int .i64 (cn 4), .int .i64 (cn 5)], .int .u8 51, .bool true]) (by simp [results, Try.results49, go_sem, r0, r1, r2, r3, r4, r5]) rfl ⟨rfl, (((((((HWB.out.setCell (Nat.le_refl _) _).setCell (Nat.le_refl _) _).setCell (Nat.le_refl _) _).setCell (Nat.le_refl _) _).setCell (Nat.le_refl _) _).setCell (Nat.le_refl _) _)).drew⟩
/-- What counts answers. -/
def CntP (l : List Nat) (e : Ending) : Prop := (hdGood l = false → e = .returned (.tuple #[noArr, .int .u8 0, .bool false])) ∧ (hdGood l = true → e = .returned (.tuple #[hdArr (hdOf l), .int .u8 (hdOf l).version, .bool true]))
theorem rcounts_any (l : List Nat) (A : Option Addr) (B n c at_ : Nat) (w : World) (h : SB w B A n c l) (hB : B ≤ w.heap.size) (hb : ∀ b ∈ l, b < 256) (ha : at_ ≤ 4000000000000) :
    Calls Try.prog 49 #[.slice A n c, .int .i64 at_] w fun e w' => CntP (l.drop at_) e ∧ Below w.heap.size w w' := by
  by_cases hk : at_ + 44 ≤ n
  · have h44 : 44 ≤ (l.drop at_).length := by rw [List.length_drop]; have := h.1; omega
    by_cases hm : (l.drop at_).take 4 = [84, 90, 105, 102]
    · by_cases h1 : (l.drop at_).getD 4 0 = 0
      · exact (counts_0 l A B n c at_ w h hB hb hk ha hm h1).mono fun e w' ⟨he, hw⟩ => ⟨⟨fun hg => by unfold hdGood at hg; rw [decide_eq_true h44, decide_eq_true hm, decide_eq_true h1] at hg; simp at hg, fun _ => he⟩, hw⟩
      · by_cases h2 : (l.drop at_).getD 4 0 = 50
        · exact (counts_50 l A B n c at_ w h hB hb hk ha hm h2).mono fun e w' ⟨he, hw⟩ => ⟨⟨fun hg => by unfold hdGood at hg; rw [decide_eq_true h44, decide_eq_true hm, decide_eq_true h2] at hg; simp at hg, fun _ => he⟩, hw⟩
        · by_cases h3 : (l.drop at_).getD 4 0 = 51
          · exact (counts_51 l A B n c at_ w h hB hb hk ha hm h3).mono fun e w' ⟨he, hw⟩ => ⟨⟨fun hg => by unfold hdGood at hg; rw [decide_eq_true h44, decide_eq_true hm, decide_eq_true h3] at hg; simp at hg, fun _ => he⟩, hw⟩
          · exact (counts_c l A B n c at_ w h hB hb hk ha hm ⟨h1, h2, h3⟩).mono fun e w' ⟨he, hw⟩ => ⟨⟨fun _ => he, fun hg => by unfold hdGood at hg; rw [decide_eq_false h1, decide_eq_false h2, decide_eq_false h3] at hg; simp at hg⟩, hw⟩
    · exact (counts_b l A B n c at_ w h hB hb hk ha hm).mono fun e w' ⟨he, hw⟩ => ⟨⟨fun _ => he, fun hg => by unfold hdGood at hg; rw [decide_eq_false hm] at hg; simp at hg⟩, hw⟩
  · refine (counts_a A n c at_ w (by omega) ha (by have := h.2.1; have := h.2.2.1; omega)).mono fun e w' ⟨he, hw⟩ => ⟨⟨fun _ => he, fun hg => ?_⟩, hw⟩
    rw [good_short (by rw [List.length_drop]; have := h.1; omega)] at hg
    cases hg
end Go.Proofs.Ytohpdpcjhmopbaa.Tz

/-! Layer 6 (tzif): one number, one type put behind a row of the call's own, as steps of a region that draws its order. -/
namespace Go.Proofs.Ytohpdpcjhmopbaa.Tz
open Go.RowKit

set_option maxRecDepth 100000 in
theorem wp_append_int {o : Oper} {a : Act} {w : World} {K : Act → World → Prop} {Q : Exit → Act → World → Prop} (s x : Operand) (ts te : TypeId) (hT : Try.prog.underlying ts = some (.slice te)) (hI : (Try.prog.info? te).map (fun i => (i.zero, i.size, i.bytes)) = some (some (.int .i64 0), 1, 8))
    (ho : o.op = .call { callee := .builtin .append, args := #[s, x], argTypes := #[ts, ts] }) (base n : Nat) (v : Value) (xs : List Int) (y : Int) (g : Nat)
    (hs : a.eval s = v) (hx : a.eval x = .slice (some ⟨g, 0, none⟩) 1 1) (hown : OwnI w base te v xs) (hz : w.cell? ⟨g, 0, none⟩ = some (.int .i64 y)) (hlen : xs.length ≤ 1000000) (hbase : base ≤ w.heap.size) (hn : xs.length + 1 = n)
    (h : ∀ A c w', OwnI w' base te (.slice A n c) (xs ++ [y]) → Grew w w' v (.slice A n c) → K (a.put o.dst (.slice A n c)) w') : Oper.wp Try.prog o a w K Q := by
  obtain ⟨i, hi, hz0, hz1, hz2⟩ := info_parts hI
  obtain ⟨v', w', hr, h2, h3, _, h5⟩ := run_append_own_at (P := Try.prog) w base ts o.type te i _ 1 8 hT hi hz0 hz1 hz2 rfl (by decide) v xs.length (xs.map (Value.int .i64)) hown ⟨g, 0, none⟩ 1 1 [.int .i64 y] rfl (by
    intro j u hu
    match j, hu with
    | 0, hu => simp at hu; subst hu; rw [Own_add]; exact hz) (fun u hu => by simp at hu; subst hu; rfl) (by unfold maxLen; omega) (by omega) hbase
  have hO : OwnI w' base te v' (xs ++ [y]) := by unfold OwnI; rw [List.map_append, List.length_append]; exact h2
  obtain ⟨A, c, e⟩ := hO.form
  rw [List.length_append, List.length_singleton, hn] at e
  subst e
  unfold Oper.wp execOp
  simp only [ho, resolve, invoke, builtin, Sem.run_bind, Sem.run_pure, Result.andThen_ok, List.map_toArray, List.map_cons, List.map_nil, hs, hx, hr]
  exact h A c w' hO ⟨h3, h5.imp id fun e => ⟨_, e, Nat.le_refl _⟩⟩
section
variable {w w' : World} {base : Nat} {v : Value} {l : List Ty}
theorem OwnT.alloc (h : OwnT w base v l) (o : Obj) : OwnT (w.alloc o) base v l := World.ownsRow.alloc h o
theorem OwnT.other {g : Nat} (h : OwnT w base v l) (hg : w.grownBy w' (some g)) (hb : g < base) : OwnT w' base v l :=
  World.ownsRow.kept h hg (by
    cases hv : v.ownBlock with
    | none => exact .inl rfl
    | some k => exact .inr (fun e => by injection e with e; have := (h.lt k hv).1; omega))
end
set_option maxRecDepth 100000 in
theorem wp_append_rt {o : Oper} {a : Act} {w : World} {K : Act → World → Prop} {Q : Exit → Act → World → Prop} (s x : Operand)
    (ho : o.op = .call { callee := .builtin .append, args := #[s, x], argTypes := #[29, 29] }) (base n : Nat) (v : Value) (l : List Ty) (y : Ty) (g : Nat)
    (hs : a.eval s = v) (hx : a.eval x = .slice (some ⟨g, 0, none⟩) 1 1) (hown : OwnT w base v l) (hz : ∀ j u, (tyCells y)[j]? = some u → w.cell? ((⟨g, 0, none⟩ : Addr).add j) = some u) (hlen : l.length ≤ 1000000) (hbase : base ≤ w.heap.size) (hn : l.length + 1 = n)
    (h : ∀ A c w', OwnT w' base (.slice A n c) (l ++ [y]) → Grew w w' v (.slice A n c) → K (a.put o.dst (.slice A n c)) w') : Oper.wp Try.prog o a w K Q := by
  obtain ⟨i, hi, hz0, hz1, hz2⟩ := info_parts ty_info
  obtain ⟨v', w', hr, h2, h3, _, h5⟩ := run_append_own_at (P := Try.prog) w base 29 o.type 56 i _ 3 32 Try.underlying29 hi hz0 hz1 hz2 rfl (by decide) v l.length (l.flatMap tyCells) hown ⟨g, 0, none⟩ 1 1 (tyCells y) rfl hz (by simp [tyCells, Value.oneCell']) (by unfold maxLen; omega) (by omega) hbase
  have hO : OwnT w' base v' (l ++ [y]) := by
    unfold OwnT
    rw [List.length_append, List.flatMap_append]
    simpa using h2
  obtain ⟨A, c, e⟩ := hO.form
  rw [List.length_append, List.length_singleton, hn] at e
  subst e
  unfold Oper.wp execOp
  simp only [ho, resolve, invoke, builtin, Sem.run_bind, Sem.run_pure, Result.andThen_ok, List.map_toArray, List.map_cons, List.map_nil, hs, hx, hr]
  exact h A c w' hO ⟨h3, h5.imp id fun e => ⟨_, e, Nat.le_refl _⟩⟩
theorem vals_at (kk : Nat) (val : List Nat → Int) : ∀ (n : Nat) (l : List Nat) (k : Nat), k < n → (vals kk val n l)[k]? = some (val ((l.drop (kk * k)).take kk))
  | 0, _, _, h => by omega
  | n + 1, l, 0, _ => rfl
  | n + 1, l, k + 1, h => by
    show (vals kk val n (l.drop kk))[k]? = _
    rw [vals_at kk val n (l.drop kk) k (by omega), List.drop_drop, Nat.mul_add, Nat.mul_one, Nat.add_comm kk (kk * k)]
theorem rws_at : ∀ (n : Nat) (l : List Nat) (k : Nat), k < n → (rws n l)[k]? = some (rwOf (l.drop (6 * k)))
  | 0, _, _, h => by omega
  | n + 1, l, 0, _ => rfl
  | n + 1, l, k + 1, h => by
    show (rws n (l.drop 6))[k]? = _
    rw [rws_at n (l.drop 6) k (by omega), List.drop_drop, Nat.mul_add, Nat.mul_one, Nat.add_comm 6 (6 * k)]
theorem be_one (l : List Nat) (i b : Nat) (h : l[i]? = some b) : be ((l.drop i).take 1) = b := by
  have hl : i < l.length := (List.getElem?_eq_some_iff.1 h).1
  have e : l.drop i = b :: l.drop (i + 1) := by
    rw [List.drop_eq_getElem_cons hl]
    rw [List.getElem?_eq_getElem hl] at h
    injection h with h; rw [h]
  rw [e]
  show 0 * 256 + b = b
  omega
theorem OwnI.beside {w w' : World} {base : Nat} {te : TypeId} {u v v' : Value} {ys : List Int} (h : OwnI w base te u ys) (hg : Grew w w' v v') (ha : Apart u v) : OwnI w' base te u ys := World.ownsRow.kept h hg.gr ha
theorem OwnI.apart {w w' : World} {base : Nat} {te : TypeId} {u v v' : Value} {ys : List Int} (h : OwnI w base te u ys) (hg : Grew w w' v v') (ha : Apart u v) : Apart u v' := by
  rcases ha with ha | ha
  · exact .inl ha
  · rcases hg.at_ with e | ⟨k, e, hk⟩
    · exact .inr (by rw [e]; exact ha)
    · exact .inr (by rw [e]; intro c; have := (h.lt k c).2; omega)
end Go.Proofs.Ytohpdpcjhmopbaa.Tz
