/-
  Layer 5: the law VfsRename: its walk.
-/
import Derived.Test.YtdbcjiapbehacaaGreatDoorVpI
import Derived.LoopN
namespace Go.Proofs.YtdbcjiapbehacaaGreatDoor.Vp
open Go.RowKit Go.Maps
open Go.Proofs.YtdbcjiapbehacaaGreatDoor.Vf (Hold OwnR Moves ret_int Moves.refl Moves.trans Hold.keep)

/-- A block of cells of another type is none that it writes. -/
theorem At.off_cells {w : World} {p : Nat} {s : Pf} {l : Loc} (h : At w p s l) {g : Nat} {cur : Array Value} {fr : Nat × Nat} {t : TypeId} (hg : w.heap[g]? = some (.cells cur t fr)) (h1 : t ≠ 58) (h2 : t ≠ 83) (h3 : t ≠ 86) : ¬ Foot p s l g := by
  have hm : ∀ {b : Nat}, (∃ es clock, w.heap[b]? = some (.map es clock)) → g ≠ b := by
    rintro b ⟨es, clock, hb⟩ rfl
    rw [hg] at hb; cases hb
  rintro (e | e | e | e | ⟨i, hi, e⟩ | ⟨x, hx, e⟩)
  · exact cells_ty hg (show w.heap[p]? = _ from h.top) h1 e
  · exact hm h.waits.kind e
  · exact hm h.names.kind e
  · exact hm h.dur.kind e
  · exact cells_ty hg (show w.heap[l.loc i]? = _ from (h.files i hi).2.2) h2 e
  · obtain ⟨cur2, hc⟩ := (h.rows x hx).kind e
    exact cells_ty hg hc h3 rfl
theorem strs_after {w w' : World} {p : Nat} {s s' : Pf} {l : Loc} {b : Nat} {cs : List Value} (h : At w p s l) (ha : After w p s s' l w') (hb : Hold w b 9 cs) : Hold w' b 9 cs := by
  obtain ⟨_, _, hm⟩ := ha
  have hb' : w.heap[b]? = _ := hb
  exact hb.keep (hm.stay b (Array.getElem?_eq_some_iff.1 hb').1 (h.off_cells hb' (by decide) (by decide) (by decide)))
theorem after_p {w w' : World} {p : Nat} {s : Pf} {l : Loc} {n : Int} (hA : At w' p { s with left := n } l) (hg : w.grownBy w' (some p)) : After w p s { s with left := n } l w' :=
  ⟨l, hA, hg.os, hg.tape, hg.output, hg.size, fun g hl hn => hg.block g hl (fun e => by injection e with e; exact hn (.inl e)), fun _ h => .inl h⟩
/-- Bytes made of a text: the row, and the world behind. -/
def convV (W : World) (t : ByteArray) : Value := .slice (some ⟨W.heap.size, 0, none⟩) t.size (grownCap W t.size 0 5)
def convW (W : World) (t : ByteArray) : World := W.drew.alloc (.cells (bytesRow t (grownCap W t.size 0 5)) 5 ((bytesRow t (grownCap W t.size 0 5)).size, (bytesRow t (grownCap W t.size 0 5)).size + 1))
theorem conv_run (t : ByteArray) (W : World) : (convert 9 38 (.string t)).run Tryz.prog W = .ok (convV W t) (convW W t) := run_bytes_of_string (P := Tryz.prog) W 9 38 5 t Tryz.underlying9 Tryz.underlying38 Tryz.underlying5
theorem conv_below (t : ByteArray) (W : World) : Below W.heap.size W (convW W t) := ((Below.refl _ _).drew).alloc (Nat.le_refl _) _
theorem conv_at (t : ByteArray) (W : World) : BytesAt (convW W t) (convV W t) t := NewB.bytes (base := 0) ⟨W.heap.size, _, _, rfl, Nat.zero_le _, heap_alloc_new W.drew _⟩
theorem write_at {w W w' : World} {p : Nat} {s s' : Pf} {l : Loc} {t : ByteArray} {b : Nat} {cs : List Value} (h : One w p s l W) (hb : Hold W b 9 cs) (ha : After (convW W t) p s s' l w') : (∃ l', One w p s' l' w') ∧ Hold w' b 9 cs :=
  ⟨(h.keep (conv_below t W)).on ha, strs_after (h.keep (conv_below t W)).f ha (hb.keep ((conv_below t W).block b (Go.Proofs.YtdbcjiapbehacaaGreatDoor.Vf.Hold.lt hb)))⟩
set_option maxRecDepth 100000 in
set_option maxHeartbeats 8000000 in
theorem vfsRename_b2 (old other : ByteArray) (crash n r : Int) (sync : Bool) (choice : Int) (w : World) (h1 : old.size ≤ 300) (h2 : other.size ≤ 300) (hn : n = 0 ∨ n = 1 ∨ n = 2 ∨ n = 3) (hrem : crash.tmod 4 = n) (hr : renameRes (a6 old other n) pNew pName = r) (hend : rebootS (a8 old other n sync) choice = b2 old other) (hr0 : r = 0 ∨ r ≠ 0) :
    Calls Tryz.prog 5 #[.string old, .string other, .int .u8 crash, .bool sync, .int .i64 choice] w fun e w' => e = .returned (.bool true) ∧ Below w.heap.size w w' := by
  have hn0 : 0 ≤ n ∧ n ≤ 3 := by omega
  have HW1 : Hid (∀ W p l b cs, One w p (newS 10000) l W → Hold W b 9 cs → Calls Tryz.prog 16 #[.pointer (some ⟨p, 0, none⟩), .string ⟨#[47, 110, 101, 119]⟩, convV W old] (convW W old) fun e w' => e = .returned (.int .i64 0) ∧ (∃ l', One w p (a1 old) l' w') ∧ Hold w' b 9 cs) := Lib.hid fun W p l b cs h hb => (write_any p _ l 1 pNew old _ _ (h.keep (conv_below old W)).f (fine_new 10000).fits (by omega) okNew (conv_at old W)).mono fun e w' ⟨he, ha⟩ => ⟨by rw [he, res1 h1], write_at h hb (by rw [← to1 h1]; exact ha)⟩
  have HY1 : Hid (∀ W p l b cs, One w p (a1 old) l W → Hold W b 9 cs → Calls Tryz.prog 17 #[.pointer (some ⟨p, 0, none⟩), .string ⟨#[47, 110, 101, 119]⟩] W fun e w' => e = .returned (.int .i64 0) ∧ (∃ l', One w p (a2 old) l' w') ∧ Hold w' b 9 cs) := Lib.hid fun W p l b cs h hb => (sync_any p _ l pNew W h.f (fine1 h1).fits.left okNew).mono fun e w' ⟨he, ha⟩ => ⟨by rw [he, res2], h.on (by rw [← to2]; exact ha), strs_after h.f ha hb⟩
  have HW2 : Hid (∀ W p l b cs, One w p (a2 old) l W → Hold W b 9 cs → Calls Tryz.prog 16 #[.pointer (some ⟨p, 0, none⟩), .string ⟨#[47, 110, 97, 109, 101]⟩, convV W other] (convW W other) fun e w' => e = .returned (.int .i64 0) ∧ (∃ l', One w p (a3 old other) l' w') ∧ Hold w' b 9 cs) := Lib.hid fun W p l b cs h hb => (write_any p _ l 4 pName other _ _ (h.keep (conv_below other W)).f (fine2 h1).fits (by omega) okName (conv_at other W)).mono fun e w' ⟨he, ha⟩ => ⟨by rw [he, res3 h1 h2], write_at h hb (by rw [← to3 h1 h2]; exact ha)⟩
  have HY2 : Hid (∀ W p l b cs, One w p (a3 old other) l W → Hold W b 9 cs → Calls Tryz.prog 17 #[.pointer (some ⟨p, 0, none⟩), .string ⟨#[47, 110, 97, 109, 101]⟩] W fun e w' => e = .returned (.int .i64 0) ∧ (∃ l', One w p (a4 old other) l' w') ∧ Hold w' b 9 cs) := Lib.hid fun W p l b cs h hb => (sync_any p _ l pName W h.f (fine3 h1 h2).fits.left okName).mono fun e w' ⟨he, ha⟩ => ⟨by rw [he, res4], h.on (by rw [← to4]; exact ha), strs_after h.f ha hb⟩
  have HSD : ∀ (s : Pf) (T : Nat) (W : World) (p : Nat) (l : Loc), T ≤ 100 → Fine s T → One w p s l W → Calls Tryz.prog 18 #[.pointer (some ⟨p, 0, none⟩), .string ⟨#[47]⟩] W fun e w' => e = .returned (.int .i64 (findDirRes s rootB)) ∧ ∃ l', One w p (syncDirS s rootB) l' w' := fun s T W p l hT hf h => (syncDir_any p s l rootB W h.f hf.fits.left root_ok (fun x hx => by obtain ⟨xs, h1, h2⟩ := mem_waitsOf hx; exact hf.fits.strs _ h1 x h2) (by have := hf.fits.dur; have := waitsOf_le s rootB; omega) (by have := hf.fits.dirs; omega)).mono fun e w' ⟨he, ha⟩ => ⟨he, h.on ha⟩
  have HD5 : Hid (∀ W p l, One w p (a4 old other) l W → Calls Tryz.prog 18 #[.pointer (some ⟨p, 0, none⟩), .string ⟨#[47]⟩] W fun e w' => e = .returned (.int .i64 0) ∧ ∃ l', One w p (a5 old other) l' w') := Lib.hid fun W p l h => (HSD _ 7 W p l (by omega) (fine4 h1 h2) h).mono fun e w' ⟨he, ha⟩ => ⟨by rw [he, res5], by rw [← to5]; exact ha⟩
  have HD8 : Hid (∀ W p l, One w p (a7 old other n) l W → Calls Tryz.prog 18 #[.pointer (some ⟨p, 0, none⟩), .string ⟨#[47]⟩] W fun e w' => (∃ r, e = .returned r) ∧ ∃ l', One w p (a8 old other n true) l' w') := Lib.hid fun W p l h => (HSD _ 9 W p l (by omega) (fine7 h1 h2 hn0.1 hn0.2) h).mono fun e w' ⟨he, ha⟩ => ⟨⟨_, he⟩, ha⟩
  have HCR : Hid (∀ W p l, One w p (a5 old other) l W → Calls Tryz.prog 15 #[.pointer (some ⟨p, 0, none⟩), .int .i64 n] W fun e w' => (∃ r, e = .returned r) ∧ ∃ l', One w p (a6 old other n) l' w') := Lib.hid fun W p l h => (crashAt_any p _ l n W h.f).mono fun e w' ⟨he, hA, hg⟩ => ⟨he, by rw [← to6 n hn0.1]; exact h.on (after_p hA hg)⟩
  have HRN : Hid (∀ W p l, One w p (a6 old other n) l W → Calls Tryz.prog 21 #[.pointer (some ⟨p, 0, none⟩), .string ⟨#[47, 110, 101, 119]⟩, .string ⟨#[47, 110, 97, 109, 101]⟩] W fun e w' => e = .returned (.int .i64 r) ∧ ∃ l', One w p (a7 old other n) l' w') := Lib.hid fun W p l h => (rename_any p _ l 8 pNew pName W h.f (fine6 h1 h2 hn0.1 hn0.2).fits (by omega) okNew okName).mono fun e w' ⟨he, ha⟩ => ⟨by rw [he, hr], h.on ha⟩
  have HRB : Hid (∀ W p l, One w p (a8 old other n sync) l W → Calls Tryz.prog 19 #[.pointer (some ⟨p, 0, none⟩), .int .i64 choice] W fun e w' => (∃ r, e = .returned r) ∧ (∃ l', One w p (b2 old other) l' w') ∧ Fits (b2 old other) 10) := Lib.hid fun W p l h => (reboot_any p _ l 10 choice W h.f (fine8 h1 h2 hn0.1 hn0.2 sync).fits (by omega) (fine8 h1 h2 hn0.1 hn0.2 sync).canon).mono fun e w' ⟨he, ha, hf, _⟩ => ⟨he, by rw [← hend]; exact h.on ha, by rw [← hend]; exact hf⟩
  have HA1 : Hid (∀ W p l, Fits (b2 old other) 10 → One w p (b2 old other) l W → Calls Tryz.prog 20 #[.pointer (some ⟨p, 0, none⟩), .string ⟨#[47, 110, 101, 119]⟩] W fun e w' => ∃ g c, e = .returned (.tuple #[.slice (some ⟨g, 0, none⟩) old.size c, .int .i64 0]) ∧ BytesAt w' (.slice (some ⟨g, 0, none⟩) old.size c) old ∧ ∃ l', One w p (b2 old other) l' w') := Lib.hid fun W p l hf h => (read_any p _ l pNew W h.f hf.left okNew).mono fun e w' ⟨⟨v, he, hv⟩, hA, hg⟩ => by
    rw [b2_new] at he hv
    rcases hv with ⟨h0, _⟩ | ⟨_, hb⟩
    · exact absurd rfl h0
    · rw [b2_old] at hb
      have hb2 := hb.bytes
      obtain ⟨g, c, k, rfl, _⟩ := hb
      obtain ⟨l', h3⟩ := h.on (read_after hA hg)
      rw [tick_b2] at h3
      exact ⟨g, c, he, hb2, l', h3⟩
  have HA2 : Hid (∀ W p l v, Fits (b2 old other) 10 → BytesAt W v old → One w p (b2 old other) l W → Calls Tryz.prog 20 #[.pointer (some ⟨p, 0, none⟩), .string ⟨#[47, 110, 97, 109, 101]⟩] W fun e w' => ∃ g c, e = .returned (.tuple #[.slice (some ⟨g, 0, none⟩) other.size c, .int .i64 0]) ∧ BytesAt w' (.slice (some ⟨g, 0, none⟩) other.size c) other ∧ BytesAt w' v old ∧ ∃ l', One w p (b2 old other) l' w') := Lib.hid fun W p l u hf hu h => (read_any p _ l pName W h.f hf.left okName).mono fun e w' ⟨⟨v, he, hv⟩, hA, hg⟩ => by
    rw [b2_name] at he hv
    rcases hv with ⟨h0, _⟩ | ⟨_, hb⟩
    · exact absurd rfl h0
    · rw [b2_other] at hb
      have hb2 := hb.bytes
      obtain ⟨g, c, k, rfl, _⟩ := hb
      obtain ⟨l', h3⟩ := h.on (read_after hA hg)
      rw [tick_b2] at h3
      exact ⟨g, c, he, hb2, hu.gb h.f hg, l', h3⟩
  have HNW := Lib.hid (new_any 10000 w)
  have HWK := Lib.hid (fun W => works_any W)
  have hq1 : IntKind.u8.wrap n = n := by simp [IntKind.wrap, IntKind.bits, IntKind.signed]; omega
  have hq2 : IntKind.i64.wrap n = n := IntWalk.i64_in _ (by omega)
  have hcv1 := conv_run old
  have hcv2 := conv_run other
  have he1 : (old.toList == old.toList) = true := by simp
  have he2 : (other.toList == other.toList) = true := by simp
  clear hend HSD hr
  rcases hr0 with hr0 | hr0
  all_goals (
    first
      | (have hz := hr0; subst hz)
      | (have hz1 : (r == 0) = false := (by simpa using hr0))
    cases sync <;> (
      go_enter Tryz.func5, Tryz.ntmps5
      go_wp2_with (first
        | (go_at_call 11; refine HNW.out.mono ?_; clear HNW; rintro e w1 ⟨rfl, hA, hb⟩; have hbl := ((Below.refl w1.heap.size w1).alloc (Nat.le_refl _) (.cells #[.string ⟨#[47, 110, 101, 119]⟩, .string ⟨#[47, 110, 97, 109, 101]⟩] 9)); have T1 := Lib.hid ((one_new (show At w1 w.heap.size (newS 10000) (newL (w.heap.size + 1)) from hA) hb).keep hbl); have S1 := Lib.hid (show Hold (w1.alloc (.cells #[.string ⟨#[47, 110, 101, 119]⟩, .string ⟨#[47, 110, 97, 109, 101]⟩] 9)) w1.heap.size 9 [.string ⟨#[47, 110, 101, 119]⟩, .string ⟨#[47, 110, 97, 109, 101]⟩] from heap_alloc_new w1 _); clear hA hb hbl)
        | fail)
      refine wp_loop_rounds 3 ?_
      rw [rounds_succ]
      go_wp2_with (first
        | (go_at_call 16; refine (HW1.out _ _ _ _ _ T1.out S1.out).mono ?_; clear HW1; rintro e w2 ⟨rfl, ⟨l2, h⟩, hs⟩; have T2 := Lib.hid h; have S2 := Lib.hid hs; clear h hs T1 S1)
        | (go_at_call 17; refine (HY1.out _ _ _ _ _ T2.out S2.out).mono ?_; clear HY1; rintro e w3 ⟨rfl, ⟨l3, h⟩, hs⟩; have T3 := Lib.hid h; have S3 := Lib.hid hs; have hc1 : w3.cell? ⟨w1.heap.size, 1, none⟩ = some (.string ⟨#[47, 110, 97, 109, 101]⟩) := (by rw [Go.Proofs.YtdbcjiapbehacaaGreatDoor.Vf.Hold.cell hs]; rfl); clear h hs T2 S2)
        | fail)
      rw [rounds_succ]
      go_wp2_with (first
        | (go_at_call 16; refine (HW2.out _ _ _ _ _ T3.out S3.out).mono ?_; clear HW2; rintro e w4 ⟨rfl, ⟨l4, h⟩, hs⟩; have T4 := Lib.hid h; have S4 := Lib.hid hs; clear h hs T3 S3)
        | (go_at_call 17; refine (HY2.out _ _ _ _ _ T4.out S4.out).mono ?_; clear HY2; rintro e w5 ⟨rfl, ⟨l5, h⟩, hs⟩; have T5 := Lib.hid h; clear h hs T4 S4)
        | fail)
      rw [rounds_succ]
      go_wp2_with (first
        | (go_at_call 18; refine (HD5.out _ _ _ T5.out).mono ?_; clear HD5; rintro e w6 ⟨rfl, l6, h⟩; have T6 := Lib.hid h; clear h T5)
        | (go_at_call 15; refine (HCR.out _ _ _ T6.out).mono ?_; clear HCR; rintro e w7 ⟨⟨r, rfl⟩, l7, h⟩; have T7 := Lib.hid h; clear h T6)
        | (go_at_call 21; refine (HRN.out _ _ _ T7.out).mono ?_; clear HRN; rintro e w8 ⟨rfl, l8, h⟩; have T8 := Lib.hid h; clear h T7)
        | (go_at_call 18; refine (HD8.out _ _ _ T8.out).mono ?_; clear HD8; rintro e w9 ⟨⟨r, rfl⟩, l9, h⟩; clear T8; have T8 := Lib.hid h; clear h)
        | (go_at_call 19; refine (HRB.out _ _ _ T8.out).mono ?_; clear HRB; rintro e w10 ⟨⟨r, rfl⟩, ⟨l10, h⟩, hf⟩; have T10 := Lib.hid h; have F10 := Lib.hid hf; clear h hf T8)
        | (go_at_call 20; refine (HA1.out _ _ _ F10.out T10.out).mono ?_; clear HA1; rintro e w11 ⟨gx, cx, rfl, hb, l11, h⟩; have T11 := Lib.hid h; have B11 := Lib.hid hb; clear h hb T10)
        | (go_at_call 20; refine (HA2.out _ _ _ _ F10.out B11.out T11.out).mono ?_; clear HA2; rintro e w12 ⟨gy, cy, rfl, hb, hb2, l12, h⟩; have T12 := Lib.hid h; have hcy := hb.text; have hcx := hb2.text; clear h hb hb2 T11 B11)
        | (go_at_call 10; refine (HWK.out _).mono ?_; rintro e w13 ⟨rfl, hbw⟩; have B13 := Lib.hid hbw; clear hbw)
        | fail)
      go_ret
      exact ⟨rfl, T12.out.below.trans (B13.out.mono T12.out.below.size)⟩))
set_option maxRecDepth 100000 in
set_option maxHeartbeats 8000000 in
theorem vfsRename_b1 (old other : ByteArray) (crash n r : Int) (sync : Bool) (choice : Int) (w : World) (h1 : old.size ≤ 300) (h2 : other.size ≤ 300) (hn : n = 0 ∨ n = 1 ∨ n = 2 ∨ n = 3) (hrem : crash.tmod 4 = n) (hr : renameRes (a6 old other n) pNew pName = r) (hend : rebootS (a8 old other n sync) choice = b1 old other) (hr0 : r = 0) :
    Calls Tryz.prog 5 #[.string old, .string other, .int .u8 crash, .bool sync, .int .i64 choice] w fun e w' => e = .returned (.bool true) ∧ Below w.heap.size w w' := by
  have hn0 : 0 ≤ n ∧ n ≤ 3 := by omega
  have HW1 : Hid (∀ W p l b cs, One w p (newS 10000) l W → Hold W b 9 cs → Calls Tryz.prog 16 #[.pointer (some ⟨p, 0, none⟩), .string ⟨#[47, 110, 101, 119]⟩, convV W old] (convW W old) fun e w' => e = .returned (.int .i64 0) ∧ (∃ l', One w p (a1 old) l' w') ∧ Hold w' b 9 cs) := Lib.hid fun W p l b cs h hb => (write_any p _ l 1 pNew old _ _ (h.keep (conv_below old W)).f (fine_new 10000).fits (by omega) okNew (conv_at old W)).mono fun e w' ⟨he, ha⟩ => ⟨by rw [he, res1 h1], write_at h hb (by rw [← to1 h1]; exact ha)⟩
  have HY1 : Hid (∀ W p l b cs, One w p (a1 old) l W → Hold W b 9 cs → Calls Tryz.prog 17 #[.pointer (some ⟨p, 0, none⟩), .string ⟨#[47, 110, 101, 119]⟩] W fun e w' => e = .returned (.int .i64 0) ∧ (∃ l', One w p (a2 old) l' w') ∧ Hold w' b 9 cs) := Lib.hid fun W p l b cs h hb => (sync_any p _ l pNew W h.f (fine1 h1).fits.left okNew).mono fun e w' ⟨he, ha⟩ => ⟨by rw [he, res2], h.on (by rw [← to2]; exact ha), strs_after h.f ha hb⟩
  have HW2 : Hid (∀ W p l b cs, One w p (a2 old) l W → Hold W b 9 cs → Calls Tryz.prog 16 #[.pointer (some ⟨p, 0, none⟩), .string ⟨#[47, 110, 97, 109, 101]⟩, convV W other] (convW W other) fun e w' => e = .returned (.int .i64 0) ∧ (∃ l', One w p (a3 old other) l' w') ∧ Hold w' b 9 cs) := Lib.hid fun W p l b cs h hb => (write_any p _ l 4 pName other _ _ (h.keep (conv_below other W)).f (fine2 h1).fits (by omega) okName (conv_at other W)).mono fun e w' ⟨he, ha⟩ => ⟨by rw [he, res3 h1 h2], write_at h hb (by rw [← to3 h1 h2]; exact ha)⟩
  have HY2 : Hid (∀ W p l b cs, One w p (a3 old other) l W → Hold W b 9 cs → Calls Tryz.prog 17 #[.pointer (some ⟨p, 0, none⟩), .string ⟨#[47, 110, 97, 109, 101]⟩] W fun e w' => e = .returned (.int .i64 0) ∧ (∃ l', One w p (a4 old other) l' w') ∧ Hold w' b 9 cs) := Lib.hid fun W p l b cs h hb => (sync_any p _ l pName W h.f (fine3 h1 h2).fits.left okName).mono fun e w' ⟨he, ha⟩ => ⟨by rw [he, res4], h.on (by rw [← to4]; exact ha), strs_after h.f ha hb⟩
  have HSD : ∀ (s : Pf) (T : Nat) (W : World) (p : Nat) (l : Loc), T ≤ 100 → Fine s T → One w p s l W → Calls Tryz.prog 18 #[.pointer (some ⟨p, 0, none⟩), .string ⟨#[47]⟩] W fun e w' => e = .returned (.int .i64 (findDirRes s rootB)) ∧ ∃ l', One w p (syncDirS s rootB) l' w' := fun s T W p l hT hf h => (syncDir_any p s l rootB W h.f hf.fits.left root_ok (fun x hx => by obtain ⟨xs, h1, h2⟩ := mem_waitsOf hx; exact hf.fits.strs _ h1 x h2) (by have := hf.fits.dur; have := waitsOf_le s rootB; omega) (by have := hf.fits.dirs; omega)).mono fun e w' ⟨he, ha⟩ => ⟨he, h.on ha⟩
  have HD5 : Hid (∀ W p l, One w p (a4 old other) l W → Calls Tryz.prog 18 #[.pointer (some ⟨p, 0, none⟩), .string ⟨#[47]⟩] W fun e w' => e = .returned (.int .i64 0) ∧ ∃ l', One w p (a5 old other) l' w') := Lib.hid fun W p l h => (HSD _ 7 W p l (by omega) (fine4 h1 h2) h).mono fun e w' ⟨he, ha⟩ => ⟨by rw [he, res5], by rw [← to5]; exact ha⟩
  have HD8 : Hid (∀ W p l, One w p (a7 old other n) l W → Calls Tryz.prog 18 #[.pointer (some ⟨p, 0, none⟩), .string ⟨#[47]⟩] W fun e w' => (∃ r, e = .returned r) ∧ ∃ l', One w p (a8 old other n true) l' w') := Lib.hid fun W p l h => (HSD _ 9 W p l (by omega) (fine7 h1 h2 hn0.1 hn0.2) h).mono fun e w' ⟨he, ha⟩ => ⟨⟨_, he⟩, ha⟩
  have HCR : Hid (∀ W p l, One w p (a5 old other) l W → Calls Tryz.prog 15 #[.pointer (some ⟨p, 0, none⟩), .int .i64 n] W fun e w' => (∃ r, e = .returned r) ∧ ∃ l', One w p (a6 old other n) l' w') := Lib.hid fun W p l h => (crashAt_any p _ l n W h.f).mono fun e w' ⟨he, hA, hg⟩ => ⟨he, by rw [← to6 n hn0.1]; exact h.on (after_p hA hg)⟩
  have HRN : Hid (∀ W p l, One w p (a6 old other n) l W → Calls Tryz.prog 21 #[.pointer (some ⟨p, 0, none⟩), .string ⟨#[47, 110, 101, 119]⟩, .string ⟨#[47, 110, 97, 109, 101]⟩] W fun e w' => e = .returned (.int .i64 r) ∧ ∃ l', One w p (a7 old other n) l' w') := Lib.hid fun W p l h => (rename_any p _ l 8 pNew pName W h.f (fine6 h1 h2 hn0.1 hn0.2).fits (by omega) okNew okName).mono fun e w' ⟨he, ha⟩ => ⟨by rw [he, hr], h.on ha⟩
  have HRB : Hid (∀ W p l, One w p (a8 old other n sync) l W → Calls Tryz.prog 19 #[.pointer (some ⟨p, 0, none⟩), .int .i64 choice] W fun e w' => (∃ r, e = .returned r) ∧ (∃ l', One w p (b1 old other) l' w') ∧ Fits (b1 old other) 10) := Lib.hid fun W p l h => (reboot_any p _ l 10 choice W h.f (fine8 h1 h2 hn0.1 hn0.2 sync).fits (by omega) (fine8 h1 h2 hn0.1 hn0.2 sync).canon).mono fun e w' ⟨he, ha, hf, _⟩ => ⟨he, by rw [← hend]; exact h.on ha, by rw [← hend]; exact hf⟩
  have HA1 : Hid (∀ W p l, Fits (b1 old other) 10 → One w p (b1 old other) l W → Calls Tryz.prog 20 #[.pointer (some ⟨p, 0, none⟩), .string ⟨#[47, 110, 101, 119]⟩] W fun e w' => e = .returned (.tuple #[.slice none 0 0, .int .i64 50]) ∧ ∃ l', One w p (b1 old other) l' w') := Lib.hid fun W p l hf h => (read_any p _ l pNew W h.f hf.left okNew).mono fun e w' ⟨⟨v, he, hv⟩, hA, hg⟩ => by
    rw [b1_new] at he hv
    rcases hv with ⟨_, rfl⟩ | ⟨h0, _⟩
    · obtain ⟨l', h3⟩ := h.on (read_after hA hg)
      rw [tick_b1] at h3
      exact ⟨he, l', h3⟩
    · omega
  have HA2 : Hid (∀ W p l, Fits (b1 old other) 10 → One w p (b1 old other) l W → Calls Tryz.prog 20 #[.pointer (some ⟨p, 0, none⟩), .string ⟨#[47, 110, 97, 109, 101]⟩] W fun e w' => ∃ g c, e = .returned (.tuple #[.slice (some ⟨g, 0, none⟩) old.size c, .int .i64 0]) ∧ BytesAt w' (.slice (some ⟨g, 0, none⟩) old.size c) old ∧ ∃ l', One w p (b1 old other) l' w') := Lib.hid fun W p l hf h => (read_any p _ l pName W h.f hf.left okName).mono fun e w' ⟨⟨v, he, hv⟩, hA, hg⟩ => by
    rw [b1_name] at he hv
    rcases hv with ⟨h0, _⟩ | ⟨_, hb⟩
    · exact absurd rfl h0
    · rw [b1_old] at hb
      have hb2 := hb.bytes
      obtain ⟨g, c, k, rfl, _⟩ := hb
      obtain ⟨l', h3⟩ := h.on (read_after hA hg)
      rw [tick_b1] at h3
      exact ⟨g, c, he, hb2, l', h3⟩
  have HNW := Lib.hid (new_any 10000 w)
  have HWK := Lib.hid (fun W => works_any W)
  have hq1 : IntKind.u8.wrap n = n := by simp [IntKind.wrap, IntKind.bits, IntKind.signed]; omega
  have hq2 : IntKind.i64.wrap n = n := IntWalk.i64_in _ (by omega)
  have hcv1 := conv_run old
  have hcv2 := conv_run other
  have he1 : (old.toList == old.toList) = true := by simp
  have he2 : (other.toList == other.toList) = true := by simp
  subst hr0
  clear hend HSD hr
  cases sync <;> (
    go_enter Tryz.func5, Tryz.ntmps5
    go_wp2_with (first
      | (go_at_call 11; refine HNW.out.mono ?_; clear HNW; rintro e w1 ⟨rfl, hA, hb⟩; have hbl := ((Below.refl w1.heap.size w1).alloc (Nat.le_refl _) (.cells #[.string ⟨#[47, 110, 101, 119]⟩, .string ⟨#[47, 110, 97, 109, 101]⟩] 9)); have T1 := Lib.hid ((one_new (show At w1 w.heap.size (newS 10000) (newL (w.heap.size + 1)) from hA) hb).keep hbl); have S1 := Lib.hid (show Hold (w1.alloc (.cells #[.string ⟨#[47, 110, 101, 119]⟩, .string ⟨#[47, 110, 97, 109, 101]⟩] 9)) w1.heap.size 9 [.string ⟨#[47, 110, 101, 119]⟩, .string ⟨#[47, 110, 97, 109, 101]⟩] from heap_alloc_new w1 _); clear hA hb hbl)
      | fail)
    refine wp_loop_rounds 3 ?_
    rw [rounds_succ]
    go_wp2_with (first
      | (go_at_call 16; refine (HW1.out _ _ _ _ _ T1.out S1.out).mono ?_; clear HW1; rintro e w2 ⟨rfl, ⟨l2, h⟩, hs⟩; have T2 := Lib.hid h; have S2 := Lib.hid hs; clear h hs T1 S1)
      | (go_at_call 17; refine (HY1.out _ _ _ _ _ T2.out S2.out).mono ?_; clear HY1; rintro e w3 ⟨rfl, ⟨l3, h⟩, hs⟩; have T3 := Lib.hid h; have S3 := Lib.hid hs; have hc1 : w3.cell? ⟨w1.heap.size, 1, none⟩ = some (.string ⟨#[47, 110, 97, 109, 101]⟩) := (by rw [Go.Proofs.YtdbcjiapbehacaaGreatDoor.Vf.Hold.cell hs]; rfl); clear h hs T2 S2)
      | fail)
    rw [rounds_succ]
    go_wp2_with (first
      | (go_at_call 16; refine (HW2.out _ _ _ _ _ T3.out S3.out).mono ?_; clear HW2; rintro e w4 ⟨rfl, ⟨l4, h⟩, hs⟩; have T4 := Lib.hid h; have S4 := Lib.hid hs; clear h hs T3 S3)
      | (go_at_call 17; refine (HY2.out _ _ _ _ _ T4.out S4.out).mono ?_; clear HY2; rintro e w5 ⟨rfl, ⟨l5, h⟩, hs⟩; have T5 := Lib.hid h; clear h hs T4 S4)
      | fail)
    rw [rounds_succ]
    go_wp2_with (first
      | (go_at_call 18; refine (HD5.out _ _ _ T5.out).mono ?_; clear HD5; rintro e w6 ⟨rfl, l6, h⟩; have T6 := Lib.hid h; clear h T5)
      | (go_at_call 15; refine (HCR.out _ _ _ T6.out).mono ?_; clear HCR; rintro e w7 ⟨⟨r, rfl⟩, l7, h⟩; have T7 := Lib.hid h; clear h T6)
      | (go_at_call 21; refine (HRN.out _ _ _ T7.out).mono ?_; clear HRN; rintro e w8 ⟨rfl, l8, h⟩; have T8 := Lib.hid h; clear h T7)
      | (go_at_call 18; refine (HD8.out _ _ _ T8.out).mono ?_; clear HD8; rintro e w9 ⟨⟨r, rfl⟩, l9, h⟩; clear T8; have T8 := Lib.hid h; clear h)
      | (go_at_call 19; refine (HRB.out _ _ _ T8.out).mono ?_; clear HRB; rintro e w10 ⟨⟨r, rfl⟩, ⟨l10, h⟩, hf⟩; have T10 := Lib.hid h; have F10 := Lib.hid hf; clear h hf T8)
      | (go_at_call 20; refine (HA1.out _ _ _ F10.out T10.out).mono ?_; clear HA1; rintro e w11 ⟨rfl, l11, h⟩; have T11 := Lib.hid h; clear h T10)
      | (go_at_call 20; refine (HA2.out _ _ _ F10.out T11.out).mono ?_; clear HA2; rintro e w12 ⟨gy, cy, rfl, hb, l12, h⟩; have T12 := Lib.hid h; have hcy := hb.text; clear h hb T11)
      | (go_at_call 10; refine (HWK.out _).mono ?_; rintro e w13 ⟨rfl, hbw⟩; have B13 := Lib.hid hbw; clear hbw)
      | fail)
    go_ret
    exact ⟨rfl, T12.out.below.trans (B13.out.mono T12.out.below.size)⟩)
set_option maxRecDepth 100000 in
set_option maxHeartbeats 4000000 in
theorem vfsRename_any (old other : ByteArray) (crash : Int) (sync : Bool) (choice : Int) (w : World) (hc : 0 ≤ crash ∧ crash ≤ 255) :
    Calls Tryz.prog 5 #[.string old, .string other, .int .u8 crash, .bool sync, .int .i64 choice] w fun e w' => e = .returned (.bool true) ∧ Below w.heap.size w w' := by
  by_cases h1 : old.size ≤ 300
  · by_cases h2 : other.size ≤ 300
    · have h0 : crash.tmod 4 = crash % 4 := Int.tmod_eq_emod_of_nonneg hc.1
      have hn : crash % 4 = 0 ∨ crash % 4 = 1 ∨ crash % 4 = 2 ∨ crash % 4 = 3 := by omega
      rcases ren_ends (old := old) (other := other) hn sync choice with e | ⟨hr, e⟩
      · by_cases hr : renameRes (a6 old other (crash % 4)) pNew pName = 0
        · exact vfsRename_b2 old other crash _ 0 sync choice w h1 h2 hn h0 hr e (.inl rfl)
        · exact vfsRename_b2 old other crash _ _ sync choice w h1 h2 hn h0 rfl e (.inr hr)
      · exact vfsRename_b1 old other crash _ 0 sync choice w h1 h2 hn h0 hr e rfl
    · have HWK := Lib.hid (works_any w)
      go_enter Tryz.func5, Tryz.ntmps5
      go_wp2_with (first
        | (go_at_call 10; refine HWK.out.mono ?_; rintro e w1 ⟨rfl, hb⟩; have HB := Lib.hid hb; clear hb)
        | fail)
      go_ret
      exact ⟨rfl, HB.out⟩
  · have HWK := Lib.hid (works_any w)
    go_enter Tryz.func5, Tryz.ntmps5
    go_wp2_with (first
      | (go_at_call 10; refine HWK.out.mono ?_; rintro e w1 ⟨rfl, hb⟩; have HB := Lib.hid hb; clear hb)
      | fail)
    go_ret
    exact ⟨rfl, HB.out⟩
end Go.Proofs.YtdbcjiapbehacaaGreatDoor.Vp
