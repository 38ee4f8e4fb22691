/-
  Layer 6 (tzif): what the reading of a block keeps, from step to step.
-/
import Derived.Test.YtljkcnoicdhchaaTzBl
import Derived.Test.YtljkcnoicdhchaaTzBp
import Derived.Test.YtljkcnoicdhchaaTzCa
namespace Go.Proofs.Ytljkcnoicdhchaa.Tz
open Go.RowKit

theorem gb_cell {U V : World} {g k i : Nat} {u : Value} (h : U.grownBy V (some g)) (hk : k < U.heap.size) (hne : k ≠ g) (hc : U.cell? ⟨k, i, none⟩ = some u) : V.cell? ⟨k, i, none⟩ = some u :=
  (World.cell?_of_block (a := ⟨k, i, none⟩) (h.block k hk (fun e => by injection e with e; omega))).trans hc
theorem gb_frozen {U V : World} {g k i : Nat} (h : U.grownBy V (some g)) (hk : k < U.heap.size) (hne : k ≠ g) : V.frozen? ⟨k, i, none⟩ = U.frozen? ⟨k, i, none⟩ :=
  World.frozen?_of_block (a := ⟨k, i, none⟩) (h.block k hk (fun e => by injection e with e; omega))
theorem ZnBox.gb {U V : World} {P g : Nat} {a b c d : Value} (h : ZnBox U P a b c d) (hg : U.grownBy V (some g)) (hne : P ≠ g) : ZnBox V P a b c d :=
  ⟨gb_cell hg h.lt hne h.c0, gb_cell hg h.lt hne h.c1, gb_cell hg h.lt hne h.c2, gb_cell hg h.lt hne h.c3, fun i => (gb_frozen hg h.lt hne).trans (h.fr i), Nat.lt_of_lt_of_le h.lt hg.size⟩
theorem below_of_gb {U V : World} {G C : Nat} (h : U.grownBy V (some G)) (hC : C ≤ G) (hs : C ≤ U.heap.size) : Below C U V :=
  ⟨h.os, h.tape, h.output, h.size, fun k hk => h.block k (by omega) (fun e => by injection e with e; omega)⟩
structure Bk (w U : World) (B g : Nat) (h : Hd) (m : Int) (l : List Nat) : Prop where
  rd : Rd U B g l
  d0 : U.cell? ⟨w.heap.size, 0, none⟩ = some (.int .u8 h.version)
  d1 : U.cell? ⟨w.heap.size, 1, none⟩ = some (.int .i64 h.uts)
  d2 : U.cell? ⟨w.heap.size, 2, none⟩ = some (.int .i64 h.stds)
  d3 : U.cell? ⟨w.heap.size, 3, none⟩ = some (.int .i64 h.leaps)
  d4 : U.cell? ⟨w.heap.size, 4, none⟩ = some (.int .i64 h.times)
  d5 : U.cell? ⟨w.heap.size, 5, none⟩ = some (.int .i64 h.types)
  d6 : U.cell? ⟨w.heap.size, 6, none⟩ = some (.int .i64 h.letters)
  rb : ZnBox U (w.heap.size + 1) (.slice none 0 0) (.slice none 0 0) (.slice none 0 0) (.string ⟨#[]⟩)
  gl : U.cell? ⟨0, 0, none⟩ = some (.int .i64 m)
  gb : w.grownBy U (some g)
  lt : g < w.heap.size
section
variable {w U V : World} {B g : Nat} {h : Hd} {m : Int} {l : List Nat}
theorem Bk.step (k : Bk w U B g h m l) {C : Nat} (hb : Below C U V) (hC : w.heap.size + 2 ≤ C) : Bk w V B g h m l :=
  have hP : w.heap.size < C := by omega
  ⟨k.rd.below hb (by have := k.lt; omega), cells_at _ hb hP k.d0, cells_at _ hb hP k.d1, cells_at _ hb hP k.d2, cells_at _ hb hP k.d3, cells_at _ hb hP k.d4, cells_at _ hb hP k.d5, cells_at _ hb hP k.d6, k.rb.below hb (by omega), cells_at _ hb (by omega) k.gl, gb_below k.gb (hb.mono (by omega)), k.lt⟩
theorem Bk.own (k : Bk w U B g h m l) {G : Nat} (hg : U.grownBy V (some G)) (hG : w.heap.size + 2 ≤ G) : Bk w V B g h m l :=
  k.step (below_of_gb hg hG (by have := k.rb.lt; omega)) (Nat.le_refl _)
theorem Bk.read (k : Bk w U B g h m l) {l' : List Nat} (hg : U.grownBy V (some g)) (hr : Rd V B g l') (hB : 0 < B) : Bk w V B g h m l' :=
  have hs : w.heap.size < U.heap.size := by have := k.rb.lt; omega
  have hn : w.heap.size ≠ g := by have := k.lt; omega
  ⟨hr, gb_cell hg hs hn k.d0, gb_cell hg hs hn k.d1, gb_cell hg hs hn k.d2, gb_cell hg hs hn k.d3, gb_cell hg hs hn k.d4, gb_cell hg hs hn k.d5, gb_cell hg hs hn k.d6, k.rb.gb hg (by have := k.lt; omega), gb_cell hg (by omega) (by have := k.rd.lo; omega) k.gl, k.gb.trans hg, k.lt⟩
theorem Bk.alloc (k : Bk w U B g h m l) (o : Obj) : Bk w (U.alloc o) B g h m l := k.step ((Below.refl U.heap.size U).alloc (Nat.le_refl _) o) (by have := k.rb.lt; omega)
theorem Bk.set (k : Bk w U B g h m l) {G : Nat} (hG : w.heap.size + 2 ≤ G) (i : Nat) (u : Value) : Bk w (U.setCell ⟨G, i, none⟩ u) B g h m l := k.own (grown_set U G i u) hG
theorem Bk.start (hr : Rd w B g l) (hm : w.cell? ⟨0, 0, none⟩ = some (.int .i64 m)) : Bk w ((w.alloc (.cells #[.int .u8 h.version, .int .i64 h.uts, .int .i64 h.stds, .int .i64 h.leaps, .int .i64 h.times, .int .i64 h.types, .int .i64 h.letters] 60)).alloc (.cells #[.slice none 0 0, .slice none 0 0, .slice none 0 0, .string ⟨#[]⟩] 26)) B g h m l := by
  have hb : Below w.heap.size w ((w.alloc (.cells #[.int .u8 h.version, .int .i64 h.uts, .int .i64 h.stds, .int .i64 h.leaps, .int .i64 h.times, .int .i64 h.types, .int .i64 h.letters] 60)).alloc (.cells #[.slice none 0 0, .slice none 0 0, .slice none 0 0, .string ⟨#[]⟩] 26)) := ((Below.refl _ _).alloc (Nat.le_refl _) _).alloc (by simp) _
  have hq : ∀ i u, (#[.int .u8 h.version, .int .i64 h.uts, .int .i64 h.stds, .int .i64 h.leaps, .int .i64 h.times, .int .i64 h.types, .int .i64 h.letters] : Array Value)[i]? = some u → ((w.alloc (.cells #[.int .u8 h.version, .int .i64 h.uts, .int .i64 h.stds, .int .i64 h.leaps, .int .i64 h.times, .int .i64 h.types, .int .i64 h.letters] 60)).alloc (.cells #[.slice none 0 0, .slice none 0 0, .slice none 0 0, .string ⟨#[]⟩] 26)).cell? ⟨w.heap.size, i, none⟩ = some u := fun i u hu =>
    cell_old _ _ _ _ _ (by simp) (cell_new w _ _ _ i u rfl hu)
  exact ⟨hr.below hb hr.lt, hq 0 _ rfl, hq 1 _ rfl, hq 2 _ rfl, hq 3 _ rfl, hq 4 _ rfl, hq 5 _ rfl, hq 6 _ rfl, ZnBox.new _ _ (by simp) _ _ _ _ _, cells_at 0 hb (by have := hr.lt; omega) hm, gb_below (World.grownBy.refl _ _) hb, hr.lt⟩
end
theorem Sl.rw {w : World} {B : Nat} {v : Value} {l : List Rw} (h : Sl w B 3 v (l.map rwCells)) {k : Nat} {x : Rw} (hk : l[k]? = some x) : ∃ g off c, v = .slice (some ⟨g, off, none⟩) l.length c ∧ g < B ∧ w.cell? ⟨g, off + k * 3, none⟩ = some (.int .i64 x.off) ∧ w.cell? ⟨g, off + k * 3 + 1, none⟩ = some (.int .i64 x.dst) ∧ w.cell? ⟨g, off + k * 3 + 2, none⟩ = some (.int .i64 x.place) := by
  obtain ⟨g, off, c, hv, hg, hc⟩ := h.at_ k (rwCells x) (by rw [List.getElem?_map, hk]; rfl)
  rw [List.length_map] at hv
  exact ⟨g, off, c, hv, hg, hc 0 _ rfl, hc 1 _ rfl, hc 2 _ rfl⟩
/-- The places of rows are numbers from 0 on. -/
theorem rws_nat : ∀ (n : Nat) (l : List Nat) (r : Rw), r ∈ rws n l → ∃ p : Nat, r.place = p
  | 0, _, r, h => by cases h
  | n + 1, l, r, h => by
    rcases List.mem_cons.1 h with rfl | h
    · exact ⟨_, rfl⟩
    · exact rws_nat n _ r h
theorem tysOf_take {L : List Nat} : ∀ {rs : List Rw} {ts : List Ty}, tysOf L rs = some ts → ts.length = rs.length ∧ ∀ (k : Nat) (r : Rw), rs[k]? = some r → ∃ t, ts[k]? = some t ∧ tyOf L r = some t
  | [], ts, h => by
    have e : [] = ts := by simpa [tysOf] using h
    subst e
    exact ⟨rfl, fun k r hk => by simp at hk⟩
  | r :: rs, ts, h => by
    unfold tysOf at h
    cases h1 : tyOf L r with
    | none => rw [h1] at h; cases h
    | some t =>
      cases h2 : tysOf L rs with
      | none => rw [h1, h2] at h; cases h
      | some ts' =>
        rw [h1, h2] at h
        have e : t :: ts' = ts := by simpa using h
        subst e
        obtain ⟨a, b⟩ := tysOf_take h2
        refine ⟨by simp [a], fun k x hk => ?_⟩
        cases k with
        | zero =>
          have e : r = x := by simpa using hk
          subst e
          exact ⟨t, rfl, h1⟩
        | succ k => exact b k x (by simpa using hk)
theorem tysOf_none {L : List Nat} : ∀ {rs : List Rw} {k : Nat} {r : Rw}, rs[k]? = some r → tyOf L r = none → tysOf L rs = none
  | [], _, _, h, _ => by simp at h
  | a :: rs, 0, r, h, hn => by
    have e : a = r := by simpa using h
    subst e
    unfold tysOf; rw [hn]; rfl
  | a :: rs, k + 1, r, h, hn => by
    have := tysOf_none (rs := rs) (k := k) (by simpa using h) hn
    unfold tysOf; rw [this]
    cases tyOf L a <;> rfl
/-! ### A block's parts -/
def timesL (h : Hd) (wd : Nat) (val : List Nat → Int) (l : List Nat) : List Int := vals wd val h.times l
def indexL (h : Hd) (wd : Nat) (l : List Nat) : List Int := vals 1 val1 h.times (l.drop (wd * h.times))
def rowsL (h : Hd) (wd : Nat) (l : List Nat) : List Rw := rws h.types ((l.drop (wd * h.times)).drop (1 * h.times))
def lettersL (h : Hd) (wd : Nat) (l : List Nat) : List Nat := (((l.drop (wd * h.times)).drop (1 * h.times)).drop (6 * h.types)).take h.letters
theorem may_small {h : Hd} (hm : mayB h = true) : h.types ≤ 255 ∧ h.times ≤ 4000 ∧ h.letters ≤ 4096 ∧ 1 ≤ h.types := by
  unfold mayB inI at hm
  simp only [Bool.and_eq_true, decide_eq_true_eq] at hm
  omega
theorem long_parts (h : Hd) (wd : Nat) (l : List Nat) (hl : longN h wd ≤ l.length) : wd * h.times + 1 * h.times + 6 * h.types + h.letters + restN h wd ≤ l.length := by
  have e : wd * h.times + 1 * h.times + 6 * h.types + h.letters + restN h wd = longN h wd := by
    unfold longN
    rw [Nat.mul_add, Nat.mul_comm wd]; omega
  omega
theorem OwnW.lower {w : World} {base b : Nat} {v : Value} {l : List Rw} (h : OwnW w base v l) (hc : b ≤ base) : OwnW w b v l := by
  refine ⟨h.1, ?_⟩
  rcases h.2 with h0 | ⟨g, cap, cur, e, hbg, h⟩
  · exact .inl h0
  · exact .inr ⟨g, cap, cur, e, Nat.le_trans hc hbg, h⟩
theorem tysOf_snoc {L : List Nat} : ∀ {rs : List Rw} {ts : List Ty} {r : Rw} {t : Ty}, tysOf L rs = some ts → tyOf L r = some t → tysOf L (rs ++ [r]) = some (ts ++ [t])
  | [], ts, r, t, h, ht => by
    have e : [] = ts := by simpa [tysOf] using h
    subst e
    show (tyOf L r).bind _ = _
    rw [ht]; rfl
  | a :: rs, ts, r, t, h, ht => by
    unfold tysOf at h
    cases h1 : tyOf L a with
    | none => rw [h1] at h; cases h
    | some x =>
      cases h2 : tysOf L rs with
      | none => rw [h1, h2] at h; cases h
      | some ts' =>
        rw [h1, h2] at h
        have e : x :: ts' = ts := by simpa using h
        subst e
        have := tysOf_snoc h2 ht
        show (tyOf L a).bind (fun t => (tysOf L (rs ++ [r])).map fun ts => t :: ts) = _
        rw [h1, this]; rfl
end Go.Proofs.Ytljkcnoicdhchaa.Tz
