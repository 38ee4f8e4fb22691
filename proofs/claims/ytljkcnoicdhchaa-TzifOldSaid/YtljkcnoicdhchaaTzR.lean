/-
  Layer 6 (tzif): the law's works.
-/
import Derived.Test.YtljkcnoicdhchaaTzQ
import Derived.Lib.SlBytesConst
namespace Go.Proofs.Ytljkcnoicdhchaa.Tz
open Go.RowKit

def zUtc : Zn := ⟨[⟨0, false, ⟨#[85, 84, 67]⟩⟩], [], [], ⟨#[]⟩⟩
def zAB : Zn := ⟨[⟨0, false, ⟨#[65]⟩⟩, ⟨0, true, ⟨#[66]⟩⟩], [100], [1], ⟨#[]⟩⟩
theorem zUtc_right : rightZ zUtc = true := by decide +kernel
theorem zUtc_len : (putB zUtc).length = 107 := by decide +kernel
theorem zAB_99 : atZ zAB 99 = 0 := by decide +kernel
theorem zAB_100 : atZ zAB 100 = 1 := by decide +kernel
theorem zUtc_ok : ZnOk zUtc := ⟨by decide, by decide, by decide, by intro t ht; simp [zUtc] at ht; subst ht; show (3 : Nat) ≤ _; decide, by show (0 : Nat) ≤ _; decide⟩
theorem zAB_ok : ZnOk zAB := ⟨by decide, by decide, by decide, by intro t ht; simp [zAB] at ht; rcases ht with rfl | rfl <;> (show (1 : Nat) ≤ _; decide), by show (0 : Nat) ≤ _; decide⟩
/-- Cells of a new block, as a row of rows. -/
theorem Sl.new {w : World} {B sz g : Nat} {rows : List (List Value)} {c : Nat} (hg : g < B) (h : ∀ (j : Nat) (row : List Value), rows[j]? = some row → ∀ (k : Nat) (u : Value), row[k]? = some u → w.cell? ⟨g, j * sz + k, none⟩ = some u) : Sl w B sz (.slice (some ⟨g, 0, none⟩) rows.length c) rows :=
  ⟨⟨_, _, rfl⟩, fun j row hj => ⟨g, 0, c, rfl, hg, fun k u hu => by rw [Nat.zero_add]; exact h j row hj k u hu⟩⟩
theorem Sl.none_ (w : World) (B sz : Nat) : Sl w B sz (.slice none 0 0) [] := ⟨⟨none, 0, rfl⟩, fun j row hj => by simp at hj⟩
theorem cell_new (W : World) (C : Array Value) (t : TypeId) (g i : Nat) (u : Value) (hg : W.heap.size = g) (h : C[i]? = some u) : (W.alloc (.cells C t)).cell? ⟨g, i, none⟩ = some u := by
  subst hg; exact (World.cell?_alloc_mark W C t (0, 0) i).trans h
theorem cell_old (W : World) (o : Obj) (g i : Nat) (u : Value) (hg : g < W.heap.size) (h : W.cell? ⟨g, i, none⟩ = some u) : (W.alloc o).cell? ⟨g, i, none⟩ = some u := cells_at g ((Below.refl W.heap.size W).alloc (Nat.le_refl _) o) hg h
set_option maxRecDepth 100000 in
set_option maxHeartbeats 2000000 in
theorem works_any (w : World) : Calls Try.prog 9 #[] w fun e w' => e = .returned (.bool true) ∧ Below w.heap.size w w' := by
  obtain ⟨X, hX⟩ : ∃ X, w.alloc (.cells #[.int .i64 0, .bool false, .string ⟨#[85, 84, 67]⟩] 54) = X := ⟨_, rfl⟩
  have HBX : Hid (Below w.heap.size w X) := Lib.hid (by rw [← hX]; exact (Below.refl _ _).alloc (Nat.le_refl _) _)
  have hsx : X.heap.size = w.heap.size + 1 := by rw [← hX]; simp
  have HPU : Hid (Calls Try.prog 11 #[.agg #[.slice (some ⟨w.heap.size, 0, none⟩) 1 1, .slice none 0 0, .slice none 0 0, .string ⟨#[]⟩]] X fun e w' => ∃ A c, e = .returned (.tuple #[.slice A 107 c, .int .i64 0]) ∧ Below X.heap.size X w') := Lib.hid (by
    refine (put_yes zUtc (.slice (some ⟨w.heap.size, 0, none⟩) 1 1) (.slice none 0 0) (.slice none 0 0) X.heap.size X ⟨?_, Sl.none_ _ _ _, Sl.none_ _ _ _⟩ zUtc_ok (Nat.le_refl _) zUtc_right).mono ?_
    · refine Sl.new (rows := zUtc.types.map tyCells) (by omega) ?_
      intro j row hj k u hu
      match j, hj with
      | 0, hj =>
        have e : row = tyCells ⟨0, false, ⟨#[85, 84, 67]⟩⟩ := by simpa [zUtc] using hj.symm
        subst e
        rw [← hX, Nat.zero_mul, Nat.zero_add]
        exact (World.cell?_alloc_mark w _ _ (0, 0) k).trans (by rw [List.getElem?_toArray]; exact hu)
    · rintro e w' ⟨v, he, hO, hb⟩
      obtain ⟨A, c, rfl⟩ := hO.form
      rw [zUtc_len] at he
      exact ⟨A, c, he, hb⟩)
  have HPA : Hid (∀ V A c, Calls Try.prog 19 #[.slice A 4 c] V fun e w' => e = .returned (.tuple #[.agg #[.slice none 0 0, .slice none 0 0, .slice none 0 0, .string ⟨#[]⟩], .int .i64 60]) ∧ Below V.heap.size V w') := Lib.hid fun V A c => Parse_short A 4 c V (by omega)
  clear hsx
  have kc := fun (w : World) (C : Array Value) (n c : Nat) => Lib.run_convert_bytes_const (P := Try.prog) w 33 5 C n c Try.underlying33 Try.underlying5
  go_enter Try.func9, Try.ntmps9
  go_wp2_with (first
    | (go_at_call 11; refine HPU.out.mono ?_; clear HPU; rintro e V1 ⟨A1, c1, rfl, hb⟩; have HB1 := Lib.hid (HBX.out.trans (hb.mono HBX.out.size)); clear hb hX)
    | (go_at_call 19; refine (HPA.out _ _ _).mono ?_; clear HPA; rintro e V2 ⟨rfl, hb⟩; have HB2 := Lib.hid ((HB1.out.alloc HB1.out.size _).trans (hb.mono (HB1.out.alloc HB1.out.size _).size)); clear hb)
    | fail)
  obtain ⟨Y, hY⟩ : ∃ Y, ((((V2.alloc (.cells #[.slice none 0 0, .slice none 0 0, .slice none 0 0, .string ⟨#[]⟩] 26)).alloc (.cells #[.int .i64 0, .bool false, .string ⟨#[65]⟩, .int .i64 0, .bool true, .string ⟨#[66]⟩] 54)).alloc (.cells #[.int .i64 100] 2)).alloc (.cells #[.int .i64 1] 3)).alloc (.cells #[.slice (some ⟨V2.heap.size + 1, 0, none⟩) 2 2, .slice (some ⟨V2.heap.size + 1 + 1, 0, none⟩) 1 1, .slice (some ⟨V2.heap.size + 1 + 1 + 1, 0, none⟩) 1 1, .string ⟨#[]⟩] 26) = Y := ⟨_, rfl⟩
  rw [hY]
  have hsy : Y.heap.size = V2.heap.size + 5 := by rw [← hY]; simp
  have HSY := Lib.hid hsy
  have HBY : Hid (Below w.heap.size w Y) := Lib.hid (HB2.out.trans ((by rw [← hY]; exact ((((((Below.refl _ _).alloc (Nat.le_refl _) _).alloc (by simp) _).alloc (by simp; omega) _).alloc (by simp; omega) _).alloc (by simp; omega) _) : Below V2.heap.size V2 Y).mono HB2.out.size))
  have y1 : ∀ i u, (#[.int .i64 0, .bool false, .string ⟨#[65]⟩, .int .i64 0, .bool true, .string ⟨#[66]⟩] : Array Value)[i]? = some u → Y.cell? ⟨V2.heap.size + 1, i, none⟩ = some u := fun i u h => by rw [← hY]; exact cell_old _ _ _ i u (by simp; try omega) (cell_old _ _ _ i u (by simp; try omega) (cell_old _ _ _ i u (by simp; try omega) (cell_new _ _ _ _ i u (by simp) h)))
  have y2 : ∀ i u, (#[.int .i64 100] : Array Value)[i]? = some u → Y.cell? ⟨V2.heap.size + 1 + 1, i, none⟩ = some u := fun i u h => by rw [← hY]; exact cell_old _ _ _ i u (by simp; try omega) (cell_old _ _ _ i u (by simp; try omega) (cell_new _ _ _ _ i u (by simp) h))
  have y3 : ∀ i u, (#[.int .i64 1] : Array Value)[i]? = some u → Y.cell? ⟨V2.heap.size + 1 + 1 + 1, i, none⟩ = some u := fun i u h => by rw [← hY]; exact cell_old _ _ _ i u (by simp; try omega) (cell_new _ _ _ _ i u (by simp) h)
  have y4 : ∀ i u, (#[.slice (some ⟨V2.heap.size + 1, 0, none⟩) 2 2, .slice (some ⟨V2.heap.size + 1 + 1, 0, none⟩) 1 1, .slice (some ⟨V2.heap.size + 1 + 1 + 1, 0, none⟩) 1 1, .string ⟨#[]⟩] : Array Value)[i]? = some u → Y.cell? ⟨V2.heap.size + 1 + 1 + 1 + 1, i, none⟩ = some u := fun i u h => by rw [← hY]; exact cell_new _ _ _ _ i u (by simp) h
  have HZ : Hid (ZnAt Y Y.heap.size zAB (.slice (some ⟨V2.heap.size + 1, 0, none⟩) 2 2) (.slice (some ⟨V2.heap.size + 1 + 1, 0, none⟩) 1 1) (.slice (some ⟨V2.heap.size + 1 + 1 + 1, 0, none⟩) 1 1)) := Lib.hid ⟨Sl.new (rows := zAB.types.map tyCells) (by omega) (fun j row hj k u hu => by
      match j, hj with
      | 0, hj =>
        have e : row = tyCells ⟨0, false, ⟨#[65]⟩⟩ := by simpa [zAB] using hj.symm
        subst e
        refine y1 _ _ ?_
        match k, hu with
        | 0, hu => exact hu
        | 1, hu => exact hu
        | 2, hu => exact hu
      | 1, hj =>
        have e : row = tyCells ⟨0, true, ⟨#[66]⟩⟩ := by simpa [zAB] using hj.symm
        subst e
        refine y1 _ _ ?_
        match k, hu with
        | 0, hu => exact hu
        | 1, hu => exact hu
        | 2, hu => exact hu), Sl.new (rows := zAB.times.map intCells) (by omega) (fun j row hj k u hu => by
      match j, hj with
      | 0, hj =>
        have e : row = intCells 100 := by simpa [zAB] using hj.symm
        subst e
        refine y2 _ _ ?_
        match k, hu with
        | 0, hu => exact hu), Sl.new (rows := zAB.index.map intCells) (by omega) (fun j row hj k u hu => by
      match j, hj with
      | 0, hj =>
        have e : row = intCells 1 := by simpa [zAB] using hj.symm
        subst e
        refine y3 _ _ ?_
        match k, hu with
        | 0, hu => exact hu)⟩
  have HY4 := Lib.hid y4
  have HA1 : Hid (Calls Try.prog 15 #[.agg #[.slice (some ⟨V2.heap.size + 1, 0, none⟩) 2 2, .slice (some ⟨V2.heap.size + 1 + 1, 0, none⟩) 1 1, .slice (some ⟨V2.heap.size + 1 + 1 + 1, 0, none⟩) 1 1, .string ⟨#[]⟩], .int .i64 99] Y fun e w' => e = .returned (.int .i64 0) ∧ Below Y.heap.size Y w') := Lib.hid (by
    have := at_any zAB _ _ _ Y.heap.size 99 Y HZ.out zAB_ok (Nat.le_refl _)
    rwa [zAB_99] at this)
  have HA2 : Hid (∀ V, Below Y.heap.size Y V → Calls Try.prog 15 #[.agg #[.slice (some ⟨V2.heap.size + 1, 0, none⟩) 2 2, .slice (some ⟨V2.heap.size + 1 + 1, 0, none⟩) 1 1, .slice (some ⟨V2.heap.size + 1 + 1 + 1, 0, none⟩) 1 1, .string ⟨#[]⟩], .int .i64 100] V fun e w' => e = .returned (.int .i64 1) ∧ Below V.heap.size V w') := Lib.hid fun V hb => by
    have := at_any zAB _ _ _ Y.heap.size 100 V (HZ.out.below hb (Nat.le_refl _)) zAB_ok hb.size
    rwa [zAB_100] at this
  clear hY hsy y1 y2 y3 y4
  refine HA1.out.mono ?_
  clear HA1
  rintro e V3 ⟨rfl, hb⟩
  have HB3 := Lib.hid hb
  have hlt : V2.heap.size + 1 + 1 + 1 + 1 < Y.heap.size := by rw [HSY.out]; omega
  have k0 := cells_at (V2.heap.size + 1 + 1 + 1 + 1) hb hlt (HY4.out 0 _ rfl); have k1 := cells_at (V2.heap.size + 1 + 1 + 1 + 1) hb hlt (HY4.out 1 _ rfl); have k2 := cells_at (V2.heap.size + 1 + 1 + 1 + 1) hb hlt (HY4.out 2 _ rfl); have k3 := cells_at (V2.heap.size + 1 + 1 + 1 + 1) hb hlt (HY4.out 3 _ rfl)
  clear hb hlt
  go_wp2_with (first
    | (go_at_call 15; refine (HA2.out _ HB3.out).mono ?_; clear HA2; rintro e V4 ⟨rfl, hb⟩; have HB4 := Lib.hid (HB3.out.trans (hb.mono HB3.out.size)); clear hb)
    | fail)
  go_ret
  exact ⟨rfl, HBY.out.trans (HB4.out.mono HBY.out.size)⟩
end Go.Proofs.Ytljkcnoicdhchaa.Tz
