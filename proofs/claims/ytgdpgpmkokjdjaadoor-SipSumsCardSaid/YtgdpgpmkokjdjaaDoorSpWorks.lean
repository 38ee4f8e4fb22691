/-
  What clepsydralaw04.works answers: the chapter's examples hold.
-/
import Derived.Test.YtgdpgpmkokjdjaaDoorSpSlices
namespace Go.Proofs.YtgdpgpmkokjdjaaDoor.Sp
open Go.RowKit

def exK : List Int := [0, 1, 2, 3, 4, 5, 6, 7, 8, 9, 10, 11, 12, 13, 14, 15]
def exM : List Int := [0, 1, 2, 3, 4, 5, 6, 7, 8, 9, 10, 11, 12, 13, 14]
def ks (n : Nat) : List Int := (List.range 16).map fun j => if j < n then (j : Int) else 0
def ms (n : Nat) : List Int := (List.range n).map fun j : Nat => (j : Int)
theorem ex_hash : hash exK exM = 11613035633349379557 := by decide +kernel
theorem ks_set : ∀ n : Fin 16, (ks n.val).set n.val (n.val : Int) = ks (n.val + 1) := by decide +kernel
theorem ks_len (n : Nat) : (ks n).length = 16 := by simp [ks]
theorem ms_len (n : Nat) : (ms n).length = n := by simp [ms]
theorem ms_succ (n : Nat) : ms (n + 1) = ms n ++ [(n : Int)] := by simp [ms, List.range_succ]
theorem ks_all : ks 16 = exK := by decide +kernel
theorem ms_all : ms 15 = exM := by decide +kernel
theorem exK_bytes : Bytes exK := by unfold Bytes; decide +kernel
theorem exM_bytes : Bytes exM := by unfold Bytes; decide +kernel
def exT : List UInt8 := [48, 48, 48, 49, 48, 50, 48, 51, 48, 52, 48, 53, 48, 54, 48, 55, 48, 56, 48, 57, 48, 65, 48, 98, 48, 99, 48, 100, 48, 101, 48, 102, 10]
theorem ex_key : keyOf exT = exK := by decide +kernel
theorem ex_is : keyIs exT = true := by decide +kernel
theorem ex_no : keyOf [48, 48] = zeros := by decide +kernel
theorem ex_not : keyIs [48, 48] = false := by decide +kernel
theorem new_cell (W : World) (g : Nat) (hg : W.heap.size = g) (u : Value) (t : TypeId) : (W.alloc (.cells #[u] t)).cell? ⟨g, 0, none⟩ = some u := by
  subst hg; exact cell_of_row _ _ 0 #[u] t (0, 0) (heap_alloc_new _ _)
theorem set_size (w : World) (p : Addr) (u : Value) : (w.setCell p u).heap.size = w.heap.size := by simp [World.setCell]
theorem of_ex (w : World) : Calls Tryd.prog 14 #[.string ⟨#[48, 48, 48, 49, 48, 50, 48, 51, 48, 52, 48, 53, 48, 54, 48, 55, 48, 56, 48, 57, 48, 65, 48, 98, 48, 99, 48, 100, 48, 101, 48, 102, 10]⟩] w fun e w' => e = .returned (.tuple #[kval exK, .bool true]) ∧ Below w.heap.size w w' := by
  refine (of_any ⟨#[48, 48, 48, 49, 48, 50, 48, 51, 48, 52, 48, 53, 48, 54, 48, 55, 48, 56, 48, 57, 48, 65, 48, 98, 48, 99, 48, 100, 48, 101, 48, 102, 10]⟩ w (by decide)).mono ?_
  rintro e w' ⟨he, hb⟩
  rw [show (⟨#[48, 48, 48, 49, 48, 50, 48, 51, 48, 52, 48, 53, 48, 54, 48, 55, 48, 56, 48, 57, 48, 65, 48, 98, 48, 99, 48, 100, 48, 101, 48, 102, 10]⟩ : ByteArray).data.toList = exT from rfl, ex_key, ex_is] at he
  exact ⟨he, hb⟩
theorem of_no (w : World) : Calls Tryd.prog 14 #[.string ⟨#[48, 48]⟩] w fun e w' => e = .returned (.tuple #[kval zeros, .bool false]) ∧ Below w.heap.size w w' := by
  refine (of_any ⟨#[48, 48]⟩ w (by decide)).mono ?_
  rintro e w' ⟨he, hb⟩
  rw [show (⟨#[48, 48]⟩ : ByteArray).data.toList = [48, 48] from rfl, ex_no, ex_not] at he
  exact ⟨he, hb⟩

theorem only_new {w1 w2 : World} {o : Obj} (h : (w1.alloc o).grownBy w2 (some w1.heap.size)) : Below w1.heap.size w1 w2 :=
  gb_new ((Below.refl _ _).alloc (Nat.le_refl _) _) h (by simp) (Nat.le_refl _)
/-- Where the examples' key and row lie. -/
def WS (w0 : World) (v : Value) (W : World) : Prop := Hold W w0.heap.size 23 (exK.map by8) ∧ Own W (w0.heap.size + 1) v exM ∧ Below w0.heap.size w0 W
theorem WS.go {w0 W W' : World} {v : Value} (h : WS w0 v W) (hb : Below W.heap.size W W') : WS w0 v W' := ⟨h.1.below hb h.1.lt, h.2.1.keep hb, h.2.2.trans (hb.mono h.2.2.size)⟩
set_option maxHeartbeats 4000000 in
set_option maxRecDepth 100000 in
theorem works_any (w : World) : Calls Tryd.prog 8 #[] w fun e w' => e = .returned (.bool true) ∧ Below w.heap.size w w' := by
  have heq := Lib.hid (eql_arr 23 Tryd.underlying23 exK rfl)
  go_enter Tryd.func8, Tryd.ntmps8
  go_wp2_with fail
  go_loopw [2, 3] (fun v i wr => ∃ n : Nat, n ≤ 16 ∧ i = .int .i64 n ∧ Hold wr w.heap.size 23 ((ks n).map by8) ∧ Own wr (w.heap.size + 1) v (ms (min n 15)) ∧ Below w.heap.size w wr) (fun _ i _ => 16 - (intOf i).toNat)
  case atStart => exact ⟨0, by omega, rfl, Hold.new w _ ((ks 0).map by8), Own.nil _ _, (Below.refl _ _).alloc (Nat.le_refl _) _⟩
  case round =>
    obtain ⟨n, hn, rfl, hk, ho, hb⟩ := hrel
    by_cases hlt : n < 16
    · have hc : ∃ u, wr.cell? ⟨w.heap.size, n, none⟩ = some u := by
        rw [hk.cell]; exact ⟨_, List.getElem?_eq_getElem (by rw [List.length_map, ks_len]; exact hlt)⟩
      obtain ⟨u, hc⟩ := hc
      have hf := hk.frozen n
      have hk2 : Hold (wr.setCell ⟨w.heap.size, n, none⟩ (by8 (n : Int))) w.heap.size 23 ((ks (n + 1)).map by8) := by
        have := hk.set n (by8 (n : Int))
        rw [← List.map_set, ks_set ⟨n, hlt⟩] at this; exact this
      have ho2 : Own (wr.setCell ⟨w.heap.size, n, none⟩ (by8 (n : Int))) (w.heap.size + 1) _ (ms (min n 15)) := ho.far (p := ⟨w.heap.size, n, none⟩) (by show w.heap.size < _; omega) _
      have hb2 : Below w.heap.size w (wr.setCell ⟨w.heap.size, n, none⟩ (by8 (n : Int))) := hb.setCell (Nat.le_refl _) _
      have hz : w.heap.size + 1 ≤ wr.heap.size := hk.lt
      have HK := Lib.hid hk2; have HO := Lib.hid ho2; have HB := Lib.hid hb2
      clear hk ho hb hk2 ho2 hb2
      by_cases h15 : n < 15
      · go_wp2_with (first
          | (at_builtin; refine plain_append_byte (.tmp 18) (.tmp 21) rfl rfl (w.heap.size + 1) _ (ms (min n 15)) (n : Int) ⟨wr.heap.size, 0, none⟩ 1 rfl rfl (HO.out.alloc _) (new_cell _ _ (set_size _ _ _) _ _) (by rw [ms_len]; omega) (by simp [World.setCell]; omega) ?_; intro v' w' hown hgr)
          | fail)
        have hb2 : Below w.heap.size w w' := (HB.out.alloc (by rw [set_size]; omega) _).trans (own_below (HO.out.alloc _) hgr (Nat.le_succ _) (by simp [World.setCell]; omega))
        have hk2 : Hold w' w.heap.size 23 ((ks (n + 1)).map by8) := (HK.out.alloc _).keep (hgr.block _ (by simp [World.setCell]; omega) (fun e => by have := ((HO.out.alloc (.cells #[by8 (n : Int)] 5)).lt _ e.symm).1; omega))
        refine ⟨⟨n + 1, hlt, by go_num, hk2, ?_, hb2⟩, by simp [intOf]; omega⟩
        rw [show min (n + 1) 15 = n + 1 by omega, ms_succ]
        rw [show min n 15 = n by omega] at hown
        exact hown
      · go_wp2_with fail
        obtain rfl : n = 15 := by omega
        exact ⟨⟨16, by omega, by go_num, HK.out, HO.out, HB.out⟩, by simp [intOf]⟩
    · obtain rfl : n = 16 := by omega
      rw [ks_all] at hk
      rw [show min 16 15 = 15 from rfl, ms_all] at ho
      have HS : Hid (WS w _ wr) := Lib.hid ⟨hk, ho, hb⟩
      clear hk ho hb
      go_wp2_with fail
      refine (of_ex _).mono ?_
      rintro e w1 ⟨rfl, hb1⟩
      have HS1 := Lib.hid (HS.out.go hb1)
      clear HS hb1
      unfold kval
      go_wp2_with (first
        | (refine plain_store_arr 23 23 (.tmp 4) (.tmp 25) w1.heap.size (zeros.map by8) (exK.map by8) rfl rfl rfl rfl (key_info rfl) (by8_one _) (Hold.new w1 _ (zeros.map by8)) rfl ?_; intro w2 hR2 hg2)
        | fail)
      have HS2 := Lib.hid (HS1.out.go (only_new hg2))
      obtain ⟨A, hA⟩ : ∃ A, w1.heap.size = A := ⟨_, rfl⟩
      rw [hA] at hR2 ⊢
      have HA := Lib.hid hR2
      clear HS1 hg2 hA hR2
      refine (of_no _).mono ?_
      rintro e w3 ⟨rfl, hb3⟩
      have HS3 := Lib.hid (HS2.out.go hb3)
      have HA3 := Lib.hid (HA.out.below hb3 HA.out.lt)
      clear HS2 HA hb3
      unfold kval
      go_wp2_with (first
        | (refine plain_store_arr 23 23 (.tmp 6) (.tmp 29) w3.heap.size (zeros.map by8) (zeros.map by8) rfl rfl rfl rfl (key_info rfl) (by8_one _) (Hold.new w3 _ (zeros.map by8)) rfl ?_; intro w4 hR4 hg4; have HS4 := Lib.hid (HS3.out.go (only_new hg4)); have HA4 := Lib.hid (HA3.out.below (only_new hg4) HA3.out.lt); clear hg4 hR4)
        | (refine want_load_arr 23 23 5 16 (.tmp 1) w.heap.size (exK.map by8) rfl rfl rfl Tryd.underlying23 (key_info rfl) HS4.out.1 ?_)
        | fail)
      obtain ⟨A', c, hv, hc, hrow⟩ := HS4.out.2.1.read (by decide)
      subst hv
      refine (sum_any w4.heap.size 15 c A' exK exM _ w4 rfl exK_bytes hrow exM_bytes (Nat.le_refl _) hc (by decide) ex_hash).mono ?_
      rintro e w5 ⟨rfl, hb5⟩
      have HS5 := Lib.hid (HS4.out.go hb5)
      have HA5 := Lib.hid (HA4.out.below hb5 HA4.out.lt)
      clear HS4 HA4 HS3 HA3 hb5 hrow
      have hq := heq.out
      unfold kval at hq
      go_wp2_with (first
        | (refine want_load_arr 23 23 5 16 (.tmp 4) A (exK.map by8) rfl rfl rfl Tryd.underlying23 (key_info rfl) HA5.out ?_)
        | (refine want_load_arr 23 23 5 16 (.tmp 1) w.heap.size (exK.map by8) rfl rfl rfl Tryd.underlying23 (key_info rfl) HS5.out.1 ?_)
        | fail)
      go_ret
      exact ⟨rfl, HS5.out.2.2⟩
end Go.Proofs.YtgdpgpmkokjdjaaDoor.Sp
