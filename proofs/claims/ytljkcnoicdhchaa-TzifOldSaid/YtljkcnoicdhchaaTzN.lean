/-
  Layer 6 (tzif): a head put.
-/
import Derived.Test.YtljkcnoicdhchaaTzM
import Derived.Deep.DeepCutAuto
namespace Go.Proofs.Ytljkcnoicdhchaa.Tz
open Go.RowKit

theorem Grew.ofDrew {w w' : World} {v v' : Value} (h : Grew w.drew w' v v') : Grew w w' v v' := ⟨⟨h.gr.os, h.gr.tape, h.gr.output, h.gr.size, h.gr.block⟩, h.at_⟩
structure Hd where
  version : Nat
  (uts stds leaps times types letters : Nat)
def Hd.counts (h : Hd) : List Nat := [h.uts, h.stds, h.leaps, h.times, h.types, h.letters]
def hdVal (h : Hd) : Value := .agg #[.int .u8 h.version, .int .i64 h.uts, .int .i64 h.stds, .int .i64 h.leaps, .int .i64 h.times, .int .i64 h.types, .int .i64 h.letters]
def magicB : List Int := [84, 90, 105, 102]
def headB (h : Hd) : List Int := magicB ++ ([(h.version : Int)] ++ (zerosB 15 ++ h.counts.flatMap (fun n => digs n 4)))
set_option maxRecDepth 100000 in
theorem index6 (h : Hd) (k c : Nat) (hc : h.counts[k]? = some c) (w : World) : (Instr.index 86 (.agg #[.int .i64 h.uts, .int .i64 h.stds, .int .i64 h.leaps, .int .i64 h.times, .int .i64 h.types, .int .i64 h.letters]) (.int .i64 k)).run Try.prog w = .ok (.int .i64 c) w := by
  match k, hc with
  | 0, hc => have e : h.uts = c := by simpa [Hd.counts] using hc
             subst e; show Sem.run _ _ _ = Result.ok _ _; first | kernel_rfl | rfl
  | 1, hc => have e : h.stds = c := by simpa [Hd.counts] using hc
             subst e; show Sem.run _ _ _ = Result.ok _ _; first | kernel_rfl | rfl
  | 2, hc => have e : h.leaps = c := by simpa [Hd.counts] using hc
             subst e; show Sem.run _ _ _ = Result.ok _ _; first | kernel_rfl | rfl
  | 3, hc => have e : h.times = c := by simpa [Hd.counts] using hc
             subst e; show Sem.run _ _ _ = Result.ok _ _; first | kernel_rfl | rfl
  | 4, hc => have e : h.types = c := by simpa [Hd.counts] using hc
             subst e; show Sem.run _ _ _ = Result.ok _ _; first | kernel_rfl | rfl
  | 5, hc => have e : h.letters = c := by simpa [Hd.counts] using hc
             subst e; show Sem.run _ _ _ = Result.ok _ _; first | kernel_rfl | rfl
  | k + 6, hc => simp [Hd.counts] at hc
set_option maxRecDepth 100000 in
set_option maxHeartbeats 4000000 in
theorem headPut_any (h : Hd) (v : Value) (xs : List Int) (base : Nat) (w : World) (hown : Own w base v xs) (hx : xs.length ≤ 800000) (hb : base ≤ w.heap.size) (hc : ∀ n ∈ h.counts, n ≤ 1000000) :
    Calls Try.prog 22 #[hdVal h, v] w fun e w' => ∃ v', e = .returned v' ∧ Own w' base v' (xs ++ headB h) ∧ Grew w w' v v' := by
  have HO0 := Lib.hid (hown.alloc (.cells #[.int .u8 h.version, .int .i64 h.uts, .int .i64 h.stds, .int .i64 h.leaps, .int .i64 h.times, .int .i64 h.types, .int .i64 h.letters] 60))
  have HNE : Hid (∀ kk, v.ownBlock = some kk → kk < w.heap.size) := Lib.hid fun kk hkk => (hown.lt kk hkk).2
  have HC := Lib.hid hc
  clear hown hc
  unfold hdVal
  have z0 := World.cell?_alloc_mark w #[.int .u8 h.version, .int .i64 h.uts, .int .i64 h.stds, .int .i64 h.leaps, .int .i64 h.times, .int .i64 h.types, .int .i64 h.letters] 60 (0, 0) 0
  simp only [List.getElem?_toArray, List.getElem?_cons_zero] at z0
  go_enter Try.func22, Try.ntmps22
  go_wp2_with fail
  obtain ⟨W, hW⟩ : ∃ W, w.alloc (.cells #[.int .u8 h.version, .int .i64 h.uts, .int .i64 h.stds, .int .i64 h.leaps, .int .i64 h.times, .int .i64 h.types, .int .i64 h.letters] 60) = W := ⟨_, rfl⟩
  have hsz : W.heap.size = w.heap.size + 1 := by rw [← hW]; simp
  rw [hW] at HO0 z0 ⊢
  have HSZ := Lib.hid hsz
  have HZ := Lib.hid z0
  have HZA : Hid (∀ o, (W.drew.alloc o).cell? ⟨w.heap.size, 0, none⟩ = some (.int .u8 h.version)) := Lib.hid fun o => (((Below.refl W.heap.size W).drew.alloc (Nat.le_refl _) o).cell (p := ⟨w.heap.size, 0, none⟩) (by show w.heap.size < W.heap.size; omega)).trans HZ.out
  have HZ1 : Hid (W.cell? ⟨w.heap.size, 1, none⟩ = some (.int .i64 h.uts)) := Lib.hid (by rw [← hW]; exact World.cell?_alloc_mark w #[.int .u8 h.version, .int .i64 h.uts, .int .i64 h.stds, .int .i64 h.leaps, .int .i64 h.times, .int .i64 h.types, .int .i64 h.letters] 60 (0, 0) 1)
  have HZ2 : Hid (W.cell? ⟨w.heap.size, 2, none⟩ = some (.int .i64 h.stds)) := Lib.hid (by rw [← hW]; exact World.cell?_alloc_mark w #[.int .u8 h.version, .int .i64 h.uts, .int .i64 h.stds, .int .i64 h.leaps, .int .i64 h.times, .int .i64 h.types, .int .i64 h.letters] 60 (0, 0) 2)
  have HZ3 : Hid (W.cell? ⟨w.heap.size, 3, none⟩ = some (.int .i64 h.leaps)) := Lib.hid (by rw [← hW]; exact World.cell?_alloc_mark w #[.int .u8 h.version, .int .i64 h.uts, .int .i64 h.stds, .int .i64 h.leaps, .int .i64 h.times, .int .i64 h.types, .int .i64 h.letters] 60 (0, 0) 3)
  have HZ4 : Hid (W.cell? ⟨w.heap.size, 4, none⟩ = some (.int .i64 h.times)) := Lib.hid (by rw [← hW]; exact World.cell?_alloc_mark w #[.int .u8 h.version, .int .i64 h.uts, .int .i64 h.stds, .int .i64 h.leaps, .int .i64 h.times, .int .i64 h.types, .int .i64 h.letters] 60 (0, 0) 4)
  have HZ5 : Hid (W.cell? ⟨w.heap.size, 5, none⟩ = some (.int .i64 h.types)) := Lib.hid (by rw [← hW]; exact World.cell?_alloc_mark w #[.int .u8 h.version, .int .i64 h.uts, .int .i64 h.stds, .int .i64 h.leaps, .int .i64 h.times, .int .i64 h.types, .int .i64 h.letters] 60 (0, 0) 5)
  have HZ6 : Hid (W.cell? ⟨w.heap.size, 6, none⟩ = some (.int .i64 h.letters)) := Lib.hid (by rw [← hW]; exact World.cell?_alloc_mark w #[.int .u8 h.version, .int .i64 h.uts, .int .i64 h.stds, .int .i64 h.leaps, .int .i64 h.times, .int .i64 h.types, .int .i64 h.letters] 60 (0, 0) 6)
  clear hsz
  go_cut [1] (fun u wx => Own wx base u ((xs ++ magicB) ++ [(h.version : Int)]) ∧ Grew W wx v u)
  case first =>
    go_region_law (first
      | (refine step_append_text (.tmp 7) (.const (.string ⟨#[84, 90, 105, 102]⟩)) rfl rfl base _ xs ⟨#[84, 90, 105, 102]⟩ rfl rfl (by first | exact HO0.out | exact HO0.out.drew | exact HO0.out.drew.alloc _ | exact HO0.out.alloc _) (by show _ + 4 ≤ _; omega) (by have := HSZ.out; simp; omega) ?_; intro v1 w1 hO hG; have HO1 := Lib.hid hO; have HG1 := Lib.hid hG; have z1 := hG.cell w.heap.size 0 (by have := HSZ.out; simp; omega) (.inr fun e => by have := HNE.out _ e; omega) (by first | exact HZ.out | exact HZA.out _); have y1 := fun (hs : W.heap.size < _) (hc : _ = some (Value.int .u8 h.version)) => hG.cell W.heap.size 0 hs (.inr fun e => by have := HNE.out _ e; have := HSZ.out; omega) hc; clear hO hG)
      | (refine step_append_bytes (.tmp 8) (.tmp 11) rfl rfl base _ (xs ++ magicB) [(h.version : Int)] _ 1 1 rfl rfl rfl (by first | exact HO1.out | exact HO1.out.alloc _) (one_cell (by first | exact new_cell _ _ rfl _ _ | exact y1 (by simp) (by simp))) (by show (xs ++ magicB).length + 1 ≤ _; rw [List.length_append]; show _ + 4 + 1 ≤ _; omega) (by have := HSZ.out; have := HG1.out.gr.size; simp at *; omega) ?_; intro v2 w2 hO hG; have HO2 := Lib.hid hO; have HG2 := Lib.hid hG; clear hO hG))
    all_goals (go_wp2_with fail)
    all_goals go_meet
    all_goals exact ⟨HO2.out, by first | exact HG1.out.ofDrew.trans HG2.out.ahead | exact HG1.out.ofDrew.ahead.trans HG2.out | exact HG1.out.ofDrew.ahead.ofDrew.trans HG2.out | exact HG1.out.ofDrew.trans HG2.out | exact HG1.out.ahead.ofDrew.trans HG2.out | exact HG1.out.ahead.ofDrew.trans HG2.out.ahead⟩
  case rest =>
    obtain ⟨hO, hG⟩ := hcut
    have HO := Lib.hid hO; have HG := Lib.hid hG
    clear hO hG
    go_wp2_with (first
      | (at_builtin; refine plain_append_zeros (.tmp 13) (.const (.int .i64 15)) 3 Try.underlying3 rfl rfl base _ ((xs ++ magicB) ++ [(h.version : Int)]) 15 (by omega) rfl rfl HO.out (by rw [List.length_append, List.length_append]; show _ + 4 + 1 + 15 ≤ _; omega) (by have := HSZ.out; have := HG.out.gr.size; omega) ?_; intro v3 w3 hO3 hG3; have HO3 := Lib.hid hO3; have HG3 := Lib.hid (HG.out.trans hG3); clear hO3 hG3; have z1 := HG3.out.cell w.heap.size 1 (by have := HSZ.out; omega) (.inr fun e => by have := HNE.out _ e; omega) HZ1.out; have z2 := HG3.out.cell w.heap.size 2 (by have := HSZ.out; omega) (.inr fun e => by have := HNE.out _ e; omega) HZ2.out; have z3 := HG3.out.cell w.heap.size 3 (by have := HSZ.out; omega) (.inr fun e => by have := HNE.out _ e; omega) HZ3.out; have z4 := HG3.out.cell w.heap.size 4 (by have := HSZ.out; omega) (.inr fun e => by have := HNE.out _ e; omega) HZ4.out; have z5 := HG3.out.cell w.heap.size 5 (by have := HSZ.out; omega) (.inr fun e => by have := HNE.out _ e; omega) HZ5.out; have z6 := HG3.out.cell w.heap.size 6 (by have := HSZ.out; omega) (.inr fun e => by have := HNE.out _ e; omega) HZ6.out)
      | fail)
    go_loopw [1, 28] (fun u i wr => ∃ (k : Nat) (acc : List Int), k ≤ 6 ∧ i = .int .i64 k ∧ acc = (((xs ++ magicB) ++ [(h.version : Int)]) ++ zerosB 15) ++ (h.counts.take k).flatMap (fun n => digs n 4) ∧ acc.length ≤ xs.length + 20 + 4 * k ∧ Own wr base u acc ∧ Grew W wr v u) (fun _ i _ => 6 - (intOf i).toNat)
    case atStart => exact ⟨0, _, by omega, rfl, by simp, by rw [List.length_append, List.length_append, List.length_append]; show _ + 4 + 1 + 15 ≤ _; omega, HO3.out, HG3.out⟩
    case round =>
      obtain ⟨k, acc, hk, rfl, hacc, hal, ho, hg⟩ := hrel
      have HA := Lib.hid hacc; have HAL := Lib.hid hal; have HO4 := Lib.hid ho; have HG4 := Lib.hid hg
      clear hacc hal ho hg
      by_cases hlt : k < 6
      · obtain ⟨c, hcc⟩ : ∃ c, h.counts[k]? = some c := ⟨_, List.getElem?_eq_getElem (show k < h.counts.length from hlt)⟩
        have hcb := HC.out c (List.mem_of_getElem? hcc)
        have hc0 : (0 : Int) ≤ (c : Int) := by omega
        have hc1 : (c : Int) ≤ 1000000 := by omega
        have HP : Hid (∀ V, V = wr → Calls Try.prog 24 #[_, .int .i64 4, .int .u64 c] V fun e w' => ∃ v', e = .returned v' ∧ Own w' base v' (acc ++ digs c 4) ∧ Grew wr w' _ v') := Lib.hid fun V hV => by
          subst hV
          exact putNumber_any _ acc 4 c base _ HO4.out (by have := HAL.out; omega) (by omega) (by have := HSZ.out; have := HG4.out.gr.size; omega)
        have HCC := Lib.hid hcc
        clear hcc
        have hk0 : (0 : Int) ≤ (k : Int) := by omega
        have hk6 : (k : Int) < 6 := by omega
        have hix := index6 h k c HCC.out wr
        go_wp2_with (first
          | (go_at_call 24; refine (HP.out _ rfl).mono ?_; clear HP; rintro e w5 ⟨v5, rfl, hO5, hG5⟩; have HO5 := Lib.hid hO5; have HG5 := Lib.hid (HG4.out.trans hG5); clear hO5 hG5)
          | fail)
        exact ⟨⟨k + 1, _, by omega, by go_num, by rw [HA.out, take_one HCC.out, List.flatMap_append, List.append_assoc]; simp, by have := HAL.out; rw [List.length_append, digs_len]; omega, HO5.out, HG5.out⟩, by simp [intOf]; omega⟩
      · obtain rfl : k = 6 := by omega
        have hfin : acc = xs ++ headB h := by
          rw [HA.out]
          unfold headB
          simp [Hd.counts]
        have HF := Lib.hid hfin
        clear hfin
        go_wp2_with fail
        go_ret
        exact ⟨_, rfl, HF.out ▸ HO4.out, by have := HG4.out; rw [← hW] at this; exact this.ahead⟩
end Go.Proofs.Ytljkcnoicdhchaa.Tz
