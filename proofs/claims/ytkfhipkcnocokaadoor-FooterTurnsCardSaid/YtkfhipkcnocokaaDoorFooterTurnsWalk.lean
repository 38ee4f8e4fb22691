/-
  Layer 7 (footer): the law FooterTurns (ways by gen_fo7n.py).
-/
import Derived.Test.YtkfhipkcnocokaaDoorFooterTurnsWalkB
import Derived.Test.YtkfhipkcnocokaaDoorFooterTurnsWalkC
import Derived.Test.YtkfhipkcnocokaaDoorFooterTurnsWalkD
namespace Go.Proofs.YtkfhipkcnocokaaDoor.Fo
open Go.RowKit
set_option maxRecDepth 100000

theorem turns_lo {r : Rl} {y : Int} (b1 : dayB r.start = true) (b2 : dayB r.end_ = true) (o1 : offB r.off = true) (o2 : offB r.dstOff = true) (h1 : 1500 ≤ y) (h2 : y ≤ 5400) : -15000000000 ≤ begF r y ∧ begF r y ≤ 120000000000 ∧ -15000000000 ≤ endF r y ∧ endF r y ≤ 120000000000 := by
  have s1 := switch_lo (y := y) b1
  have s2 := switch_lo (y := y) b2
  unfold offB inB at o1 o2
  simp only [Bool.and_eq_true, decide_eq_true_eq] at o1 o2
  unfold begF endF
  unfold Cv.dby at s1 s2
  omega
theorem turns_near {r : Rl} {y : Int} (b1 : dayB r.start = true) (b2 : dayB r.end_ = true) (o1 : offB r.off = true) (o2 : offB r.dstOff = true) (h1 : 1700 ≤ y) (h2 : y ≤ 3999) : -8600000000 ≤ begF r y ∧ begF r y ≤ 65000000000 ∧ -8600000000 ≤ endF r y ∧ endF r y ≤ 65000000000 := by
  have s1 := switch_lo (y := y) b1
  have s2 := switch_lo (y := y) b2
  unfold offB inB at o1 o2
  simp only [Bool.and_eq_true, decide_eq_true_eq] at o1 o2
  unfold begF endF
  unfold Cv.dby at s1 s2
  omega
theorem clamp_id {t : Int} (h1 : -10000000000 ≤ t) (h2 : t ≤ 100000000000) : clampT t = t := by unfold clampT; omega
/-- At a second, and 400 years later. -/
theorem at_both (r : Rl) (t : Int) (hr : rightR r = true) (hs : r.dst.toList.isEmpty = false) (b1 : dayB r.start = true) (b2 : dayB r.end_ = true) (o1 : offB r.off = true) (o2 : offB r.dstOff = true) (h1 : -9000000000 ≤ t) (h2 : t ≤ 70000000000) :
    ∃ z m d, Cv.Right z m d ∧ Cv.num z m d = (t + r.off) / 86400 ∧ ∃ c, (sumS (begF r) (endF r) t z 4).2 = c ∧ ∀ P ∈ [(0 : Int), 12622780800], ∀ V, Cv.Tab V → Calls Tryd.prog 17 #[rlV r, .int .i64 (t + P)] V fun e w' => e = .returned (.tuple #[.int .i64 (if c then r.dstOff else r.off), .bool c]) ∧ Below V.heap.size V w' := by
  have O1 := o1
  unfold offB inB at O1
  simp only [Bool.and_eq_true, decide_eq_true_eq] at O1
  obtain ⟨z, m, d, hR, hn⟩ := day_in ((t + r.off) / 86400) (by omega) (by omega)
  have Y := year_bd hR hn (by omega) (by omega)
  refine ⟨z, m, d, hR, hn, _, rfl, ?_⟩
  have hsh := (sumS_shift (begF r) (endF r) 12622780800 t z (fun k => by rw [show z + 400 - 2 + k = (z - 2 + k) + 400 by omega]; exact beg400 r _) (fun k => by rw [show z + 400 - 2 + k = (z - 2 + k) + 400 by omega]; exact end400 r _)
    (fun k hk => by have := turns_lo (y := z - 2 + k) b1 b2 o1 o2 (by omega) (by omega); omega) (by decide) 4 (Nat.le_refl _)).1
  have hn4 : Cv.num (z + 400) m d = (clampT (t + 12622780800) + r.off) / 86400 := by rw [num400, hn, clamp_id (by omega) (by omega)]; omega
  have hn0 : Cv.num z m d = (clampT (t + 0) + r.off) / 86400 := by rw [clamp_id (by omega) (by omega), Int.add_zero]; exact hn
  have hR4 := right400 hR (by omega)
  have e4 : clampT (t + 12622780800) = t + 12622780800 := clamp_id (by omega) (by omega)
  have e0 : clampT (t + 0) = t := by rw [clamp_id (by omega) (by omega), Int.add_zero]
  intro P hP V hV
  rcases List.mem_cons.mp hP with rfl | hP
  · cases hc : (sumS (begF r) (endF r) t z 4).2 with
    | true => exact at_true r _ z m d hr hs b1 b2 o1 o2 hR hn0 (by rw [e0]; exact hc) V hV
    | false => exact at_false r _ z m d hr hs b1 b2 o1 o2 hR hn0 (by rw [e0]; exact hc) V hV
  · obtain rfl : P = 12622780800 := by simpa using hP
    cases hc : (sumS (begF r) (endF r) t z 4).2 with
    | true => exact at_true r _ (z + 400) m d hr hs b1 b2 o1 o2 hR4 hn4 (by rw [e4, hsh]; exact hc) V hV
    | false => exact at_false r _ (z + 400) m d hr hs b1 b2 o1 o2 hR4 hn4 (by rw [e4, hsh]; exact hc) V hV
theorem footerTurns_any (r : Rl) (yr off : Int) (w : World) (her : Er w) (ht : Cv.Tab w) (yb : 0 ≤ yr ∧ yr ≤ 65535) (ob : 0 ≤ off ∧ off ≤ 4294967295) :
    Calls Tryd.prog 7 #[rlV r, .int .u16 yr, .int .u32 off] w fun e w' => e = .returned (.bool true) ∧ Below w.heap.size w w' := by
  cases hr : rightR r with
  | false => exact turns_no r yr off hr w her ht
  | true =>
    by_cases hz : r.dst.size = 0
    · exact turns_std r yr off hr (by rw [size_zero hz, Lib.toList_data]; rfl) w her ht
    · have hs := ne_empty hz
      have hq := hr
      unfold rightR at hq
      rw [Bool.and_eq_true, Bool.and_eq_true, if_neg hz, Bool.and_eq_true, Bool.and_eq_true, Bool.and_eq_true] at hq
      obtain ⟨-, o1, -, o2, b1, b2⟩ := hq
      have hyq : 0 ≤ yr % 2300 ∧ yr % 2300 ≤ 2299 := by omega
      obtain ⟨y, hy⟩ : ∃ y, 1700 + yr % 2300 = y := ⟨_, rfl⟩
      have hyb : 1700 ≤ y ∧ y ≤ 3999 := by omega
      have nb := turns_near (y := y) b1 b2 o1 o2 hyb.1 hyb.2
      have sb1 := switchV_bd (y := y) b1 (by omega)
      have sb2 := switchV_bd (y := y) b2 (by omega)
      obtain ⟨A, hA⟩ : ∃ A, begF r y = A := ⟨_, rfl⟩
      obtain ⟨B, hB⟩ : ∃ B, endF r y = B := ⟨_, rfl⟩
      rw [hA, hB] at nb
      obtain ⟨lo, hlo⟩ : ∃ lo, min A B = lo := ⟨_, rfl⟩
      obtain ⟨hi, hhi⟩ : ∃ hi, max A B = hi := ⟨_, rfl⟩
      have hb : -8600000000 ≤ lo ∧ lo ≤ hi ∧ hi ≤ 65000000000 := by omega
      have hv := Int.tmod_eq_emod_of_nonneg (b := hi - lo + 1) ob.1
      have hv0 : 0 ≤ off % (hi - lo + 1) := Int.emod_nonneg _ (by omega)
      have hv1 : off % (hi - lo + 1) < hi - lo + 1 := Int.emod_lt_of_pos _ (by omega)
      obtain ⟨v, hve⟩ : ∃ v, off % (hi - lo + 1) = v := ⟨_, rfl⟩
      rw [hve] at hv hv0 hv1
      obtain ⟨z, m, d, hR, hn, c, hc, hat⟩ := at_both r (lo + v) hr hs b1 b2 o1 o2 (by omega) (by omega)
      have wA : wrap64 (switchV r.start y - r.off) = A := by rw [← hA]; exact w_id (by unfold begF at hA; omega) (by unfold begF at hA; omega)
      have wB : wrap64 (switchV r.end_ y - r.dstOff) = B := by rw [← hB]; exact w_id (by unfold endF at hB; omega) (by unfold endF at hB; omega)
      have N : Tn r yr off (yr % 2300) y (switchV r.start y) (switchV r.end_ y) A B lo hi (hi - lo) (hi - lo + 1) v (lo + v) (lo + v + 12614400000) (lo + v + 12622780800) :=
        ⟨Int.tmod_eq_emod_of_nonneg yb.1, by rw [← hy]; exact w_id (by omega) (by omega), wA, wB, hlo, hhi, w_id (by omega) (by omega), w_id (by omega) (by omega), by omega, by omega, hv, w_id (by omega) (by omega), w_id (by omega) (by omega), by rw [w_id (by omega) (by omega)]; omega, yb, ob⟩
      have iy : inB y 2 9998 = true := by unfold inB; simp; omega
      have c1 : ∀ V, Cv.Tab V → Calls Tryd.prog 19 #[dyV r.start, .int .i64 y] V fun e w' => e = .returned (.tuple #[.int .i64 (switchV r.start y), .int .i64 0]) ∧ Below V.heap.size V w' := fun V hV => by
        have := switch_any r.start y V hV
        unfold switchE at this
        rwa [b1, if_pos rfl, if_pos iy] at this
      have c2 : ∀ V, Cv.Tab V → Calls Tryd.prog 19 #[dyV r.end_, .int .i64 y] V fun e w' => e = .returned (.tuple #[.int .i64 (switchV r.end_ y), .int .i64 0]) ∧ Below V.heap.size V w' := fun V hV => by
        have := switch_any r.end_ y V hV
        unfold switchE at this
        rwa [b2, if_pos rfl, if_pos iy] at this
      have c3 := hat 0 (by simp)
      rw [Int.add_zero] at c3
      have c4 := hat 12622780800 (by simp)
      have hp : plainB r.start = true → plainB r.end_ = true → 1728000 < hi - lo → hi - lo < 29376000 → lo + v < hi → c = decide (lo = A) := fun p1 p2 p3 p4 p5 => by
        have := turn_plain r y (lo + v) z m d b1 b2 o1 o2 p1 p2 hyb (by rw [hA, hB, hlo]; omega) (by rw [hA, hB, hhi]; omega) (by rw [hA, hB, hlo, hhi]; exact p3) (by rw [hA, hB, hlo, hhi]; exact p4) hR hn
        rw [hA, hB, hlo, hc] at this
        exact this
      cases p1 : plainB r.start with
      | false =>
        cases c with
        | true =>
          cases de : (r.dstOff != r.off) with
          | true => exact turns_t0 r yr off _ y _ _ A B lo hi _ _ v _ _ _ N hr hs p1 de c1 c2 c3 c4 w her ht
          | false => exact turns_s0 r yr off _ y _ _ A B lo hi _ _ v _ _ _ N hr hs p1 de c1 c2 c3 c4 w her ht
        | false => exact turns_f0 r yr off _ y _ _ A B lo hi _ _ v _ _ _ N hr hs p1 c1 c2 c3 c4 w her ht
      | true =>
      cases p2 : plainB r.end_ with
      | false =>
        cases c with
        | true =>
          cases de : (r.dstOff != r.off) with
          | true => exact turns_t1 r yr off _ y _ _ A B lo hi _ _ v _ _ _ N hr hs p1 p2 de c1 c2 c3 c4 w her ht
          | false => exact turns_s1 r yr off _ y _ _ A B lo hi _ _ v _ _ _ N hr hs p1 p2 de c1 c2 c3 c4 w her ht
        | false => exact turns_f1 r yr off _ y _ _ A B lo hi _ _ v _ _ _ N hr hs p1 p2 c1 c2 c3 c4 w her ht
      | true =>
      by_cases p3 : (1728000 : Int) < hi - lo
      rotate_left
      · cases c with
        | true =>
          cases de : (r.dstOff != r.off) with
          | true => exact turns_t2 r yr off _ y _ _ A B lo hi _ _ v _ _ _ N hr hs p1 p2 p3 de c1 c2 c3 c4 w her ht
          | false => exact turns_s2 r yr off _ y _ _ A B lo hi _ _ v _ _ _ N hr hs p1 p2 p3 de c1 c2 c3 c4 w her ht
        | false => exact turns_f2 r yr off _ y _ _ A B lo hi _ _ v _ _ _ N hr hs p1 p2 p3 c1 c2 c3 c4 w her ht
      by_cases p4 : hi - lo < 29376000
      rotate_left
      · cases c with
        | true =>
          cases de : (r.dstOff != r.off) with
          | true => exact turns_t3 r yr off _ y _ _ A B lo hi _ _ v _ _ _ N hr hs p1 p2 p3 p4 de c1 c2 c3 c4 w her ht
          | false => exact turns_s3 r yr off _ y _ _ A B lo hi _ _ v _ _ _ N hr hs p1 p2 p3 p4 de c1 c2 c3 c4 w her ht
        | false => exact turns_f3 r yr off _ y _ _ A B lo hi _ _ v _ _ _ N hr hs p1 p2 p3 p4 c1 c2 c3 c4 w her ht
      by_cases p5 : lo + v < hi
      rotate_left
      · cases c with
        | true =>
          cases de : (r.dstOff != r.off) with
          | true => exact turns_t4 r yr off _ y _ _ A B lo hi _ _ v _ _ _ N hr hs p1 p2 p3 p4 p5 de c1 c2 c3 c4 w her ht
          | false => exact turns_s4 r yr off _ y _ _ A B lo hi _ _ v _ _ _ N hr hs p1 p2 p3 p4 p5 de c1 c2 c3 c4 w her ht
        | false => exact turns_f4 r yr off _ y _ _ A B lo hi _ _ v _ _ _ N hr hs p1 p2 p3 p4 p5 c1 c2 c3 c4 w her ht
      have p6 := hp p1 p2 p3 p4 p5
      cases c with
      | true =>
        have p7 : lo = A := of_decide_eq_true p6.symm
        cases de : (r.dstOff != r.off) with
        | true => exact turns_t5 r yr off _ y _ _ A B lo hi _ _ v _ _ _ N hr hs p1 p2 p3 p4 p5 p7 de c1 c2 c3 c4 w her ht
        | false => exact turns_s5 r yr off _ y _ _ A B lo hi _ _ v _ _ _ N hr hs p1 p2 p3 p4 p5 p7 de c1 c2 c3 c4 w her ht
      | false =>
        have p7 : ¬ lo = A := of_decide_eq_false p6.symm
        exact turns_f5 r yr off _ y _ _ A B lo hi _ _ v _ _ _ N hr hs p1 p2 p3 p4 p5 (beq_eq_false_iff_ne.mpr p7) c1 c2 c3 c4 w her ht
end Go.Proofs.YtkfhipkcnocokaaDoor.Fo
