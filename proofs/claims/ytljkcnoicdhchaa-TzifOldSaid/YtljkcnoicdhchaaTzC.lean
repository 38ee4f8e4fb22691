/-
  Layer 6 (tzif): the program's Right, whole.
-/
import Derived.Test.YtljkcnoicdhchaaTzB
namespace Go.Proofs.Ytljkcnoicdhchaa.Tz
open Go.RowKit

theorem letters_le : ∀ l : List Ty, (∀ t ∈ l, t.abbr.size ≤ 15) → letters l ≤ l.length * 16
  | [], _ => by simp [letters]
  | t :: l, h => by
    have h1 := letters_le l fun x hx => h x (List.mem_cons_of_mem _ hx)
    have h2 := h t (List.mem_cons_self ..)
    unfold letters at *
    rw [List.map_cons, List.sum_cons, List.length_cons, Nat.add_mul]
    omega
theorem right_small {t : Ty} (h : rightTy t = true) : t.abbr.size ≤ 15 := by
  unfold rightTy inI at h
  simp only [Bool.and_eq_true, decide_eq_true_eq] at h
  omega
set_option maxHeartbeats 2000000 in
theorem rightTys_any (v : Value) (l : List Ty) (B : Nat) (w : World) (h : Sl w B 3 v (l.map tyCells)) (hB : B ≤ w.heap.size) (hl : l.length ≤ 1000000) (hs : ∀ t ∈ l, t.abbr.size ≤ 9223372036854775807) : Calls Try.prog 26 #[v] w fun e w' => e = .returned (.bool (rightTys l)) ∧ Below w.heap.size w w' := by
  obtain ⟨A, c, rfl⟩ := h.len
  have H := Lib.hid h; have HS := Lib.hid hs
  clear h hs
  obtain ⟨q0, hq0⟩ : ∃ q, inI l.length 1 255 = q := ⟨_, rfl⟩
  have HW0 := Lib.hid (within_int l.length 1 255 w)
  rw [hq0] at HW0
  cases q0 with
  | false =>
    have e : rightTys l = false := by unfold rightTys; rw [hq0]; rfl
    rw [e]
    clear e hq0
    go_enter Try.func26, Try.ntmps26
    go_wp2_with (first
      | (go_at_call 42; refine HW0.out.mono ?_; clear HW0; rintro e w1 ⟨rfl, rfl⟩)
      | fail)
    go_ret
    exact ⟨rfl, Below.refl _ _⟩
  | true =>
    have hl255 : l.length ≤ 255 := by
      unfold inI at hq0
      simp only [Bool.and_eq_true, decide_eq_true_eq] at hq0
      omega
    have e : rightTys l = (l.all rightTy && decide (letters l ≤ 256)) := by unfold rightTys; rw [hq0]; rfl
    rw [e]
    obtain ⟨b, hb⟩ : ∃ b, (l.all rightTy && decide (letters l ≤ 256)) = b := ⟨_, rfl⟩
    rw [hb]
    have HB := Lib.hid hb
    clear hb e hq0
    go_enter Try.func26, Try.ntmps26
    go_wp2_with (first
      | (go_at_call 42; refine HW0.out.mono ?_; clear HW0; rintro e w1 ⟨rfl, rfl⟩)
      | fail)
    go_loopw [3, 12] (fun n i wr => ∃ k : Nat, k ≤ l.length ∧ i = .int .i64 k ∧ n = .int .i64 (letters (l.take k) : Nat) ∧ (∀ x ∈ l.take k, rightTy x = true) ∧ Below w.heap.size w wr) (fun _ i _ => l.length - (intOf i).toNat)
    case atStart => exact ⟨0, Nat.zero_le _, rfl, rfl, fun x hx => by simp at hx, Below.refl _ _⟩
    case round =>
      obtain ⟨k, hk, rfl, rfl, hall, hbl⟩ := hrel
      have hlet := letters_le (l.take k) fun t ht => right_small (hall t ht)
      have hlk : (l.take k).length ≤ 255 := by rw [List.length_take]; omega
      have hlet2 : letters (l.take k) ≤ 5000 := by omega
      have HALL := Lib.hid hall; have HBL := Lib.hid hbl
      clear hall hbl hlet hlk
      by_cases hlt : k < l.length
      · have hk0 : (0 : Int) ≤ (k : Int) := by omega
        have hk1 : (k : Int) < (l.length : Int) := by omega
        obtain ⟨x, hx⟩ : ∃ x, l[k]? = some x := ⟨_, List.getElem?_eq_getElem hlt⟩
        obtain ⟨g, off, c', hv, hg, c0, c1, c2⟩ := H.out.ty hx
        injection hv with e1 _ e3
        subst e1; subst e3
        have hxs := HS.out x (List.mem_of_getElem? hx)
        have k0 := (HBL.out.cell (p := ⟨g, off + k * 3, none⟩) (Nat.lt_of_lt_of_le hg hB)).trans c0
        have k1 := (HBL.out.cell (p := ⟨g, off + k * 3 + 1, none⟩) (Nat.lt_of_lt_of_le hg hB)).trans c1
        have k2 := (HBL.out.cell (p := ⟨g, off + k * 3 + 2, none⟩) (Nat.lt_of_lt_of_le hg hB)).trans c2
        have HX := Lib.hid hx
        clear hx c0 c1 c2
        obtain ⟨q1, hq1⟩ : ∃ q, inI x.off (-89999) 93599 = q := ⟨_, rfl⟩
        obtain ⟨q2, hq2⟩ : ∃ q, inI (x.abbr.size : Int) 1 15 = q := ⟨_, rfl⟩
        obtain ⟨q3, hq3⟩ : ∃ q, onlyB x.abbr 33 = q := ⟨_, rfl⟩
        have HW1 : Hid (∀ V, Calls Try.prog 42 #[.int .i64 x.off, .int .i64 (-89999), .int .i64 93599] V fun e w' => e = .returned (.bool q1) ∧ V = w') := Lib.hid fun V => by rw [← hq1]; exact within_int _ _ _ V
        have HW2 : Hid (∀ V, Calls Try.prog 42 #[.int .i64 x.abbr.size, .int .i64 1, .int .i64 15] V fun e w' => e = .returned (.bool q2) ∧ V = w') := Lib.hid fun V => by rw [← hq2]; exact within_int _ _ _ V
        have HW3 : Hid (∀ V, Calls Try.prog 29 #[.string x.abbr, .int .u8 33] V fun e w' => e = .returned (.bool q3) ∧ V = w') := Lib.hid fun V => by rw [← hq3]; exact hasOnly_any _ _ V hxs
        have HR : Hid (rightTy x = (q1 && q2 && q3)) := Lib.hid (by unfold rightTy; rw [hq1, hq2, hq3])
        have HBO : Hid (Below w.heap.size w (wr.alloc (.cells #[.int .i64 x.off, .bool x.dst, .string x.abbr] 54))) := Lib.hid (HBL.out.alloc HBL.out.size _)
        have hno : (q1 && q2 && q3) = false → b = false := fun hf => by
          rw [← HB.out]
          have : l.all rightTy = false := by
            rw [List.all_eq_false]
            exact ⟨x, List.mem_of_getElem? HX.out, by rw [HR.out, hf]; simp⟩
          rw [this]; rfl
        have HNO := Lib.hid hno
        clear hq1 hq2 hq3 hno
        cases q1 with
        | false =>
          go_wp2_with (first
            | (go_at_call 42; refine (HW1.out _).mono ?_; clear HW1; rintro e w1 ⟨rfl, rfl⟩)
            | fail)
          go_ret
          exact ⟨by rw [HNO.out rfl]; rfl, HBO.out⟩
        | true =>
          cases q2 with
          | false =>
            go_wp2_with (first
              | (go_at_call 42; refine (HW1.out _).mono ?_; clear HW1; rintro e w1 ⟨rfl, rfl⟩)
              | (go_at_call 42; refine (HW2.out _).mono ?_; clear HW2; rintro e w1 ⟨rfl, rfl⟩)
              | fail)
            go_ret
            exact ⟨by rw [HNO.out rfl]; rfl, HBO.out⟩
          | true =>
            cases q3 with
            | false =>
              go_wp2_with (first
                | (go_at_call 42; refine (HW1.out _).mono ?_; clear HW1; rintro e w1 ⟨rfl, rfl⟩)
                | (go_at_call 42; refine (HW2.out _).mono ?_; clear HW2; rintro e w1 ⟨rfl, rfl⟩)
                | (go_at_call 29; refine (HW3.out _).mono ?_; clear HW3; rintro e w1 ⟨rfl, rfl⟩)
                | fail)
              go_ret
              exact ⟨by rw [HNO.out rfl]; rfl, HBO.out⟩
            | true =>
              have hx15 : x.abbr.size ≤ 15 := right_small HR.out
              go_wp2_with (first
                | (go_at_call 42; refine (HW1.out _).mono ?_; clear HW1; rintro e w1 ⟨rfl, rfl⟩)
                | (go_at_call 42; refine (HW2.out _).mono ?_; clear HW2; rintro e w1 ⟨rfl, rfl⟩)
                | (go_at_call 29; refine (HW3.out _).mono ?_; clear HW3; rintro e w1 ⟨rfl, rfl⟩)
                | fail)
              refine ⟨⟨k + 1, hlt, by go_num, ?_, fun y hy => ?_, HBO.out⟩, by simp [intOf]; omega⟩
              · rw [take_one HX.out, letters_snoc]; go_num
              · rw [take_one HX.out] at hy
                rcases List.mem_append.1 hy with hy | hy
                · exact HALL.out y hy
                · rw [List.mem_singleton.1 hy]; exact HR.out
      · have hk1 : ¬ (k : Int) < (l.length : Int) := by omega
        have htk : l.take k = l := List.take_of_length_le (by omega)
        rw [htk] at HALL hlet2 ⊢
        have hbb : b = decide (letters l ≤ 256) := by
          rw [← HB.out]
          have : l.all rightTy = true := by rw [List.all_eq_true]; exact HALL.out
          rw [this]; rfl
        have HBB := Lib.hid hbb
        clear hbb
        by_cases h256 : letters l ≤ 256
        · have h256i : ((letters l : Nat) : Int) ≤ 256 := by omega
          go_wp2_with fail
          go_ret
          exact ⟨by rw [HBB.out]; simp [h256], HBL.out⟩
        · have h256i : ¬ ((letters l : Nat) : Int) ≤ 256 := by omega
          go_wp2_with fail
          go_ret
          exact ⟨by rw [HBB.out]; simp [h256], HBL.out⟩
end Go.Proofs.Ytljkcnoicdhchaa.Tz
