/-
  Layer 6 (tzif): the document's Right (written by gen_rright6.py).
-/
import Derived.Test.YtljkcnoicdhchaaTzS
namespace Go.Proofs.Ytljkcnoicdhchaa.Tz
open Go.RowKit

set_option maxHeartbeats 1000000 in
theorem rwithin_any (t : ByteArray) (lo hi c : Int) (w : World) (ht : t.size ≤ 9223372036854775807) : Calls Try.prog 25 #[.string t, .int .i64 lo, .int .i64 hi, .int .u8 c, .int .u8 126] w fun e w' => e = .returned (.bool (onlyB t c && inI t.size lo hi)) ∧ w = w' := by
  obtain ⟨b, hb⟩ : ∃ b, onlyB t c = b := ⟨_, rfl⟩
  rw [hb]
  have HB := Lib.hid hb
  clear hb
  obtain ⟨d, hd⟩ : ∃ d, inI t.size lo hi = d := ⟨_, rfl⟩
  rw [hd]
  have HD := Lib.hid hd
  clear hd
  go_enter Try.func25, Try.ntmps25
  go_wp2_with fail
  go_loopw [11] (fun i wr => ∃ k : Nat, k ≤ t.size ∧ i = .int .i64 k ∧ (∀ x ∈ t.data.toList.take k, inI x.toNat c 126 = true) ∧ wr = w) (fun i _ => t.size - (intOf i).toNat)
  case atStart => exact ⟨0, Nat.zero_le _, rfl, fun x hx => by simp at hx, rfl⟩
  case round =>
    obtain ⟨k, hk, rfl, hall, rfl⟩ := hrel
    have HALL := Lib.hid hall
    clear hall
    by_cases hlt : k < t.size
    · have hk0 : (0 : Int) ≤ (k : Int) := by omega
      have hk1 : (k : Int) < (t.size : Int) := by omega
      have HAT := Lib.hid (byte_at t k hlt)
      by_cases h1 : (t[k].toNat : Int) < c
      · go_wp2_with fail
        go_ret
        refine ⟨?_, rfl⟩
        have : b = false := by
          rw [← HB.out]
          unfold onlyB
          rw [List.all_eq_false]
          exact ⟨_, List.mem_of_getElem? HAT.out, by simp [inI]; omega⟩
        rw [this]; rfl
      · by_cases h2 : (126 : Int) < (t[k].toNat : Int)
        · go_wp2_with fail
          go_ret
          refine ⟨?_, rfl⟩
          have : b = false := by
            rw [← HB.out]
            unfold onlyB
            rw [List.all_eq_false]
            exact ⟨_, List.mem_of_getElem? HAT.out, by simp [inI]; omega⟩
          rw [this]; rfl
        · have HQ : Hid (inI (t[k].toNat : Int) c 126 = true) := Lib.hid (by simp [inI]; omega)
          go_wp2_with fail
          refine ⟨⟨k + 1, hlt, by go_num, fun x hx => ?_, by first | rfl | trivial⟩, by simp [intOf]; omega⟩
          rw [take_one HAT.out] at hx
          rcases List.mem_append.1 hx with hx | hx
          · exact HALL.out x hx
          · rw [List.mem_singleton.1 hx]; exact HQ.out
    · have hk1 : ¬ (k : Int) < (t.size : Int) := by omega
      have hbt : b = true := by
        rw [← HB.out]
        unfold onlyB
        rw [List.all_eq_true]
        intro x hx
        refine HALL.out x ?_
        rw [List.take_of_length_le]
        · exact hx
        · rw [Array.length_toList]; show t.size ≤ k; omega
      have HBT := Lib.hid hbt
      clear hbt
      by_cases h1 : lo ≤ (t.size : Int)
      · by_cases h2 : (t.size : Int) ≤ hi
        · go_wp2_with fail
          go_ret
          exact ⟨by rw [HBT.out, ← HD.out]; simp [inI, h1, h2], rfl⟩
        · go_wp2_with fail
          go_ret
          exact ⟨by rw [HBT.out, ← HD.out]; simp [inI, h2], rfl⟩
      · go_wp2_with fail
        go_ret
        exact ⟨by rw [HBT.out, ← HD.out]; simp [inI]; omega, rfl⟩
theorem right_no1 {z : Zn} (h : rightTys z.types = false) : rightZ z = false := by unfold rightZ; simp [h]
theorem right_no2 {z : Zn} (h : rightTms z.times = false) : rightZ z = false := by unfold rightZ; simp [h]
theorem right_no3 {z : Zn} (h : z.index.length ≠ z.times.length) : rightZ z = false := by unfold rightZ; simp [h]
theorem right_no4 {z : Zn} (h : rightIdx z.index z.types.length = false) : rightZ z = false := by unfold rightZ; simp [h]
theorem right_no5 {z : Zn} (h : (onlyB z.footer 32 && inI z.footer.size 0 100) = false) : rightZ z = false := by
  unfold rightZ
  rw [Bool.and_eq_false_iff] at h
  rcases h with h | h
  · simp [h]
  · have : ¬ z.footer.size ≤ 100 := by
      intro hc
      simp [inI] at h
      omega
    simp [this]
theorem tys_no {l : List Ty} {x : Ty} (hx : x ∈ l) (h : rightTy x = false) : rightTys l = false := by
  unfold rightTys
  have : l.all rightTy = false := List.all_eq_false.2 ⟨x, hx, by simp [h]⟩
  simp [this]
set_option maxRecDepth 100000 in
set_option maxHeartbeats 8000000 in
theorem rright_any (z : Zn) (vt vs vi : Value) (B : Nat) (w : World) (h : ZnAt w B z vt vs vi) (ho : ZnOk z) (hB : B ≤ w.heap.size) : Calls Try.prog 12 #[.agg #[vt, vs, vi, .string z.footer]] w fun e w' => e = .returned (.bool (rightZ z)) ∧ Below w.heap.size w w' := by
  obtain ⟨At, ct, rfl⟩ := h.types.len
  obtain ⟨As, cs, rfl⟩ := h.times.len
  obtain ⟨Ai, ci, rfl⟩ := h.index.len
  obtain ⟨W0, hW0⟩ : ∃ W0, w.alloc (.cells #[.slice At z.types.length ct, .slice As z.times.length cs, .slice Ai z.index.length ci, .string z.footer] 31) = W0 := ⟨_, rfl⟩
  have HB0 : Hid (Below w.heap.size w W0) := Lib.hid (by rw [← hW0]; exact (Below.refl _ _).alloc (Nat.le_refl _) _)
  have HZ : Hid (ZnAt W0 B z (.slice At z.types.length ct) (.slice As z.times.length cs) (.slice Ai z.index.length ci)) := Lib.hid (h.below HB0.out hB)
  have q0 : W0.cell? ⟨w.heap.size, 0, none⟩ = some (.slice At z.types.length ct) := by rw [← hW0]; exact cell_new w _ _ _ 0 _ rfl rfl
  have q1 : W0.cell? ⟨w.heap.size, 1, none⟩ = some (.slice As z.times.length cs) := by rw [← hW0]; exact cell_new w _ _ _ 1 _ rfl rfl
  have q2 : W0.cell? ⟨w.heap.size, 2, none⟩ = some (.slice Ai z.index.length ci) := by rw [← hW0]; exact cell_new w _ _ _ 2 _ rfl rfl
  have q3 : W0.cell? ⟨w.heap.size, 3, none⟩ = some (.string z.footer) := by rw [← hW0]; exact cell_new w _ _ _ 3 _ rfl rfl
  have HO := Lib.hid ho
  obtain ⟨l1, l2, l3, _, l5⟩ := ho
  obtain ⟨b, hb⟩ : ∃ b, rightZ z = b := ⟨_, rfl⟩
  rw [hb]
  have HR := Lib.hid hb
  obtain ⟨f5, hf5⟩ : ∃ f5, (onlyB z.footer 32 && inI z.footer.size 0 100) = f5 := ⟨_, rfl⟩
  have HF : Hid (Calls Try.prog 25 #[.string z.footer, .int .i64 0, .int .i64 100, .int .u8 32, .int .u8 126] W0 fun e w' => e = .returned (.bool f5) ∧ W0 = w') := Lib.hid (by
    have := rwithin_any z.footer 0 100 32 W0 l5
    rwa [hf5] at this)
  have HF5 := Lib.hid hf5
  clear hb hf5 h hB
  by_cases e1 : (z.types.length : Int) < 1
  · have e : b = false := by rw [← HR.out]; exact right_no1 (by unfold rightTys inI; simp; omega)
    subst e
    go_enter Try.func12, Try.ntmps12
    go_wp2_with fail
    go_ret
    exact ⟨rfl, HB0.out⟩
  by_cases e2 : (255 : Int) < (z.types.length : Int)
  · have e : b = false := by rw [← HR.out]; exact right_no1 (by unfold rightTys inI; simp; omega)
    subst e
    go_enter Try.func12, Try.ntmps12
    go_wp2_with fail
    go_ret
    exact ⟨rfl, HB0.out⟩
  by_cases e3 : (4000 : Int) < (z.times.length : Int)
  · have e : b = false := by rw [← HR.out]; exact right_no2 (by unfold rightTms; simp; omega)
    subst e
    go_enter Try.func12, Try.ntmps12
    go_wp2_with fail
    go_ret
    exact ⟨rfl, HB0.out⟩
  by_cases e4 : z.index.length ≠ z.times.length
  · have e : b = false := by rw [← HR.out]; exact right_no3 e4
    subst e
    have d1 : decide ((z.times.length : Int) = (z.index.length : Int)) = false := by simp; omega
    have d2 : ((z.times.length : Int) == (z.index.length : Int)) = false := by simp; omega
    have d3 : ((z.times.length : Int) != (z.index.length : Int)) = true := by simp; omega
    clear e4
    go_enter Try.func12, Try.ntmps12
    go_wp2_with fail
    go_ret
    exact ⟨rfl, HB0.out⟩
  have HEQ : Hid (z.index.length = z.times.length) := Lib.hid (by omega)
  have d1 : decide ((z.times.length : Int) = (z.index.length : Int)) = true := by have := HEQ.out; simp; omega
  have d2 : ((z.times.length : Int) == (z.index.length : Int)) = true := by have := HEQ.out; simp; omega
  have d3 : ((z.times.length : Int) != (z.index.length : Int)) = false := by have := HEQ.out; simp; omega
  clear e4
  cases f5 with
  | false =>
    have e : b = false := by rw [← HR.out]; exact right_no5 HF5.out
    subst e
    go_enter Try.func12, Try.ntmps12
    go_wp2_with (first
      | (go_at_call 25; refine HF.out.mono ?_; clear HF; rintro e V1 ⟨rfl, rfl⟩)
      | fail)
    go_ret
    exact ⟨rfl, HB0.out⟩
  | true =>
    go_enter Try.func12, Try.ntmps12
    go_wp2_with (first
      | (go_at_call 25; refine HF.out.mono ?_; clear HF; rintro e V1 ⟨rfl, rfl⟩)
      | fail)
    clear d1 d2 d3
    go_loopw [3, 4] (fun s i wr => ∃ k : Nat, k ≤ z.types.length ∧ i = .int .i64 k ∧ s = .int .i64 (letters (z.types.take k) : Nat) ∧ letters (z.types.take k) ≤ 16 * k ∧ (∀ t ∈ z.types.take k, rightTy t = true) ∧ wr = W0) (fun _ i _ => z.types.length - (intOf i).toNat)
    case atStart => exact ⟨0, Nat.zero_le _, rfl, rfl, by simp [letters], fun x hx => by simp at hx, rfl⟩
    case round =>
      obtain ⟨k, hk, rfl, rfl, hle, hall, rfl⟩ := hrel
      have HALL := Lib.hid hall
      clear hall
      by_cases hlt : k < z.types.length
      · have hk0 : (0 : Int) ≤ (k : Int) := by omega
        have hk1 : (k : Int) < (z.types.length : Int) := by omega
        obtain ⟨x, hx⟩ : ∃ x, z.types[k]? = some x := ⟨_, List.getElem?_eq_getElem hlt⟩
        obtain ⟨g, off, c', hv, hg, c0, c1, c2⟩ := HZ.out.types.ty hx
        injection hv with ea _ ec
        subst ea; subst ec
        have hxm := List.mem_of_getElem? hx
        have hxs := HO.out.abbr x hxm
        obtain ⟨nl, hnl⟩ : ∃ nl, letters (z.types.take k) = nl := ⟨_, rfl⟩
        rw [hnl] at hle ⊢
        have HNL := Lib.hid hnl; have HX := Lib.hid hx; have HXM := Lib.hid hxm
        clear hnl hx hxm
        have hn0 : (0 : Int) ≤ (nl : Int) := by omega
        have hn1 : (nl : Int) ≤ 4080 := by omega
        by_cases a1 : x.off < -89999
        · have e : b = false := by rw [← HR.out]; exact right_no1 (tys_no HXM.out (by unfold rightTy inI; simp; omega))
          subst e
          go_wp2_with fail
          go_ret
          exact ⟨rfl, HB0.out⟩
        by_cases a2 : 93599 < x.off
        · have e : b = false := by rw [← HR.out]; exact right_no1 (tys_no HXM.out (by unfold rightTy inI; simp; omega))
          subst e
          go_wp2_with fail
          go_ret
          exact ⟨rfl, HB0.out⟩
        obtain ⟨f6, hf6⟩ : ∃ f6, (onlyB x.abbr 33 && inI x.abbr.size 1 15) = f6 := ⟨_, rfl⟩
        have HG : Hid (Calls Try.prog 25 #[.string x.abbr, .int .i64 1, .int .i64 15, .int .u8 33, .int .u8 126] wr fun e w' => e = .returned (.bool f6) ∧ wr = w') := Lib.hid (by
          have := rwithin_any x.abbr 1 15 33 wr hxs
          rwa [hf6] at this)
        have HF6 := Lib.hid hf6
        clear hf6
        cases f6 with
        | false =>
          have e : b = false := by
            rw [← HR.out]
            refine right_no1 (tys_no HXM.out ?_)
            unfold rightTy
            have := HF6.out
            rw [Bool.and_eq_false_iff] at this
            rcases this with h | h <;> simp [h]
          subst e
          go_wp2_with (first
            | (go_at_call 25; refine HG.out.mono ?_; clear HG; rintro e V1 ⟨rfl, rfl⟩)
            | fail)
          go_ret
          exact ⟨rfl, HB0.out⟩
        | true =>
          have hx15 : x.abbr.size ≤ 15 := by
            have := HF6.out
            simp [inI] at this
            omega
          have hxr : rightTy x = true := by
            have h1 := HF6.out
            rw [Bool.and_eq_true] at h1
            unfold rightTy
            rw [h1.1, h1.2]
            simp [inI]; omega
          have HXR := Lib.hid hxr
          have hs1 : (x.abbr.size : Int) ≤ 15 := by omega
          have hs0 : (0 : Int) ≤ (x.abbr.size : Int) := by omega
          clear hxr
          go_wp2_with (first
            | (go_at_call 25; refine HG.out.mono ?_; clear HG; rintro e V1 ⟨rfl, rfl⟩)
            | fail)
          refine ⟨⟨k + 1, hlt, by go_num, ?_, ?_, fun y hy => ?_, by first | rfl | trivial⟩, by simp [intOf]; omega⟩
          · rw [take_one HX.out, letters_snoc, HNL.out]; congr 1
          · rw [take_one HX.out, letters_snoc, HNL.out]; omega
          · rw [take_one HX.out] at hy
            rcases List.mem_append.1 hy with hy | hy
            · exact HALL.out y hy
            · rw [List.mem_singleton.1 hy]; exact HXR.out
      · have hk1 : ¬ (k : Int) < (z.types.length : Int) := by omega
        have htk : z.types.take k = z.types := List.take_of_length_le (by omega)
        rw [htk] at hle ⊢
        have HAT : Hid (∀ t ∈ z.types, rightTy t = true) := Lib.hid (by have := HALL.out; rwa [htk] at this)
        obtain ⟨nl, hnl⟩ : ∃ nl, letters z.types = nl := ⟨_, rfl⟩
        rw [hnl] at hle ⊢
        have HNL := Lib.hid hnl
        have hn0 : (0 : Int) ≤ (nl : Int) := by omega
        clear hnl htk HALL hle
        go_wp2_with fail
        obtain ⟨wA, hwA⟩ : ∃ wA : World, wr = wA := ⟨_, rfl⟩
        rw [hwA] at HB0 HZ q0 q1 q2 q3 ⊢
        clear hwA
        go_loopw [5] (fun i wr => ∃ k m : Nat, k ≤ z.times.length ∧ i = .int .i64 k ∧ (∀ (j : Nat) (a c : Int), j + 1 < k → z.times[j]? = some a → z.times[j + 1]? = some c → a < c) ∧ (∀ (j : Nat) (a : Int), j < k → z.index[j]? = some a → inI a 0 (z.types.length - 1) = true) ∧ (0 < k → nl ≤ 256) ∧ wr = wA.drewN m) (fun i _ => z.times.length - (intOf i).toNat)
        case atStart => exact ⟨0, 0, Nat.zero_le _, rfl, fun j a c hj => absurd hj (by omega), fun j a hj => absurd hj (by omega), fun hj => absurd hj (by omega), rfl⟩
        case round =>
          obtain ⟨k, m, hk, rfl, hra, hia, hnl, rfl⟩ := hrel
          have HRA := Lib.hid hra; have HIA := Lib.hid hia; have HNL2 := Lib.hid hnl
          clear hra hia hnl
          by_cases hlt : k < z.times.length
          · have hk0 : (0 : Int) ≤ (k : Int) := by omega
            have hk1 : (k : Int) < (z.times.length : Int) := by omega
            have hk2 : (k : Int) < (z.index.length : Int) := by have := HEQ.out; omega
            obtain ⟨y, hy⟩ : ∃ y, z.index[k]? = some y := ⟨_, List.getElem?_eq_getElem (by have := HEQ.out; omega)⟩
            obtain ⟨g, off, c', hv, hg, c0⟩ := HZ.out.index.one hy
            injection hv with ea _ ec
            subst ea; subst ec
            have HY := Lib.hid hy
            clear hy
            by_cases a0 : (256 : Int) < (nl : Int)
            · have e : b = false := by rw [← HR.out]; exact right_no1 (by unfold rightTys; rw [HNL.out]; simp; omega)
              subst e
              go_wp2_with fail
              go_quiet (fail)
              go_wp2_with fail
              go_ret
              exact ⟨rfl, drewN_below (drewN_below HB0.out m) nq⟩
            have b0 : decide ((256 : Int) < (nl : Int)) = false := decide_eq_false a0
            have HN256 : Hid (nl ≤ 256) := Lib.hid (by omega)
            clear a0
            by_cases a1 : y < 0
            · have e : b = false := by rw [← HR.out]; exact right_no4 (by unfold rightIdx; rw [List.all_eq_false]; exact ⟨y, List.mem_of_getElem? HY.out, by simp [inI]; omega⟩)
              subst e
              go_wp2_with fail
              go_quiet (fail)
              go_wp2_with fail
              go_ret
              exact ⟨rfl, drewN_below (drewN_below HB0.out m) nq⟩
            have b1 : decide (y < 0) = false := decide_eq_false a1
            by_cases a2 : (z.types.length : Int) ≤ y
            · have e : b = false := by rw [← HR.out]; exact right_no4 (by unfold rightIdx; rw [List.all_eq_false]; exact ⟨y, List.mem_of_getElem? HY.out, by simp [inI]; omega⟩)
              subst e
              go_wp2_with fail
              go_quiet (fail)
              go_wp2_with fail
              go_ret
              exact ⟨rfl, drewN_below (drewN_below HB0.out m) nq⟩
            have b2 : decide ((z.types.length : Int) ≤ y) = false := decide_eq_false a2
            by_cases hkz : k = 0
            · have a3 : ¬ (0 : Int) < (k : Int) := by omega
              have a4 : ¬ 0 < k := by omega
              have a5 : decide ((0 : Int) < (k : Int)) = false := by simp; omega
              have a6 : decide (0 < k) = false := by simp; omega
              have HKZ := Lib.hid hkz
              clear hkz
              go_wp2_with fail
              go_quiet (fail)
              go_wp2_with fail
              refine ⟨⟨k + 1, m + nq, hlt, by go_num, fun i a d hi ha hd => ?_, fun i a hi ha => ?_, fun _ => HN256.out, by simp [World.drewN]⟩, by simp [intOf]; omega⟩
              · have := HKZ.out; omega
              · by_cases e : i = k
                · subst e
                  rw [HY.out] at ha
                  injection ha with ha
                  subst ha
                  simp [inI]; omega
                · exact HIA.out i a (by omega) ha
            · obtain ⟨j, rfl⟩ : ∃ j, k = j + 1 := ⟨k - 1, by omega⟩
              obtain ⟨x, hx⟩ : ∃ x, z.times[j + 1]? = some x := ⟨_, List.getElem?_eq_getElem hlt⟩
              obtain ⟨x2, hx2⟩ : ∃ x, z.times[j]? = some x := ⟨_, List.getElem?_eq_getElem (by omega)⟩
              obtain ⟨g2, off2, c2', hv2, hg2, c2⟩ := HZ.out.times.one hx
              obtain ⟨g3, off3, c3', hv3, hg3, c3⟩ := HZ.out.times.one hx2
              injection hv2 with eb _ ed
              subst eb; subst ed
              injection hv3 with ee _ eh
              injection ee with ee
              injection ee with ef eg _
              subst ef; subst eg; subst eh
              have e6 : ((j + 1 : Nat) : Int) - 1 = (j : Int) := by omega
              have hj0 : (0 : Int) ≤ (j : Int) := by omega
              have hj1 : (j : Int) < (z.times.length : Int) := by omega
              have a3 : (0 : Int) < ((j + 1 : Nat) : Int) := by omega
              have HX := Lib.hid hx; have HX2 := Lib.hid hx2
              clear hx hx2 hkz
              by_cases a7 : x ≤ x2
              · have e : b = false := by rw [← HR.out]; exact right_no2 (by cases hr : rises z.times with | false => (unfold rightTms; simp [hr]) | true => (have := rises_of hr j x2 x HX2.out HX.out; omega))
                subst e
                go_wp2_with fail
                go_quiet (fail)
                go_wp2_with fail
                go_ret
                exact ⟨rfl, drewN_below (drewN_below HB0.out m) nq⟩
              · go_wp2_with fail
                go_quiet (fail)
                go_wp2_with fail
                refine ⟨⟨j + 1 + 1, m + nq, hlt, by go_num, fun i a d hi ha hd => ?_, fun i a hi ha => ?_, fun _ => HN256.out, by simp [World.drewN]⟩, by simp [intOf]; omega⟩
                · by_cases e : i = j
                  · subst e
                    rw [HX2.out] at ha
                    rw [HX.out] at hd
                    injection ha with ha
                    injection hd with hd
                    omega
                  · exact HRA.out i a d (by omega) ha hd
                · by_cases e : i = j + 1
                  · subst e
                    rw [HY.out] at ha
                    injection ha with ha
                    subst ha
                    simp [inI]; omega
                  · exact HIA.out i a (by omega) ha
          · have hk1 : ¬ (k : Int) < (z.times.length : Int) := by omega
            go_wp2_with fail
            go_ret
            refine ⟨?_, drewN_below HB0.out m⟩
            have hke : k = z.times.length := by omega
            have h1 : rises z.times = true := rises_at fun j a d ha hd => HRA.out j a d (by
              have : j + 1 < z.times.length := by
                rcases Nat.lt_or_ge (j + 1) z.times.length with h | h
                · exact h
                · rw [List.getElem?_eq_none h] at hd; cases hd
              omega) ha hd
            have h2 : rightIdx z.index z.types.length = true := by
              unfold rightIdx
              rw [List.all_eq_true]
              intro i hi
              obtain ⟨j, hj⟩ := List.getElem?_of_mem hi
              exact HIA.out j i (by
                have := (List.getElem?_eq_some_iff.1 hj).1
                have := HEQ.out
                omega) hj
            have h3 : (onlyB z.footer 32 && inI z.footer.size 0 100) = true := HF5.out
            rw [Bool.and_eq_true] at h3
            have h4 : z.footer.size ≤ 100 := by have := h3.2; simp [inI] at this; omega
            have h5 : z.types.all rightTy = true := List.all_eq_true.2 HAT.out
            have h6 : rightZ z = decide (nl ≤ 256) := by
              unfold rightZ rightTms rightTys inI
              rw [h1, h2, h3.1, h5, HNL.out]
              have h7 : z.times.length ≤ 4000 := by omega
              have h8 : (1 : Int) ≤ (z.types.length : Int) := by omega
              have h9 : (z.types.length : Int) ≤ 255 := by omega
              simp [h4, h7, h8, h9, HEQ.out]
            rw [← HR.out, h6]
            congr 2
            by_cases h : nl ≤ 256
            · have : (nl : Int) ≤ 256 := by omega
              simp [h, this]
            · have : ¬ (nl : Int) ≤ 256 := by omega
              simp [h, this]
end Go.Proofs.Ytljkcnoicdhchaa.Tz
