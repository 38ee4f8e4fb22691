/-
  TzV, TzW, TzX, TzY, TzZ, one behind the other.
-/
import Derived.Test.YtohpdpcjhmopbaaTzMc
import Derived.Deep.AppendLies
/-! Layer 6 (tzif): the document's Right (written by gen_rright6.py). -/
namespace Go.Proofs.Ytohpdpcjhmopbaa.Tz
open Go.RowKit

set_option maxHeartbeats 1000000 in
theorem rwithin_any (t : ByteArray) (lo hi c : Int) (w : World) (ht : t.size ≤ 9223372036854775807) : Calls Try.prog 25 #[.string t, .int .i64 lo, .int .i64 hi, .int .u8 c, .int .u8 126] w fun e w' => e = .returned (.bool (onlyB t c && inI t.size lo hi)) ∧ w = w' := by
  obtain ⟨b, hb⟩ : ∃ b, onlyB t c = b := ⟨_, rfl⟩
  rw [hb]
  have HB := Lib.hid hb
  clear hb
  obtain ⟨d, hd⟩ : ∃ d, inI t.size lo hi = d := ⟨_, rfl⟩
  rw [hd]
  have HD := Lib.hid hd
  clear hd
  go_enter Try.func25, Try.ntmps25
  go_wp2_with fail
  go_loopw [11] (fun i wr => ∃ k : Nat, k ≤ t.size ∧ i = .int .i64 k ∧ (∀ x ∈ t.data.toList.take k, inI x.toNat c 126 = true) ∧ wr = w) (fun i _ => t.size - (intOf i).toNat)
  case atStart => exact ⟨0, Nat.zero_le _, rfl, fun x hx => by simp at hx, rfl⟩
  case round =>
    obtain ⟨k, hk, rfl, hall, rfl⟩ := hrel
    have HALL := Lib.hid hall
    clear hall
    by_cases hlt : k < t.size
    · have hk0 : (0 : Int) ≤ (k : Int) := by omega
      have hk1 : (k : Int) < (t.size : Int) := by omega
      have HAT := Lib.hid (byte_at t k hlt)
      by_cases h1 : (t[k].toNat : Int) < c
      · go_wp2_with fail
        go_ret
        refine ⟨?_, rfl⟩
        have : b = false := by
          rw [← HB.out]
          unfold onlyB
          rw [List.all_eq_false]
          exact ⟨_, List.mem_of_getElem? HAT.out, by simp [inI]; omega⟩
        rw [this]; rfl
      · by_cases h2 : (126 : Int) < (t[k].toNat : Int)
        · go_wp2_with fail
          go_ret
          refine ⟨?_, rfl⟩
          have : b = false := by
            rw [← HB.out]
            unfold onlyB
            rw [List.all_eq_false]
            exact ⟨_, List.mem_of_getElem? HAT.out, by simp [inI]; omega⟩
          rw [this]; rfl
        · have HQ : Hid (inI (t[k].toNat : Int) c 126 = true) := Lib.hid (by simp [inI]; omega)
          go_wp2_with fail
          refine ⟨⟨k + 1, hlt, by go_num, fun x hx => ?_, by first | rfl | trivial⟩, by simp [intOf]; omega⟩
          rw [take_one HAT.out] at hx
          rcases List.mem_append.1 hx with hx | hx
          · exact HALL.out x hx
          · rw [List.mem_singleton.1 hx]; exact HQ.out
    · have hk1 : ¬ (k : Int) < (t.size : Int) := by omega
      have hbt : b = true := by
        rw [← HB.out]
        unfold onlyB
        rw [List.all_eq_true]
        intro x hx
        refine HALL.out x ?_
        rw [List.take_of_length_le]
        · exact hx
        · rw [Array.length_toList]; show t.size ≤ k; omega
      have HBT := Lib.hid hbt
      clear hbt
      by_cases h1 : lo ≤ (t.size : Int)
      · by_cases h2 : (t.size : Int) ≤ hi
        · go_wp2_with fail
          go_ret
          exact ⟨by rw [HBT.out, ← HD.out]; simp [inI, h1, h2], rfl⟩
        · go_wp2_with fail
          go_ret
          exact ⟨by rw [HBT.out, ← HD.out]; simp [inI, h2], rfl⟩
      · go_wp2_with fail
        go_ret
        exact ⟨by rw [HBT.out, ← HD.out]; simp [inI]; omega, rfl⟩
theorem right_no1 {z : Zn} (h : rightTys z.types = false) : rightZ z = false := by unfold rightZ; simp [h]
theorem right_no2 {z : Zn} (h : rightTms z.times = false) : rightZ z = false := by unfold rightZ; simp [h]
theorem right_no3 {z : Zn} (h : z.index.length ≠ z.times.length) : rightZ z = false := by unfold rightZ; simp [h]
theorem right_no4 {z : Zn} (h : rightIdx z.index z.types.length = false) : rightZ z = false := by unfold rightZ; simp [h]
theorem right_no5 {z : Zn} (h : (onlyB z.footer 32 && inI z.footer.size 0 100) = false) : rightZ z = false := by
  unfold rightZ
  rw [Bool.and_eq_false_iff] at h
  rcases h with h | h
  · simp [h]
  · have : ¬ z.footer.size ≤ 100 := by
      intro hc
      simp [inI] at h
      omega
    simp [this]
theorem tys_no {l : List Ty} {x : Ty} (hx : x ∈ l) (h : rightTy x = false) : rightTys l = false := by
  unfold rightTys
  have : l.all rightTy = false := List.all_eq_false.2 ⟨x, hx, by simp [h]⟩
  simp [this]
set_option maxRecDepth 100000 in
set_option maxHeartbeats 8000000 in
theorem rright_any (z : Zn) (vt vs vi : Value) (B : Nat) (w : World) (h : ZnAt w B z vt vs vi) (ho : ZnOk z) (hB : B ≤ w.heap.size) : Calls Try.prog 12 #[.agg #[vt, vs, vi, .string z.footer]] w fun e w' => e = .returned (.bool (rightZ z)) ∧ Below w.heap.size w w' := by
  obtain ⟨At, ct, rfl⟩ := h.types.len
  obtain ⟨As, cs, rfl⟩ := h.times.len
  obtain ⟨Ai, ci, rfl⟩ := h.index.len
  obtain ⟨W0, hW0⟩ : ∃ W0, w.alloc (.cells #[.slice At z.types.length ct, .slice As z.times.length cs, .slice Ai z.index.length ci, .string z.footer] 31) = W0 := ⟨_, rfl⟩
  have HB0 : Hid (Below w.heap.size w W0) := Lib.hid (by rw [← hW0]; exact (Below.refl _ _).alloc (Nat.le_refl _) _)
  have HZ : Hid (ZnAt W0 B z (.slice At z.types.length ct) (.slice As z.times.length cs) (.slice Ai z.index.length ci)) := Lib.hid (h.below HB0.out hB)
  have q0 : W0.cell? ⟨w.heap.size, 0, none⟩ = some (.slice At z.types.length ct) := by rw [← hW0]; exact cell_new w _ _ _ 0 _ rfl rfl
  have q1 : W0.cell? ⟨w.heap.size, 1, none⟩ = some (.slice As z.times.length cs) := by rw [← hW0]; exact cell_new w _ _ _ 1 _ rfl rfl
  have q2 : W0.cell? ⟨w.heap.size, 2, none⟩ = some (.slice Ai z.index.length ci) := by rw [← hW0]; exact cell_new w _ _ _ 2 _ rfl rfl
  have q3 : W0.cell? ⟨w.heap.size, 3, none⟩ = some (.string z.footer) := by rw [← hW0]; exact cell_new w _ _ _ 3 _ rfl rfl
  have HO := Lib.hid ho
  obtain ⟨l1, l2, l3, _, l5⟩ := ho
  obtain ⟨b, hb⟩ : ∃ b, rightZ z = b := ⟨_, rfl⟩
  rw [hb]
  have HR := Lib.hid hb
  obtain ⟨f5, hf5⟩ : ∃ f5, (onlyB z.footer 32 && inI z.footer.size 0 100) = f5 := ⟨_, rfl⟩
  have HF : Hid (Calls Try.prog 25 #[.string z.footer, .int .i64 0, .int .i64 100, .int .u8 32, .int .u8 126] W0 fun e w' => e = .returned (.bool f5) ∧ W0 = w') := Lib.hid (by
    have := rwithin_any z.footer 0 100 32 W0 l5
    rwa [hf5] at this)
  have HF5 := Lib.hid hf5
  clear hb hf5 h hB
  by_cases e1 : (z.types.length : Int) < 1
  · have e : b = false := by rw [← HR.out]; exact right_no1 (by unfold rightTys inI; simp; omega)
    subst e
    go_enter Try.func12, Try.ntmps12
    go_wp2_with fail
    go_ret
    exact ⟨rfl, HB0.out⟩
  by_cases e2 : (255 : Int) < (z.types.length : Int)
  · have e : b = false := by rw [← HR.out]; exact right_no1 (by unfold rightTys inI; simp; omega)
    subst e
    go_enter Try.func12, Try.ntmps12
    go_wp2_with fail
    go_ret
    exact ⟨rfl, HB0.out⟩
  by_cases e3 : (4000 : Int) < (z.times.length : Int)
  · have e : b = false := by rw [← HR.out]; exact right_no2 (by unfold rightTms; simp; omega)
    subst e
    go_enter Try.func12, Try.ntmps12
    go_wp2_with fail
    go_ret
    exact ⟨rfl, HB0.out⟩
  by_cases e4 : z.index.length ≠ z.times.length
  · have e : b = false := by rw [← HR.out]; exact right_no3 e4
    subst e
    have d1 : decide ((z.times.length : Int) = (z.index.length : Int)) = false := by simp; omega
    have d2 : ((z.times.length : Int) == (z.index.length : Int)) = false := by simp; omega
    have d3 : ((z.times.length : Int) != (z.index.length : Int)) = true := by simp; omega
    clear e4
    go_enter Try.func12, Try.ntmps12
    go_wp2_with fail
    go_ret
    exact ⟨rfl, HB0.out⟩
  have HEQ : Hid (z.index.length = z.times.length) := Lib.hid (by omega)
  have d1 : decide ((z.times.length : Int) = (z.index.length : Int)) = true := by have := HEQ.out; simp; omega
  have d2 : ((z.times.length : Int) == (z.index.length : Int)) = true := by have := HEQ.out; simp; omega
  have d3 : ((z.times.length : Int) != (z.index.length : Int)) = false := by have := HEQ.out; simp; omega
  clear e4
  cases f5 with
  | false =>
    have e : b = false := by rw [← HR.out]; exact right_no5 HF5.out
    subst e
    go_enter Try.func12, Try.ntmps12
    go_wp2_with (first
      | (go_at_call 25; refine HF.out.mono ?_; clear HF; rintro e V1 ⟨rfl, rfl⟩)
      | fail)
    go_ret
    exact ⟨rfl, HB0.out⟩
  | true =>
    go_enter Try.func12, Try.ntmps12
    go_wp2_with (first
      | (go_at_call 25; refine HF.out.mono ?_; clear HF; rintro e V1 ⟨rfl, rfl⟩)
      | fail)
    clear d1 d2 d3
    go_loopw [3, 4] (fun s i wr => ∃ k : Nat, k ≤ z.types.length ∧ i = .int .i64 k ∧ s = .int .i64 (letters (z.types.take k) : Nat) ∧ letters (z.types.take k) ≤ 16 * k ∧ (∀ t ∈ z.types.take k, rightTy t = true) ∧ wr = W0) (fun _ i _ => z.types.length - (intOf i).toNat)
    case atStart => exact ⟨0, Nat.zero_le _, rfl, rfl, by simp [letters], fun x hx => by simp at hx, rfl⟩
    case round =>
      obtain ⟨k, hk, rfl, rfl, hle, hall, rfl⟩ := hrel
      have HALL := Lib.hid hall
      clear hall
      by_cases hlt : k < z.types.length
      · have hk0 : (0 : Int) ≤ (k : Int) := by omega
        have hk1 : (k : Int) < (z.types.length : Int) := by omega
        obtain ⟨x, hx⟩ : ∃ x, z.types[k]? = some x := ⟨_, List.getElem?_eq_getElem hlt⟩
        obtain ⟨g, off, c', hv, hg, c0, c1, c2⟩ := HZ.out.types.ty hx
        injection hv with ea _ ec
        subst ea; subst ec
        have hxm := List.mem_of_getElem? hx
        have hxs := HO.out.abbr x hxm
        obtain ⟨nl, hnl⟩ : ∃ nl, letters (z.types.take k) = nl := ⟨_, rfl⟩
        rw [hnl] at hle ⊢
        have HNL := Lib.hid hnl; have HX := Lib.hid hx; have HXM := Lib.hid hxm
        clear hnl hx hxm
        have hn0 : (0 : Int) ≤ (nl : Int) := by omega
        have hn1 : (nl : Int) ≤ 4080 := by omega
        by_cases a1 : x.off < -89999
        · have e : b = false := by rw [← HR.out]; exact right_no1 (tys_no HXM.out (by unfold rightTy inI; simp; omega))
          subst e
          go_wp2_with fail
          go_ret
          exact ⟨rfl, HB0.out⟩
        by_cases a2 : 93599 < x.off
        · have e : b = false := by rw [← HR.out]; exact right_no1 (tys_no HXM.out (by unfold rightTy inI; simp; omega))
          subst e
          go_wp2_with fail
          go_ret
          exact ⟨rfl, HB0.out⟩
        obtain ⟨f6, hf6⟩ : ∃ f6, (onlyB x.abbr 33 && inI x.abbr.size 1 15) = f6 := ⟨_, rfl⟩
        have HG : Hid (Calls Try.prog 25 #[.string x.abbr, .int .i64 1, .int .i64 15, .int .u8 33, .int .u8 126] wr fun e w' => e = .returned (.bool f6) ∧ wr = w') := Lib.hid (by
          have := rwithin_any x.abbr 1 15 33 wr hxs
          rwa [hf6] at this)
        have HF6 := Lib.hid hf6
        clear hf6
        cases f6 with
        | false =>
          have e : b = false := by
            rw [← HR.out]
            refine right_no1 (tys_no HXM.out ?_)
            unfold rightTy
            have := HF6.out
            rw [Bool.and_eq_false_iff] at this
            rcases this with h | h <;> simp [h]
          subst e
          go_wp2_with (first
            | (go_at_call 25; refine HG.out.mono ?_; clear HG; rintro e V1 ⟨rfl, rfl⟩)
            | fail)
          go_ret
          exact ⟨rfl, HB0.out⟩
        | true =>
          have hx15 : x.abbr.size ≤ 15 := by
            have := HF6.out
            simp [inI] at this
            omega
          have hxr : rightTy x = true := by
            have h1 := HF6.out
            rw [Bool.and_eq_true] at h1
            unfold rightTy
            rw [h1.1, h1.2]
            simp [inI]; omega
          have HXR := Lib.hid hxr
          have hs1 : (x.abbr.size : Int) ≤ 15 := by omega
          have hs0 : (0 : Int) ≤ (x.abbr.size : Int) := by omega
          clear hxr
          go_wp2_with (first
            | (go_at_call 25; refine HG.out.mono ?_; clear HG; rintro e V1 ⟨rfl, rfl⟩)
            | fail)
          refine ⟨⟨k + 1, hlt, by go_num, ?_, ?_, fun y hy => ?_, by first | rfl | trivial⟩, by simp [intOf]; omega⟩
          · rw [take_one HX.out, letters_snoc, HNL.out]; congr 1
          · rw [take_one HX.out, letters_snoc, HNL.out]; omega
          · rw [take_one HX.out] at hy
            rcases List.mem_append.1 hy with hy | hy
            · exact HALL.out y hy
            · rw [List.mem_singleton.1 hy]; exact HXR.out
      · have hk1 : ¬ (k : Int) < (z.types.length : Int) := by omega
        have htk : z.types.take k = z.types := List.take_of_length_le (by omega)
        rw [htk] at hle ⊢
        have HAT : Hid (∀ t ∈ z.types, rightTy t = true) := Lib.hid (by have := HALL.out; rwa [htk] at this)
        obtain ⟨nl, hnl⟩ : ∃ nl, letters z.types = nl := ⟨_, rfl⟩
        rw [hnl] at hle ⊢
        have HNL := Lib.hid hnl
        have hn0 : (0 : Int) ≤ (nl : Int) := by omega
        clear hnl htk HALL hle
        go_wp2_with fail
        obtain ⟨wA, hwA⟩ : ∃ wA : World, wr = wA := ⟨_, rfl⟩
        rw [hwA] at HB0 HZ q0 q1 q2 q3 ⊢
        clear hwA
        go_loopw [5] (fun i wr => ∃ k m : Nat, k ≤ z.times.length ∧ i = .int .i64 k ∧ (∀ (j : Nat) (a c : Int), j + 1 < k → z.times[j]? = some a → z.times[j + 1]? = some c → a < c) ∧ (∀ (j : Nat) (a : Int), j < k → z.index[j]? = some a → inI a 0 (z.types.length - 1) = true) ∧ (0 < k → nl ≤ 256) ∧ wr = wA.drewN m) (fun i _ => z.times.length - (intOf i).toNat)
        case atStart => exact ⟨0, 0, Nat.zero_le _, rfl, fun j a c hj => absurd hj (by omega), fun j a hj => absurd hj (by omega), fun hj => absurd hj (by omega), rfl⟩
        case round =>
          obtain ⟨k, m, hk, rfl, hra, hia, hnl, rfl⟩ := hrel
          have HRA := Lib.hid hra; have HIA := Lib.hid hia; have HNL2 := Lib.hid hnl
          clear hra hia hnl
          by_cases hlt : k < z.times.length
          · have hk0 : (0 : Int) ≤ (k : Int) := by omega
            have hk1 : (k : Int) < (z.times.length : Int) := by omega
            have hk2 : (k : Int) < (z.index.length : Int) := by have := HEQ.out; omega
            obtain ⟨y, hy⟩ : ∃ y, z.index[k]? = some y := ⟨_, List.getElem?_eq_getElem (by have := HEQ.out; omega)⟩
            obtain ⟨g, off, c', hv, hg, c0⟩ := HZ.out.index.one hy
            injection hv with ea _ ec
            subst ea; subst ec
            have HY := Lib.hid hy
            clear hy
            by_cases a0 : (256 : Int) < (nl : Int)
            · have e : b = false := by rw [← HR.out]; exact right_no1 (by unfold rightTys; rw [HNL.out]; simp; omega)
              subst e
              go_wp2_with fail
              go_quiet (fail)
              go_wp2_with fail
              go_ret
              exact ⟨rfl, drewN_below (drewN_below HB0.out m) nq⟩
            have b0 : decide ((256 : Int) < (nl : Int)) = false := decide_eq_false a0
            have HN256 : Hid (nl ≤ 256) := Lib.hid (by omega)
            clear a0
            by_cases a1 : y < 0
            · have e : b = false := by rw [← HR.out]; exact right_no4 (by unfold rightIdx; rw [List.all_eq_false]; exact ⟨y, List.mem_of_getElem? HY.out, by simp [inI]; omega⟩)
              subst e
              go_wp2_with fail
              go_quiet (fail)
              go_wp2_with fail
              go_ret
              exact ⟨rfl, drewN_below (drewN_below HB0.out m) nq⟩
            have b1 : decide (y < 0) = false := decide_eq_false a1
            by_cases a2 : (z.types.length : Int) ≤ y
            · have e : b = false := by rw [← HR.out]; exact right_no4 (by unfold rightIdx; rw [List.all_eq_false]; exact ⟨y, List.mem_of_getElem? HY.out, by simp [inI]; omega⟩)
              subst e
              go_wp2_with fail
              go_quiet (fail)
              go_wp2_with fail
              go_ret
              exact ⟨rfl, drewN_below (drewN_below HB0.out m) nq⟩
            have b2 : decide ((z.types.length : Int) ≤ y) = false := decide_eq_false a2
            by_cases hkz : k = 0
            · have a3 : ¬ (0 : Int) < (k : Int) := by omega
              have a4 : ¬ 0 < k := by omega
              have a5 : decide ((0 : Int) < (k : Int)) = false := by simp; omega
              have a6 : decide (0 < k) = false := by simp; omega
              have HKZ := Lib.hid hkz
              clear hkz
              go_wp2_with fail
              go_quiet (fail)
              go_wp2_with fail
              refine ⟨⟨k + 1, m + nq, hlt, by go_num, fun i a d hi ha hd => ?_, fun i a hi ha => ?_, fun _ => HN256.out, by simp [World.drewN]⟩, by simp [intOf]; omega⟩
              · have := HKZ.out; omega
              · by_cases e : i = k
                · subst e
                  rw [HY.out] at ha
                  injection ha with ha
                  subst ha
                  simp [inI]; omega
                · exact HIA.out i a (by omega) ha
            · obtain ⟨j, rfl⟩ : ∃ j, k = j + 1 := ⟨k - 1, by omega⟩
              obtain ⟨x, hx⟩ : ∃ x, z.times[j + 1]? = some x := ⟨_, List.getElem?_eq_getElem hlt⟩
              obtain ⟨x2, hx2⟩ : ∃ x, z.times[j]? = some x := ⟨_, List.getElem?_eq_getElem (by omega)⟩
              obtain ⟨g2, off2, c2', hv2, hg2, c2⟩ := HZ.out.times.one hx
              obtain ⟨g3, off3, c3', hv3, hg3, c3⟩ := HZ.out.times.one hx2
              injection hv2 with eb _ ed
              subst eb; subst ed
              injection hv3 with ee _ eh
              injection ee with ee
              injection ee with ef eg _
              subst ef; subst eg; subst eh
              have e6 : ((j + 1 : Nat) : Int) - 1 = (j : Int) := by omega
              have hj0 : (0 : Int) ≤ (j : Int) := by omega
              have hj1 : (j : Int) < (z.times.length : Int) := by omega
              have a3 : (0 : Int) < ((j + 1 : Nat) : Int) := by omega
              have HX := Lib.hid hx; have HX2 := Lib.hid hx2
              clear hx hx2 hkz
              by_cases a7 : x ≤ x2
              · have e : b = false := by rw [← HR.out]; exact right_no2 (by cases hr : rises z.times with | false => (unfold rightTms; simp [hr]) | true => (have := rises_of hr j x2 x HX2.out HX.out; omega))
                subst e
                go_wp2_with fail
                go_quiet (fail)
                go_wp2_with fail
                go_ret
                exact ⟨rfl, drewN_below (drewN_below HB0.out m) nq⟩
              · go_wp2_with fail
                go_quiet (fail)
                go_wp2_with fail
                refine ⟨⟨j + 1 + 1, m + nq, hlt, by go_num, fun i a d hi ha hd => ?_, fun i a hi ha => ?_, fun _ => HN256.out, by simp [World.drewN]⟩, by simp [intOf]; omega⟩
                · by_cases e : i = j
                  · subst e
                    rw [HX2.out] at ha
                    rw [HX.out] at hd
                    injection ha with ha
                    injection hd with hd
                    omega
                  · exact HRA.out i a d (by omega) ha hd
                · by_cases e : i = j + 1
                  · subst e
                    rw [HY.out] at ha
                    injection ha with ha
                    subst ha
                    simp [inI]; omega
                  · exact HIA.out i a (by omega) ha
          · have hk1 : ¬ (k : Int) < (z.times.length : Int) := by omega
            go_wp2_with fail
            go_ret
            refine ⟨?_, drewN_below HB0.out m⟩
            have hke : k = z.times.length := by omega
            have h1 : rises z.times = true := rises_at fun j a d ha hd => HRA.out j a d (by
              have : j + 1 < z.times.length := by
                rcases Nat.lt_or_ge (j + 1) z.times.length with h | h
                · exact h
                · rw [List.getElem?_eq_none h] at hd; cases hd
              omega) ha hd
            have h2 : rightIdx z.index z.types.length = true := by
              unfold rightIdx
              rw [List.all_eq_true]
              intro i hi
              obtain ⟨j, hj⟩ := List.getElem?_of_mem hi
              exact HIA.out j i (by
                have := (List.getElem?_eq_some_iff.1 hj).1
                have := HEQ.out
                omega) hj
            have h3 : (onlyB z.footer 32 && inI z.footer.size 0 100) = true := HF5.out
            rw [Bool.and_eq_true] at h3
            have h4 : z.footer.size ≤ 100 := by have := h3.2; simp [inI] at this; omega
            have h5 : z.types.all rightTy = true := List.all_eq_true.2 HAT.out
            have h6 : rightZ z = decide (nl ≤ 256) := by
              unfold rightZ rightTms rightTys inI
              rw [h1, h2, h3.1, h5, HNL.out]
              have h7 : z.times.length ≤ 4000 := by omega
              have h8 : (1 : Int) ≤ (z.types.length : Int) := by omega
              have h9 : (z.types.length : Int) ≤ 255 := by omega
              simp [h4, h7, h8, h9, HEQ.out]
            rw [← HR.out, h6]
            congr 2
            by_cases h : nl ≤ 256
            · have : (nl : Int) ≤ 256 := by omega
              simp [h, this]
            · have : ¬ (nl : Int) ≤ 256 := by omega
              simp [h, this]
end Go.Proofs.Ytohpdpcjhmopbaa.Tz

/-! Layer 6 (tzif): the document's At. -/
namespace Go.Proofs.Ytohpdpcjhmopbaa.Tz
open Go.RowKit

theorem rises_le2 : ∀ {l : List Int}, rises l = true → ∀ (i j : Nat) (a b : Int), i ≤ j → l[i]? = some a → l[j]? = some b → a ≤ b := fun {l} hr i j a b hij ha hb => by
  induction j generalizing b with
  | zero => obtain rfl : i = 0 := by omega
            rw [ha] at hb; injection hb with hb; omega
  | succ j ih =>
    by_cases e : i = j + 1
    · subst e; rw [ha] at hb; injection hb with hb; omega
    · obtain ⟨c, hc⟩ : ∃ c, l[j]? = some c := ⟨_, List.getElem?_eq_getElem (by have := (List.getElem?_eq_some_iff.1 hb).1; omega)⟩
      have h1 := ih c (by omega) hc
      have h2 := rises_of hr j c b hc hb
      omega
set_option maxRecDepth 100000 in
set_option maxHeartbeats 2000000 in
theorem rat_any (z : Zn) (vt vs vi : Value) (B : Nat) (sec : Int) (w : World) (h : ZnAt w B z vt vs vi) (ho : ZnOk z) (hB : B ≤ w.heap.size) : Calls Try.prog 16 #[.agg #[vt, vs, vi, .string z.footer], .int .i64 sec] w fun e w' => e = .returned (.int .i64 (atZ z sec)) ∧ Below w.heap.size w w' := by
  obtain ⟨At, ct, rfl⟩ := h.types.len
  obtain ⟨As, cs, rfl⟩ := h.times.len
  obtain ⟨Ai, ci, rfl⟩ := h.index.len
  obtain ⟨W0, hW0⟩ : ∃ W0, w.alloc (.cells #[.slice At z.types.length ct, .slice As z.times.length cs, .slice Ai z.index.length ci, .string z.footer] 31) = W0 := ⟨_, rfl⟩
  have HB0 : Hid (Below w.heap.size w W0) := Lib.hid (by rw [← hW0]; exact (Below.refl _ _).alloc (Nat.le_refl _) _)
  have HSZ : Hid (W0.heap.size = w.heap.size + 1) := Lib.hid (by rw [← hW0]; simp)
  have HC : Hid (∀ V, Below W0.heap.size W0 V → ∀ i u, (#[.slice At z.types.length ct, .slice As z.times.length cs, .slice Ai z.index.length ci, .string z.footer] : Array Value)[i]? = some u → V.cell? ⟨w.heap.size, i, none⟩ = some u) := Lib.hid fun V hb i u hu => cells_at w.heap.size hb (by rw [HSZ.out]; omega) (by rw [← hW0]; exact cell_new w _ _ _ i u rfl hu)
  have HZ : Hid (∀ V, Below W0.heap.size W0 V → ZnAt V B z (.slice At z.types.length ct) (.slice As z.times.length cs) (.slice Ai z.index.length ci)) := Lib.hid fun V hb => (h.below HB0.out hB).below hb (by rw [HSZ.out]; omega)
  have HB : Hid (Below W0.heap.size W0 W0) := Lib.hid (Below.refl _ _)
  obtain ⟨r, hr⟩ : ∃ r, rightZ z = r := ⟨_, rfl⟩
  have HRT : Hid (Calls Try.prog 12 #[.agg #[.slice At z.types.length ct, .slice As z.times.length cs, .slice Ai z.index.length ci, .string z.footer]] W0 fun e V => e = .returned (.bool r) ∧ Below W0.heap.size W0 V) := by
    have := rright_any z _ _ _ B W0 (HZ.out W0 HB.out) ho (by rw [HSZ.out]; omega)
    rw [hr] at this
    exact Lib.hid this
  obtain ⟨a, ha⟩ : ∃ a, atZ z sec = a := ⟨_, rfl⟩
  rw [ha]
  have HA := Lib.hid ha; have HR := Lib.hid hr
  have q0 := HC.out _ HB.out 0 _ rfl; have q1 := HC.out _ HB.out 1 _ rfl; have q2 := HC.out _ HB.out 2 _ rfl; have q3 := HC.out _ HB.out 3 _ rfl
  obtain ⟨l1, l2, l3, _, l5⟩ := ho
  clear ha hr h
  cases r with
  | false =>
    have e : a = 0 := by rw [← HA.out]; unfold atZ; rw [HR.out, if_neg (by simp)]
    subst e
    go_enter Try.func16, Try.ntmps16
    go_wp2_with (first
      | (go_at_call 12; refine HRT.out.mono ?_; clear HRT; rintro e V ⟨rfl, hb⟩; have HV := Lib.hid (HB0.out.trans (hb.mono HB0.out.size)); clear hb)
      | fail)
    go_ret
    exact ⟨rfl, HV.out⟩
  | true =>
    obtain ⟨hri, hle⟩ := right_parts HR.out
    have HRI := Lib.hid hri; have HLE := Lib.hid hle
    clear hri hle
    go_enter Try.func16, Try.ntmps16
    go_wp2_with (first
      | (go_at_call 12; refine HRT.out.mono ?_; clear HRT; rintro e V ⟨rfl, hb⟩; have HV := Lib.hid hb; clear hb q0 q1 q2 q3; have q0 := HC.out _ HV.out 0 _ rfl; have q1 := HC.out _ HV.out 1 _ rfl; have q2 := HC.out _ HV.out 2 _ rfl; have q3 := HC.out _ HV.out 3 _ rfl)
      | fail)
    go_loopw [5] (fun i wr => ∃ k : Nat, k ≤ z.times.length ∧ i = .int .i64 ((k : Int) - 1) ∧ (∀ j x, k ≤ j → z.times[j]? = some x → sec < x) ∧ wr = V) (fun i _ => (intOf i + 1).toNat)
    case atStart => exact ⟨z.times.length, Nat.le_refl _, rfl, fun j x hj hx => absurd (List.getElem?_eq_some_iff.1 hx).1 (by omega), rfl⟩
    case round =>
      obtain ⟨k, hk, rfl, hall, rfl⟩ := hrel
      have HALL := Lib.hid hall
      clear hall
      match k, hk, HALL with
      | 0, hk, HALL =>
        have hb0 : begun z.times sec = 0 := begun_is (Nat.zero_le _) (fun t x ht => absurd ht (by omega)) HALL.out
        have hav : a = max (firstStd z.types) 0 := by rw [← HA.out]; unfold atZ; rw [HR.out, if_pos rfl, hb0, if_neg (by omega)]
        have HAV := Lib.hid hav
        clear hav hb0
        go_wp2_with fail
        obtain ⟨wA, hwA⟩ : ∃ wA : World, wr = wA := ⟨_, rfl⟩
        rw [hwA] at HV q0 q1 q2 q3 ⊢
        clear hwA
        go_loopw [6] (fun i wr => ∃ k : Nat, k ≤ z.types.length ∧ i = .int .i64 k ∧ (∀ j x, j < k → z.types[j]? = some x → x.dst = true) ∧ wr = wA) (fun i _ => z.types.length - (intOf i).toNat)
        case atStart => exact ⟨0, Nat.zero_le _, rfl, fun j x hj => absurd hj (by omega), rfl⟩
        case round =>
          obtain ⟨k, hk, rfl, hall, rfl⟩ := hrel
          have HDL := Lib.hid hall
          clear hall
          by_cases hlt : k < z.types.length
          · have hk0 : (0 : Int) ≤ (k : Int) := by omega
            have hk1 : (k : Int) < (z.types.length : Int) := by omega
            obtain ⟨x, hx⟩ : ∃ x, z.types[k]? = some x := ⟨_, List.getElem?_eq_getElem hlt⟩
            obtain ⟨g, off, c', hv, hg, c0, c1, c2⟩ := (HZ.out _ HV.out).types.ty hx
            injection hv with ea _ ec
            subst ea; subst ec
            have HX := Lib.hid hx
            obtain ⟨d, hd⟩ : ∃ d, x.dst = d := ⟨_, rfl⟩
            rw [hd] at c1
            have HD := Lib.hid hd
            clear hx hd
            cases d with
            | false =>
              go_wp2_with fail
              go_ret
              exact ⟨by rw [HAV.out, firstStd_is HDL.out HX.out HD.out, show max (k : Int) 0 = (k : Int) by omega]; rfl, HB0.out.trans (HV.out.mono HB0.out.size)⟩
            | true =>
              go_wp2_with fail
              refine ⟨⟨k + 1, hlt, by go_num, fun j y hj hy => ?_, by first | rfl | trivial⟩, by simp [intOf]; omega⟩
              by_cases e : j = k
              · subst e
                rw [HX.out] at hy; injection hy with hy
                rw [← hy]; exact HD.out
              · exact HDL.out j y (by omega) hy
          · have hk1 : ¬ (k : Int) < (z.types.length : Int) := by omega
            go_wp2_with fail
            go_ret
            exact ⟨by rw [HAV.out, firstStd_no (fun x hx => by obtain ⟨j, hj⟩ := List.getElem?_of_mem hx; exact HDL.out j x (by have := (List.getElem?_eq_some_iff.1 hj).1; omega) hj)]; rfl, HB0.out.trans (HV.out.mono HB0.out.size)⟩
      | j + 1, hk, HALL =>
        have hj0 : (0 : Int) ≤ (j : Int) := by omega
        have hj1 : (j : Int) < (z.times.length : Int) := by omega
        have hj2 : (j : Int) < (z.index.length : Int) := by have := HLE.out; omega
        rw [show ((j + 1 : Nat) : Int) - 1 = (j : Int) by omega]
        obtain ⟨x, hx⟩ : ∃ x, z.times[j]? = some x := ⟨_, List.getElem?_eq_getElem (by omega)⟩
        obtain ⟨y, hy⟩ : ∃ y, z.index[j]? = some y := ⟨_, List.getElem?_eq_getElem (by have := HLE.out; omega)⟩
        obtain ⟨g, off, c', hv, hg, c0⟩ := (HZ.out _ HV.out).times.one hx
        injection hv with ea _ ec
        subst ea; subst ec
        obtain ⟨g2, off2, c2', hv2, hg2, c2⟩ := (HZ.out _ HV.out).index.one hy
        injection hv2 with ea _ ec
        subst ea; subst ec
        have HX := Lib.hid hx; have HY := Lib.hid hy
        clear hx hy
        by_cases hs : x ≤ sec
        · have hbg : begun z.times sec = j + 1 := begun_is hk (fun t u ht hu => by have := rises_le2 HRI.out t j u x (by omega) hu HX.out; omega) HALL.out
          have hav : a = y := by rw [← HA.out]; unfold atZ; rw [HR.out, if_pos rfl, hbg, if_pos (by omega), Nat.add_sub_cancel, HY.out]; rfl
          subst hav
          clear hbg
          go_wp2_with fail
          go_ret
          exact ⟨rfl, HB0.out.trans (HV.out.mono HB0.out.size)⟩
        · go_wp2_with fail
          refine ⟨⟨j, by omega, by first | rfl | go_num, fun i u hi hu => ?_, by first | rfl | trivial⟩, by simp [intOf]⟩
          by_cases e : i = j
          · subst e
            rw [HX.out] at hu; injection hu with hu; omega
          · exact HALL.out i u (by omega) hu
end Go.Proofs.Ytohpdpcjhmopbaa.Tz

/-! Layer 6 (tzif): the document's number and head. -/
namespace Go.Proofs.Ytohpdpcjhmopbaa.Tz
open Go.RowKit

set_option maxRecDepth 100000 in
/-- So many zeros are put behind bytes that have no room behind them. -/
theorem plain_append_zeros_new {ops : Array Oper} {rest : List Oper} {o : Oper} {a : Act} {w : World} {Q : Exit → Act → World → Prop} (s x : Operand) (tn : TypeId) (hn : Try.prog.underlying tn = some (.int .i64)) (hgd : o.guard = none)
    (ho : o.op = .call { callee := .builtin .append, args := #[s, x], argTypes := #[33, tn] }) (base g cap : Nat) (xs : List Int) (k : Nat) (h0 : 0 < k)
    (hs : a.eval s = .slice (some ⟨g, 0, none⟩) xs.length cap) (hx : a.eval x = .int .i64 k) (hc : ∀ j u, xs[j]? = some u → w.cell? ((⟨g, 0, none⟩ : Addr).add j) = some (by8 u)) (hroom : cap < xs.length + k) (hlen : xs.length + k ≤ 10000000) (hbase : base ≤ w.heap.size)
    (h : ∀ v' w', Own w' base v' (xs ++ zerosB k) → Below w.heap.size w w' → wpList Try.prog ops Q rest (a.put o.dst v') w') : wpList Try.prog ops Q (o :: rest) a w := by
  refine wpList_plain hgd fun K hK => ?_
  obtain ⟨i, hi, hz0, hz1, hz2⟩ := info_parts u8_info
  have hzl : (zerosB k).length = k := by unfold zerosB; simp
  have hr := Lib.run_append_grow_zeros (P := Try.prog) w 33 tn o.type 5 i (.int .u8 0) .i64 .i64 Try.underlying33 hn hi hz0 (some ⟨g, 0, none⟩) xs.length cap (xs.map by8) (run_firstCells_some w.drew i.size xs.length ⟨g, 0, none⟩ xs.length cap (xs.map by8) (by rw [hz1]; simp) (by
    intro j u hu
    rw [List.getElem?_map] at hu
    cases hj : xs[j]? with
    | none => rw [hj] at hu; cases hu
    | some z => rw [hj] at hu; injection hu with hu; rw [← hu]; exact hc j z hj)) k h0 (by omega) (by omega) (by omega) (by rw [hz2]; omega) (by rw [hz2]; exact growslice_fits (by omega) (by omega))
  have hge := grownCap_ge w (xs.length + k) cap 5
  have hcm : grownCap w (xs.length + k) cap 5 ≤ maxLen := grownCap_le_maxLen w (xs.length + k) cap 5 (by unfold maxLen; omega)
  unfold Oper.wp execOp
  simp only [ho, resolve, invoke, builtin, Sem.run_bind, Sem.run_pure, Result.andThen_ok, List.map_toArray, List.map_cons, List.map_nil, hs, hx, hr]
  refine hK _ _ (h _ _ ?_ ?_)
  · rw [zeroCells_by8, zeroCells_by8]
    refine ⟨by simp, .inr ⟨w.heap.size, _, _, by rw [List.length_append, hzl], hbase, heap_alloc_new w.drew _, by rw [List.length_append, hzl]; exact hge, hcm, ?_, ?_⟩⟩
    · simp [zerosB]; omega
    · rw [Nat.mul_one, Array.toList_append, Array.toList_append, ← List.map_append, show (xs ++ zerosB k).length = ((xs ++ zerosB k).map by8).length by simp]
      exact List.take_left
  · exact ((Below.refl w.heap.size w).drew).alloc (Nat.le_refl _) _
set_option maxRecDepth 100000 in
set_option maxHeartbeats 1000000 in
theorem rnumber_any (n : Int) (N width : Nat) (hN : IntKind.u64.wrap n = N) (hw : width ≤ 8) (w : World) :
    Calls Try.prog 31 #[.int .i64 n, .int .i64 width] w fun e w' => ∃ v, e = .returned v ∧ Own w' w.heap.size v (digs N width) ∧ Below w.heap.size w w' := by
  have hwi : (width : Int) ≤ 8 := by omega
  go_enter Try.func31, Try.ntmps31
  go_wp2_with fail
  go_loopw [5, 6] (fun u i wr => ∃ (j : Nat) (acc : List Int), j ≤ width ∧ i = .int .i64 ((j : Int) - 1) ∧ acc ++ digs N j = digs N width ∧ Own wr w.heap.size u acc ∧ Below w.heap.size w wr) (fun _ i _ => (intOf i + 1).toNat)
  case atStart => exact ⟨width, [], Nat.le_refl _, rfl, rfl, Own.nil _ _, Below.refl _ _⟩
  case round =>
    obtain ⟨j, acc, hj, rfl, ha, ho, hb1⟩ := hrel
    match j, hj, ha with
    | 0, hj, ha =>
      rw [show digs N 0 = [] from rfl, List.append_nil] at ha
      have HE : Hid (Own wr w.heap.size _ (digs N width)) := Lib.hid (ha ▸ ho)
      have HB := Lib.hid hb1
      clear ha ho hb1
      go_wp2_with fail
      go_ret
      exact ⟨_, rfl, HE.out, HB.out⟩
    | j + 1, hj, ha =>
      have hj0 : (0 : Int) ≤ (j : Int) := by omega
      have hj8 : (j : Int) < 8 := by omega
      have HA := Lib.hid ha; have HO2 := Lib.hid ho; have HB := Lib.hid hb1
      clear ha ho hb1
      rw [show ((j + 1 : Nat) : Int) - 1 = (j : Int) by omega]
      have hal : acc.length ≤ 8 := by
        have h1 := congrArg List.length HA.out
        rw [List.length_append, digs_len, digs_len] at h1
        omega
      have HAL := Lib.hid hal
      clear hal
      go_wp2_with (first
        | (at_builtin; refine plain_append_bytes (.tmp 13) (.tmp 20) rfl rfl w.heap.size _ acc [(N : Int) / 2 ^ (8 * j) % 256] ⟨wr.heap.size, 0, none⟩ 1 1 rfl rfl rfl (HO2.out.alloc _) (one_cell (new_cell _ _ rfl _ _)) (by have := HAL.out; omega) (by have := HB.out.size; simp; omega) ?_; intro v' w' hown hgr; have HO3 := Lib.hid hown; have HB3 : Hid (Below w.heap.size w w') := Lib.hid (HB.out.trans (grew_below HO2.out hgr.ahead (Nat.le_refl _) HB.out.size)); clear hown hgr)
        | fail)
      refine ⟨⟨j, acc ++ [(N : Int) / 2 ^ (8 * j) % 256], by omega, rfl, ?_, HO3.out, HB3.out⟩, by simp [intOf]⟩
      have h1 := HA.out
      rw [show digs N (j + 1) = ((N / 2 ^ (8 * j) % 256 : Nat) : Int) :: digs N j from rfl] at h1
      rw [← h1, List.append_assoc, List.singleton_append]
      congr 2
theorem cell_mark (W : World) (C : Array Value) (t : TypeId) (fr : Nat × Nat) (i : Nat) (u : Value) (h : C[i]? = some u) : (W.alloc (.cells C t fr)).cell? ⟨W.heap.size, i, none⟩ = some u := (cell_of_row _ _ i C t fr (heap_alloc_new _ _)).trans h
theorem magic_cells (W : World) (t : TypeId) (fr : Nat × Nat) : ∀ j u, ([84, 90, 105, 102, 50] : List Int)[j]? = some u → (W.alloc (.cells #[.int .u8 84, .int .u8 90, .int .u8 105, .int .u8 102, .int .u8 50] t fr)).cell? ((⟨W.heap.size, 0, none⟩ : Addr).add j) = some (by8 u) := by
  intro j u hu
  rw [Own_add]
  refine cell_mark W _ t fr j _ ?_
  match j, hu with
  | 0, hu => simp at hu; subst hu; rfl
  | 1, hu => simp at hu; subst hu; rfl
  | 2, hu => simp at hu; subst hu; rfl
  | 3, hu => simp at hu; subst hu; rfl
  | 4, hu => simp at hu; subst hu; rfl
theorem u64_of_nat (c : Nat) (h : c ≤ 1000000) : IntKind.u64.wrap (c : Int) = (c : Int) := by rw [IntKind.wrap_u64]; omega
def castI (l : List Nat) : List Int := l.map fun (n : Nat) => (n : Int)
set_option maxRecDepth 100000 in
set_option maxHeartbeats 2000000 in
theorem rhead_any (v : Value) (ns : List Nat) (B : Nat) (w : World) (h : Sl w B 1 v ((castI ns).map intCells)) (hl : ns.length ≤ 100) (hn : ∀ n ∈ ns, n ≤ 1000000) (hB : B ≤ w.heap.size) :
    Calls Try.prog 30 #[v] w fun e w' => ∃ v', e = .returned v' ∧ Own w' w.heap.size v' (magicB ++ ([50] ++ (zerosB 15 ++ ns.flatMap (fun n => digs n 4)))) ∧ Below w.heap.size w w' := by
  have H := Lib.hid h; have HN := Lib.hid hn
  have hcl : (castI ns).length = ns.length := by unfold castI; simp
  obtain ⟨A, c, rfl⟩ := h.len
  rw [hcl]
  rw [hcl] at H
  clear h hn hcl
  have kc := fun (w : World) (C : Array Value) (n c : Nat) => Lib.run_convert_bytes_const (P := Try.prog) w 33 5 C n c Try.underlying33 Try.underlying5
  go_enter Try.func30, Try.ntmps30
  go_wp2_with (first
    | (at_builtin; refine plain_append_zeros_new (.tmp 7) (.const (.int .i64 15)) 3 Try.underlying3 rfl rfl w.heap.size w.heap.size 5 [84, 90, 105, 102, 50] 15 (by omega) rfl rfl (magic_cells w _ _) (by decide) (by decide) (by simp) ?_; intro v1 w1 hO hb; have HO1 := Lib.hid hO; have HB1 : Hid (Below w.heap.size w w1) := Lib.hid (((Below.refl w.heap.size w).alloc (Nat.le_refl _) _).trans (hb.mono (by simp))); clear hO hb)
    | fail)
  go_loopw [3, 4] (fun u i wr => ∃ (k : Nat) (acc : List Int), k ≤ ns.length ∧ i = .int .i64 k ∧ acc = (([84, 90, 105, 102, 50] : List Int) ++ zerosB 15) ++ (ns.take k).flatMap (fun n => digs n 4) ∧ acc.length ≤ 20 + 4 * k ∧ Own wr w.heap.size u acc ∧ Below w.heap.size w wr) (fun _ i _ => ns.length - (intOf i).toNat)
  case atStart => exact ⟨0, _, by omega, rfl, by simp, by simp [zerosB], HO1.out, HB1.out⟩
  case round =>
    obtain ⟨k, acc, hk, rfl, hacc, hal, ho, hg⟩ := hrel
    have HA := Lib.hid hacc; have HAL := Lib.hid hal; have HO4 := Lib.hid ho; have HB4 := Lib.hid hg
    clear hacc hal ho hg HO1 HB1
    by_cases hlt : k < ns.length
    · obtain ⟨x, hx⟩ : ∃ x, ns[k]? = some x := ⟨_, List.getElem?_eq_getElem hlt⟩
      obtain ⟨g, off, c', hv, hg, c0⟩ := H.out.one (k := k) (x := (x : Int)) (by unfold castI; rw [List.getElem?_map, hx]; rfl)
      injection hv with e1 e2 e3
      subst e1; subst e3
      clear e2
      have k0 := cells_at g HB4.out (Nat.lt_of_lt_of_le hg hB) c0
      have hk0 : (0 : Int) ≤ (k : Int) := by omega
      have hk1 : (k : Int) < (ns.length : Int) := by omega
      have HNU : Hid (∀ V, Calls Try.prog 31 #[.int .i64 (x : Int), .int .i64 4] V fun e w' => ∃ g2 c2, e = .returned (.slice (some ⟨g2, 0, none⟩) 4 c2) ∧ (∀ j u, (digs x 4)[j]? = some u → w'.cell? ((⟨g2, 0, none⟩ : Addr).add j) = some (by8 u)) ∧ Below V.heap.size V w') := Lib.hid fun V => by
        refine (rnumber_any (x : Int) x 4 (u64_of_nat x (HN.out x (List.mem_of_getElem? hx))) (by omega) V).mono ?_
        rintro e V' ⟨v, he, h1, h2⟩
        obtain ⟨g2, c2, e4, _, _, m4⟩ := h1.open_ (by rw [digs_len]; omega)
        rw [digs_len] at e4
        subst e4
        exact ⟨g2, c2, he, m4, h2⟩
      have HX := Lib.hid hx
      clear hx c0 hg
      go_wp2_with (first
        | (go_at_call 31; refine (HNU.out _).mono ?_; clear HNU; rintro e V ⟨g2, c2, rfl, hc, hb⟩; have HC := Lib.hid hc; have HO5 := Lib.hid (HO4.out.keep hb); have HB5 := Lib.hid (HB4.out.trans (hb.mono HB4.out.size)); clear hc hb)
        | (at_builtin; refine plain_append_bytes (.tmp 15) (.tmp 20) rfl rfl w.heap.size _ acc (digs x 4) ⟨g2, 0, none⟩ 4 c2 rfl rfl (digs_len x 4) HO5.out HC.out (by have := HAL.out; omega) HB5.out.size ?_; intro v6 w6 hO hG; have HO6 := Lib.hid hO; have HB6 := Lib.hid (HB5.out.trans (grew_below HO5.out hG (Nat.le_refl _) HB5.out.size)); clear hO hG)
        | fail)
      exact ⟨⟨k + 1, _, by omega, by go_num, by rw [HA.out, take_one HX.out, List.flatMap_append, List.append_assoc]; simp, by have := HAL.out; rw [List.length_append, digs_len]; omega, HO6.out, HB6.out⟩, by simp [intOf]; omega⟩
    · obtain rfl : k = ns.length := by omega
      have hfin : acc = magicB ++ ([50] ++ (zerosB 15 ++ ns.flatMap (fun n => digs n 4))) := by
        rw [HA.out, List.take_of_length_le (Nat.le_refl _)]
        unfold magicB
        simp
      have HF := Lib.hid hfin
      have hk1 : ¬ (ns.length : Int) < (ns.length : Int) := by omega
      clear hfin
      go_wp2_with fail
      go_ret
      exact ⟨_, rfl, HF.out ▸ HO4.out, HB4.out⟩
end Go.Proofs.Ytohpdpcjhmopbaa.Tz

/-! Layer 6 (tzif): the document's Put. -/
namespace Go.Proofs.Ytohpdpcjhmopbaa.Tz
open Go.RowKit

theorem sl_new_ints (W : World) (ns : List Nat) (t : TypeId) : Sl (W.alloc (.cells ((castI ns).map (Value.int .i64)).toArray t)) (W.heap.size + 1) 1 (.slice (some ⟨W.heap.size, 0, none⟩) ns.length ns.length) ((castI ns).map intCells) := by
  have hl : ((castI ns).map intCells).length = ns.length := by unfold castI; simp
  have := Sl.new (w := W.alloc (.cells ((castI ns).map (Value.int .i64)).toArray t)) (B := W.heap.size + 1) (sz := 1) (g := W.heap.size) (c := ns.length) (rows := (castI ns).map intCells) (Nat.lt_succ_self _) (fun j row hj k u hu => by
    rw [List.getElem?_map] at hj
    cases hx : (castI ns)[j]? with
    | none => rw [hx] at hj; cases hj
    | some x =>
      rw [hx] at hj; injection hj with hj; subst hj
      match k, hu with
      | 0, hu =>
        have hu : u = .int .i64 x := by simpa [intCells] using hu.symm
        subst hu
        rw [Nat.mul_one]
        refine cell_new W _ t _ j _ rfl ?_
        rw [List.getElem?_toArray, List.getElem?_map, hx]; rfl)
  rwa [hl] at this
theorem offN_is (t : Ty) : IntKind.u64.wrap t.off = (offN t : Int) := off_nat t
set_option maxRecDepth 100000 in
set_option maxHeartbeats 8000000 in
theorem rput_any (z : Zn) (vt vs vi : Value) (B : Nat) (w : World) (h : ZnAt w B z vt vs vi) (hB : B ≤ w.heap.size) (hr : rightZ z = true) :
    Calls Try.prog 14 #[.agg #[vt, vs, vi, .string z.footer]] w fun e w' => ∃ v, e = .returned v ∧ Own w' w.heap.size v (putB z) ∧ Below w.heap.size w w' := by
  obtain ⟨b1, b2, b3, b4, b5, b6, b7, b8⟩ := right_all hr
  obtain ⟨At, ct, rfl⟩ := h.types.len
  obtain ⟨As, cs, rfl⟩ := h.times.len
  obtain ⟨Ai, ci, rfl⟩ := h.index.len
  obtain ⟨W0, hW0⟩ : ∃ W0, w.alloc (.cells #[.slice At z.types.length ct, .slice As z.times.length cs, .slice Ai z.index.length ci, .string z.footer] 31) = W0 := ⟨_, rfl⟩
  have HB0 : Hid (Below w.heap.size w W0) := Lib.hid (by rw [← hW0]; exact (Below.refl _ _).alloc (Nat.le_refl _) _)
  have HSZ : Hid (W0.heap.size = w.heap.size + 1) := Lib.hid (by rw [← hW0]; simp)
  have HC : Hid (∀ V, Below W0.heap.size W0 V → ∀ i u, (#[.slice At z.types.length ct, .slice As z.times.length cs, .slice Ai z.index.length ci, .string z.footer] : Array Value)[i]? = some u → V.cell? ⟨w.heap.size, i, none⟩ = some u) := Lib.hid fun V hb i u hu => cells_at w.heap.size hb (by rw [HSZ.out]; omega) (by rw [← hW0]; exact cell_new w _ _ _ i u rfl hu)
  have HZ : Hid (∀ V, Below W0.heap.size W0 V → ZnAt V B z (.slice At z.types.length ct) (.slice As z.times.length cs) (.slice Ai z.index.length ci)) := Lib.hid fun V hb => (h.below HB0.out hB).below hb (by rw [HSZ.out]; omega)
  have HB : Hid (Below W0.heap.size W0 W0) := Lib.hid (Below.refl _ _)
  have HEQ := Lib.hid b4; have HTY := Lib.hid b7; have HIX := Lib.hid b8; have HLB := Lib.hid b5
  have hlk : ∀ k, letters (z.types.take k) ≤ 16 * k ∧ letters (z.types.take k) ≤ 4080 := fun k => by
    have h1 : letters (z.types.take k) ≤ 16 * (z.types.take k).length := by
      have : ∀ l : List Ty, (∀ t ∈ l, t.abbr.size ≤ 15) → letters l ≤ 16 * l.length := by
        intro l
        induction l with
        | nil => intro _; simp [letters]
        | cons a l ih =>
          intro hl
          have h2 := ih (fun t ht => hl t (by simp [ht]))
          have h3 := hl a (by simp)
          have h4 : letters (a :: l) = a.abbr.size + 1 + letters l := by unfold letters; rw [List.map_cons, List.sum_cons]
          rw [h4, List.length_cons]; omega
      exact this _ fun t ht => (b7 t (List.mem_of_mem_take ht)).1
    have h2 : (z.types.take k).length ≤ k := List.length_take_le _ _
    have h3 : (z.types.take k).length ≤ 255 := Nat.le_trans (List.length_take_le' _ _) b1
    omega
  have HLK := Lib.hid hlk
  have HH1 : Hid (∀ V, Calls Try.prog 30 #[.slice (some ⟨V.heap.size, 0, none⟩) 6 6] (V.alloc (.cells #[.int .i64 0, .int .i64 0, .int .i64 0, .int .i64 0, .int .i64 1, .int .i64 1] 3)) fun e w' => ∃ v, e = .returned v ∧ Own w' V.heap.size v (headB hd1) ∧ Below V.heap.size V w') := Lib.hid fun V => by
    refine (rhead_any _ [0, 0, 0, 0, 1, 1] (V.heap.size + 1) (V.alloc (.cells #[.int .i64 0, .int .i64 0, .int .i64 0, .int .i64 0, .int .i64 1, .int .i64 1] 3)) (sl_new_ints V [0, 0, 0, 0, 1, 1] 3) (by decide) (by decide) (by simp)).mono ?_
    rintro e w' ⟨v, he, h1, h2⟩
    exact ⟨v, he, h1.lower (by simp), ((Below.refl V.heap.size V).alloc (Nat.le_refl _) _).trans (h2.mono (by simp))⟩
  obtain ⟨nl, hnl⟩ : ∃ nl, letters z.types = nl := ⟨_, rfl⟩
  have HNL := Lib.hid hnl
  have HH2 : Hid (∀ V, Calls Try.prog 30 #[.slice (some ⟨V.heap.size, 0, none⟩) 6 6] (V.alloc (.cells #[.int .i64 0, .int .i64 0, .int .i64 0, .int .i64 z.times.length, .int .i64 z.types.length, .int .i64 nl] 3)) fun e w' => ∃ g2 c2, e = .returned (.slice (some ⟨g2, 0, none⟩) 44 c2) ∧ (∀ j u, (headB (hd2 z))[j]? = some u → w'.cell? ((⟨g2, 0, none⟩ : Addr).add j) = some (by8 u)) ∧ Below V.heap.size V w') := Lib.hid fun V => by
    refine (rhead_any _ [0, 0, 0, z.times.length, z.types.length, nl] (V.heap.size + 1) (V.alloc (.cells #[.int .i64 0, .int .i64 0, .int .i64 0, .int .i64 z.times.length, .int .i64 z.types.length, .int .i64 nl] 3)) (sl_new_ints V [0, 0, 0, z.times.length, z.types.length, nl] 3) (by simp) (by intro n hn; simp at hn; omega) (by simp)).mono ?_
    rintro e w' ⟨v, he, h1, h2⟩
    have e2 : magicB ++ ([50] ++ (zerosB 15 ++ [0, 0, 0, z.times.length, z.types.length, nl].flatMap (fun n => digs n 4))) = headB (hd2 z) := by rw [← hnl]; rfl
    rw [e2] at h1
    obtain ⟨g2, c2, e4, _, _, m4⟩ := h1.open_ (by rw [headB_len]; omega)
    rw [headB_len] at e4
    subst e4
    exact ⟨g2, c2, he, m4, ((Below.refl V.heap.size V).alloc (Nat.le_refl _) _).trans (h2.mono (by simp))⟩
  have q0 := HC.out _ HB.out 0 _ rfl; have q1 := HC.out _ HB.out 1 _ rfl; have q2 := HC.out _ HB.out 2 _ rfl; have q3 := HC.out _ HB.out 3 _ rfl
  clear h hr b4 b5 b7 b8 hlk hnl
  go_enter Try.func14, Try.ntmps14
  go_wp2_with fail
  go_loopw [3, 4] (fun s i wr => ∃ k : Nat, k ≤ z.types.length ∧ i = .int .i64 k ∧ s = .int .i64 (letters (z.types.take k) : Nat) ∧ wr = W0) (fun _ i _ => z.types.length - (intOf i).toNat)
  case atStart => exact ⟨0, Nat.zero_le _, rfl, rfl, rfl⟩
  case round =>
    obtain ⟨k, hk, rfl, rfl, rfl⟩ := hrel
    by_cases hlt : k < z.types.length
    · have hk0 : (0 : Int) ≤ (k : Int) := by omega
      have hk1 : (k : Int) < (z.types.length : Int) := by omega
      obtain ⟨x, hx⟩ : ∃ x, z.types[k]? = some x := ⟨_, List.getElem?_eq_getElem hlt⟩
      obtain ⟨g, off, c', hv, hg, c0, c1, c2⟩ := (HZ.out _ HB.out).types.ty hx
      injection hv with ea _ ec
      subst ea; subst ec
      have hs := (HTY.out x (List.mem_of_getElem? hx)).1
      have hlk := HLK.out k
      obtain ⟨m, hm⟩ : ∃ m, letters (z.types.take k) = m := ⟨_, rfl⟩
      rw [hm] at hlk ⊢
      have hn0 : (0 : Int) ≤ (m : Int) := by omega
      have hn1 : (m : Int) ≤ 4080 := by omega
      have hs0 : (0 : Int) ≤ (x.abbr.size : Int) := by omega
      have hs1 : (x.abbr.size : Int) ≤ 15 := by omega
      have HM := Lib.hid hm; have HX := Lib.hid hx
      clear hm hx hs hlk
      go_wp2_with fail
      refine ⟨⟨k + 1, hlt, by go_num, ?_, by first | rfl | trivial⟩, by simp [intOf]; omega⟩
      rw [take_one HX.out, letters_snoc, HM.out]; congr 1
    · have hk1 : ¬ (k : Int) < (z.types.length : Int) := by omega
      have htk : z.types.take k = z.types := List.take_of_length_le (by omega)
      rw [htk, HNL.out]
      have hnl1 : nl ≤ 256 := by rw [← HNL.out]; exact HLB.out
      clear htk
      go_wp2_with (first
        | (go_at_call 30; refine (HH1.out _).mono ?_; clear HH1; rintro e V1 ⟨v1, rfl, hO, hb⟩; have HO1 := Lib.hid hO; have HB1 := Lib.hid hb; clear hO hb q0 q1 q2 q3)
        | (at_builtin; refine plain_append_zeros (.tmp 31) (.const (.int .i64 7)) 3 Try.underlying3 rfl rfl wr.heap.size _ (headB hd1) 7 (by omega) rfl rfl HO1.out (by rw [headB_len]; omega) HB1.out.size ?_; intro v2 V2 hO hG; have HO2 := Lib.hid hO; have HB2 := Lib.hid (HB1.out.trans (grew_below HO1.out hG (Nat.le_refl _) HB1.out.size)); clear hO hG HO1 HB1; have q0 := HC.out _ HB2.out 0 _ rfl; have q1 := HC.out _ HB2.out 1 _ rfl)
        | (go_at_call 30; refine (HH2.out _).mono ?_; clear HH2; rintro e V3 ⟨g3, c3, rfl, hc, hb⟩; have HC3 := Lib.hid hc; have HO3 := Lib.hid (HO2.out.keep hb); have HB3 := Lib.hid (HB2.out.trans (hb.mono HB2.out.size)); clear hc hb HO2 HB2 q0 q1)
        | (at_builtin; refine plain_append_bytes (.tmp 33) (.tmp 42) rfl rfl wr.heap.size _ (headB hd1 ++ zerosB 7) (headB (hd2 z)) ⟨g3, 0, none⟩ 44 c3 rfl rfl (headB_len _) HO3.out HC3.out (by rw [List.length_append, headB_len]; show 44 + 7 + 44 ≤ _; omega) HB3.out.size ?_; intro v4 V4 hO hG; have HO4 := Lib.hid hO; have HB4 := Lib.hid (HB3.out.trans (grew_below HO3.out hG (Nat.le_refl _) HB3.out.size)); clear hO hG HO3 HB3 HC3)
        | fail)
      have HTL : Hid ((topB z).length = 95) := Lib.hid (by unfold topB; rw [List.length_append, List.length_append, headB_len, headB_len]; unfold zerosB; simp)
      obtain ⟨wA, hwA⟩ : ∃ wA : World, wr = wA := ⟨_, rfl⟩
      rw [hwA] at HB0 HSZ HC HZ HB HO4 HB4 ⊢
      clear hwA
      go_loopw [5, 6] (fun u i wr => ∃ (k : Nat) (acc : List Int), k ≤ z.times.length ∧ i = .int .i64 k ∧ acc = topB z ++ timesB (z.times.take k) ∧ acc.length ≤ 95 + 8 * k ∧ Own wr wA.heap.size u acc ∧ Below wA.heap.size wA wr) (fun _ i _ => z.times.length - (intOf i).toNat)
      case atStart => exact ⟨0, topB z, by omega, rfl, by simp [timesB], by rw [HTL.out]; omega, HO4.out, HB4.out⟩
      case round =>
        obtain ⟨k2, acc, hk2, rfl, hacc, hal, ho, hg⟩ := hrel
        have HAC := Lib.hid hacc; have HAL := Lib.hid hal; have HO5 := Lib.hid ho; have HB5 := Lib.hid hg
        clear hacc hal ho hg HO4 HB4
        have q0 := HC.out _ HB5.out 0 _ rfl; have q1 := HC.out _ HB5.out 1 _ rfl; have q2 := HC.out _ HB5.out 2 _ rfl; have q3 := HC.out _ HB5.out 3 _ rfl
        by_cases hlt2 : k2 < z.times.length
        · have hk0 : (0 : Int) ≤ (k2 : Int) := by omega
          have hk3 : (k2 : Int) < (z.times.length : Int) := by omega
          obtain ⟨x, hx⟩ : ∃ x, z.times[k2]? = some x := ⟨_, List.getElem?_eq_getElem hlt2⟩
          obtain ⟨g, off, c', hv, hg, c0⟩ := (HZ.out _ HB5.out).times.one hx
          injection hv with e1 _ e3
          subst e1; subst e3
          obtain ⟨n, hn⟩ := u64_nat x
          have HNX : Hid ((IntKind.u64.wrap x).toNat = n) := Lib.hid (by rw [hn]; simp)
          have HNU : Hid (∀ V, Calls Try.prog 31 #[.int .i64 x, .int .i64 8] V fun e w' => ∃ g2 c2, e = .returned (.slice (some ⟨g2, 0, none⟩) 8 c2) ∧ (∀ j u, (digs n 8)[j]? = some u → w'.cell? ((⟨g2, 0, none⟩ : Addr).add j) = some (by8 u)) ∧ Below V.heap.size V w') := Lib.hid fun V => by
            refine (rnumber_any x n 8 hn (by omega) V).mono ?_
            rintro e V' ⟨v, he, h1, h2⟩
            obtain ⟨g2, c2, e4, _, _, m4⟩ := h1.open_ (by rw [digs_len]; omega)
            rw [digs_len] at e4
            subst e4
            exact ⟨g2, c2, he, m4, h2⟩
          have HXX := Lib.hid hx
          clear hx hn hg
          go_wp2_with (first
            | (go_at_call 31; refine (HNU.out _).mono ?_; clear HNU q0 q1 q2 q3 c0; rintro e V ⟨g2, c2, rfl, hc, hb⟩; have HCN := Lib.hid hc; have HO6 := Lib.hid (HO5.out.keep hb); have HB6 := Lib.hid (HB5.out.trans (hb.mono HB5.out.size)); clear hc hb)
            | (at_builtin; refine plain_append_bytes (.tmp 51) (.tmp 57) rfl rfl wA.heap.size _ acc (digs n 8) ⟨g2, 0, none⟩ 8 c2 rfl rfl (digs_len n 8) HO6.out HCN.out (by have := HAL.out; omega) HB6.out.size ?_; intro v7 w7 hO hG; have HO7 := Lib.hid hO; have HB7 := Lib.hid (HB6.out.trans (grew_below HO6.out hG (Nat.le_refl _) HB6.out.size)); clear hO hG)
            | fail)
          exact ⟨⟨k2 + 1, _, by omega, by go_num, by rw [HAC.out, take_one HXX.out, timesB, timesB, List.flatMap_append, List.append_assoc]; simp [HNX.out], by have := HAL.out; rw [List.length_append, digs_len]; omega, HO7.out, HB7.out⟩, by simp [intOf]; omega⟩
        · have hk3 : ¬ (k2 : Int) < (z.times.length : Int) := by omega
          have hacc : acc = topB z ++ timesB z.times := by rw [HAC.out, List.take_of_length_le (by omega)]
          have HAC2 := Lib.hid hacc
          have HAL2 : Hid (acc.length ≤ 32095) := Lib.hid (by have := HAL.out; omega)
          clear hacc HAC HAL
          go_wp2_with fail
          clear q0 q1 q2 q3
          go_loopw [5, 7] (fun u i wr => ∃ (k : Nat) (ac2 : List Int), k ≤ z.index.length ∧ i = .int .i64 k ∧ ac2 = acc ++ indexB (z.index.take k) ∧ ac2.length ≤ 32095 + k ∧ Own wr wA.heap.size u ac2 ∧ Below wA.heap.size wA wr) (fun _ i _ => z.index.length - (intOf i).toNat)
          case atStart => exact ⟨0, acc, by omega, rfl, by simp [indexB], by have := HAL2.out; omega, HO5.out, HB5.out⟩
          case round =>
            obtain ⟨k3, ac2, hk3, rfl, hacc, hal, ho, hg⟩ := hrel
            have HAC := Lib.hid hacc; have HAL := Lib.hid hal; have HO6 := Lib.hid ho; have HB6 := Lib.hid hg
            clear hacc hal ho hg HO5 HB5
            have hki : k3 ≤ 4000 := by have := HEQ.out; omega
            have q0 := HC.out _ HB6.out 0 _ rfl; have q1 := HC.out _ HB6.out 1 _ rfl; have q2 := HC.out _ HB6.out 2 _ rfl; have q3 := HC.out _ HB6.out 3 _ rfl
            by_cases hlt3 : k3 < z.index.length
            · have hk0 : (0 : Int) ≤ (k3 : Int) := by omega
              have hk4 : (k3 : Int) < (z.index.length : Int) := by omega
              obtain ⟨x, hx⟩ : ∃ x, z.index[k3]? = some x := ⟨_, List.getElem?_eq_getElem hlt3⟩
              obtain ⟨g, off, c', hv, hg, c0⟩ := (HZ.out _ HB6.out).index.one hx
              injection hv with e1 _ e3
              subst e1; subst e3
              have HXX := Lib.hid hx
              clear hx hg
              go_wp2_with (first
                | (at_builtin; refine plain_append_bytes (.tmp 66) (.tmp 73) rfl rfl wA.heap.size _ ac2 [x % 256] ⟨wr.heap.size, 0, none⟩ 1 1 rfl rfl rfl (HO6.out.alloc _) (one_cell (new_cell _ _ rfl _ _)) (by have := HAL.out; omega) (by have := HB6.out.size; simp; omega) ?_; intro v' w' hown hgr; have HO7 := Lib.hid hown; have HB7 := Lib.hid (HB6.out.trans (grew_below HO6.out hgr.ahead (Nat.le_refl _) HB6.out.size)); clear hown hgr)
                | fail)
              exact ⟨⟨k3 + 1, _, by omega, by go_num, by rw [HAC.out, take_one HXX.out, indexB, indexB, List.map_append, List.append_assoc]; rfl, by have := HAL.out; rw [List.length_append]; show _ + 1 ≤ _; omega, HO7.out, HB7.out⟩, by simp [intOf]; omega⟩
            · have hk4 : ¬ (k3 : Int) < (z.index.length : Int) := by omega
              have hacc : ac2 = topB z ++ timesB z.times ++ indexB z.index := by rw [HAC.out, List.take_of_length_le (by omega), HAC2.out]
              have HAC3 := Lib.hid hacc
              have HAL3 : Hid (ac2.length ≤ 36095) := Lib.hid (by have := HAL.out; omega)
              clear hacc HAC HAC2 HAL HAL2
              go_wp2_with fail
              clear q0 q1 q2 q3
              go_loopw [5, 8, 9] (fun u a i wr => ∃ (k : Nat) (ac3 : List Int), k ≤ z.types.length ∧ i = .int .i64 k ∧ a = .int .i64 (letters (z.types.take k) : Nat) ∧ ac3 ++ typesB (z.types.drop k) (letters (z.types.take k)) = ac2 ++ typesB z.types 0 ∧ ac3.length ≤ 36095 + 6 * k ∧ Own wr wA.heap.size u ac3 ∧ Below wA.heap.size wA wr) (fun _ _ i _ => z.types.length - (intOf i).toNat)
              case atStart => exact ⟨0, ac2, by omega, rfl, rfl, rfl, by have := HAL3.out; omega, HO6.out, HB6.out⟩
              case round =>
                obtain ⟨k4, ac3, hk4, rfl, rfl, hacc, hal, ho, hg⟩ := hrel
                have HAC := Lib.hid hacc; have HAL := Lib.hid hal; have HO7 := Lib.hid ho; have HB7 := Lib.hid hg
                clear hacc hal ho hg HO6 HB6
                have q0 := HC.out _ HB7.out 0 _ rfl; have q1 := HC.out _ HB7.out 1 _ rfl; have q2 := HC.out _ HB7.out 2 _ rfl; have q3 := HC.out _ HB7.out 3 _ rfl
                by_cases hlt4 : k4 < z.types.length
                · have hk0 : (0 : Int) ≤ (k4 : Int) := by omega
                  have hk5 : (k4 : Int) < (z.types.length : Int) := by omega
                  obtain ⟨x, hx⟩ : ∃ x, z.types[k4]? = some x := ⟨_, List.getElem?_eq_getElem hlt4⟩
                  obtain ⟨g, off, c', hv, hg, d0, d1, d2⟩ := (HZ.out _ HB.out).types.ty hx
                  injection hv with ea _ ec
                  subst ea; subst ec
                  have HGX : Hid (g < wA.heap.size) := Lib.hid (by have := HSZ.out; omega)
                  have c0 := cells_at g HB7.out HGX.out d0
                  have c1 := cells_at g HB7.out HGX.out d1
                  have c2 := cells_at g HB7.out HGX.out d2
                  have D2 := Lib.hid d2
                  clear d0 d1 d2
                  have hs := (HTY.out x (List.mem_of_getElem? hx)).1
                  have hlk := HLK.out k4
                  obtain ⟨m, hm⟩ : ∃ m, letters (z.types.take k4) = m := ⟨_, rfl⟩
                  rw [hm] at hlk ⊢
                  have hn0 : (0 : Int) ≤ (m : Int) := by omega
                  have hn1 : (m : Int) ≤ 4080 := by omega
                  have hs0 : (0 : Int) ≤ (x.abbr.size : Int) := by omega
                  have hs1 : (x.abbr.size : Int) ≤ 15 := by omega
                  have HM := Lib.hid hm; have HX := Lib.hid hx
                  have HNU : Hid (∀ V, Calls Try.prog 31 #[.int .i64 x.off, .int .i64 4] V fun e w' => ∃ g2 c2, e = .returned (.slice (some ⟨g2, 0, none⟩) 4 c2) ∧ (∀ j u, (digs (offN x) 4)[j]? = some u → w'.cell? ((⟨g2, 0, none⟩ : Addr).add j) = some (by8 u)) ∧ Below V.heap.size V w') := Lib.hid fun V => by
                    refine (rnumber_any x.off (offN x) 4 (off_nat x) (by omega) V).mono ?_
                    rintro e V' ⟨v, he, h1, h2⟩
                    obtain ⟨g2, c2, e4, _, _, m4⟩ := h1.open_ (by rw [digs_len]; omega)
                    rw [digs_len] at e4
                    subst e4
                    exact ⟨g2, c2, he, m4, h2⟩
                  obtain ⟨d, hd⟩ : ∃ d, x.dst = d := ⟨_, rfl⟩
                  have HDB : Hid (dstB x = if d then 1 else 0) := Lib.hid (by unfold dstB; rw [hd])
                  rw [hd] at c1
                  clear hm hx hs hlk hg hd
                  cases d with
                  | true =>
                    have HDV : Hid (dstB x = 1) := Lib.hid (by rw [HDB.out]; rfl)
                    go_wp2_with (first
                      | (go_at_call 31; refine (HNU.out _).mono ?_; clear HNU q0 q1 q2 q3 c0 c1 c2; rintro e V ⟨g2, c2', rfl, hc, hb⟩; have HCN := Lib.hid hc; have HO8 := Lib.hid (HO7.out.keep hb); have HB8 := Lib.hid (HB7.out.trans (hb.mono HB7.out.size)); clear hc hb)
                      | (at_builtin; refine plain_append_bytes (.tmp 88) (.tmp 95) rfl rfl wA.heap.size _ ac3 (digs (offN x) 4) ⟨g2, 0, none⟩ 4 c2' rfl rfl (digs_len _ 4) HO8.out HCN.out (by have := HAL.out; omega) HB8.out.size ?_; intro v9 w9 hO hG; have HO9 := Lib.hid hO; have HB9 := Lib.hid (HB8.out.trans (grew_below HO8.out hG (Nat.le_refl _) HB8.out.size)); clear hO hG)
                      | (at_builtin; refine plain_append_bytes (.tmp 97) (.tmp 101) rfl rfl wA.heap.size _ (ac3 ++ digs (offN x) 4) [1, (m : Int) % 256] ⟨w9.heap.size, 0, none⟩ 2 2 rfl rfl rfl (HO9.out.alloc _) (two_cells w9 _ _ _) (by have := HAL.out; rw [List.length_append, digs_len]; omega) (by have := HB9.out.size; simp; omega) ?_; intro v10 w10 hO hG; have HO10 := Lib.hid hO; have HB10 := Lib.hid (HB9.out.trans (grew_below HO9.out hG.ahead (Nat.le_refl _) HB9.out.size)); clear hO hG; have q0 := HC.out _ HB10.out 0 _ rfl; have k2 := cells_at g HB10.out HGX.out D2.out)
                      | fail)
                    refine ⟨⟨k4 + 1, _, hlt4, by go_num, ?_, ?_, ?_, HO10.out, HB10.out⟩, by simp [intOf]; omega⟩
                    · rw [take_one HX.out, letters_snoc, HM.out]; congr 1
                    · rw [← HAC.out, drop_one HX.out, take_one HX.out, letters_snoc, HM.out]
                      simp [typesB, HDV.out]
                    · have := HAL.out
                      simp [digs_len]; omega
                  | false =>
                    have HDV : Hid (dstB x = 0) := Lib.hid (by rw [HDB.out]; rfl)
                    go_wp2_with (first
                      | (go_at_call 31; refine (HNU.out _).mono ?_; clear HNU q0 q1 q2 q3 c0 c1 c2; rintro e V ⟨g2, c2', rfl, hc, hb⟩; have HCN := Lib.hid hc; have HO8 := Lib.hid (HO7.out.keep hb); have HB8 := Lib.hid (HB7.out.trans (hb.mono HB7.out.size)); clear hc hb)
                      | (at_builtin; refine plain_append_bytes (.tmp 88) (.tmp 95) rfl rfl wA.heap.size _ ac3 (digs (offN x) 4) ⟨g2, 0, none⟩ 4 c2' rfl rfl (digs_len _ 4) HO8.out HCN.out (by have := HAL.out; omega) HB8.out.size ?_; intro v9 w9 hO hG; have HO9 := Lib.hid hO; have HB9 := Lib.hid (HB8.out.trans (grew_below HO8.out hG (Nat.le_refl _) HB8.out.size)); clear hO hG)
                      | (at_builtin; refine plain_append_bytes (.tmp 97) (.tmp 101) rfl rfl wA.heap.size _ (ac3 ++ digs (offN x) 4) [0, (m : Int) % 256] ⟨w9.heap.size, 0, none⟩ 2 2 rfl rfl rfl (HO9.out.alloc _) (two_cells w9 _ _ _) (by have := HAL.out; rw [List.length_append, digs_len]; omega) (by have := HB9.out.size; simp; omega) ?_; intro v10 w10 hO hG; have HO10 := Lib.hid hO; have HB10 := Lib.hid (HB9.out.trans (grew_below HO9.out hG.ahead (Nat.le_refl _) HB9.out.size)); clear hO hG; have q0 := HC.out _ HB10.out 0 _ rfl; have k2 := cells_at g HB10.out HGX.out D2.out)
                      | fail)
                    refine ⟨⟨k4 + 1, _, hlt4, by go_num, ?_, ?_, ?_, HO10.out, HB10.out⟩, by simp [intOf]; omega⟩
                    · rw [take_one HX.out, letters_snoc, HM.out]; congr 1
                    · rw [← HAC.out, drop_one HX.out, take_one HX.out, letters_snoc, HM.out]
                      simp [typesB, HDV.out]
                    · have := HAL.out
                      simp [digs_len]; omega
                · have hk5 : ¬ (k4 : Int) < (z.types.length : Int) := by omega
                  have hacc : ac3 = topB z ++ timesB z.times ++ indexB z.index ++ typesB z.types 0 := by
                    have := HAC.out
                    rw [List.drop_eq_nil_of_le (by omega)] at this
                    rw [← HAC3.out, ← this]; simp [typesB]
                  have HAC4 := Lib.hid hacc
                  have HAL4 : Hid (ac3.length ≤ 40000) := Lib.hid (by have := HAL.out; omega)
                  clear hacc HAC HAC3 HAL HAL3
                  go_wp2_with fail
                  clear q0 q1 q2 q3
                  go_loopw [5, 11] (fun u i wr => ∃ (k : Nat) (ac4 : List Int), k ≤ z.types.length ∧ i = .int .i64 k ∧ ac4 ++ lettersB (z.types.drop k) = ac3 ++ lettersB z.types ∧ ac4.length ≤ 40000 + 16 * k ∧ Own wr wA.heap.size u ac4 ∧ Below wA.heap.size wA wr) (fun _ i _ => z.types.length - (intOf i).toNat)
                  case atStart => exact ⟨0, ac3, by omega, rfl, rfl, by have := HAL4.out; omega, HO7.out, HB7.out⟩
                  case round =>
                    obtain ⟨k5, ac4, hk5, rfl, hacc, hal, ho, hg⟩ := hrel
                    have HAC := Lib.hid hacc; have HAL := Lib.hid hal; have HO8 := Lib.hid ho; have HB8 := Lib.hid hg
                    clear hacc hal ho hg HO7 HB7
                    have q0 := HC.out _ HB8.out 0 _ rfl; have q1 := HC.out _ HB8.out 1 _ rfl; have q2 := HC.out _ HB8.out 2 _ rfl; have q3 := HC.out _ HB8.out 3 _ rfl
                    by_cases hlt5 : k5 < z.types.length
                    · have hk0 : (0 : Int) ≤ (k5 : Int) := by omega
                      have hk6 : (k5 : Int) < (z.types.length : Int) := by omega
                      obtain ⟨x, hx⟩ : ∃ x, z.types[k5]? = some x := ⟨_, List.getElem?_eq_getElem hlt5⟩
                      obtain ⟨g, off, c', hv, hg, c0, c1, c2⟩ := (HZ.out _ HB8.out).types.ty hx
                      injection hv with ea _ ec
                      subst ea; subst ec
                      have HS := Lib.hid (HTY.out x (List.mem_of_getElem? hx)).1
                      have HX := Lib.hid hx
                      clear hx hg
                      go_wp2_with (first
                        | (at_builtin; refine plain_append_text (.tmp 120) (.tmp 126) rfl rfl wA.heap.size _ ac4 x.abbr rfl rfl HO8.out (by have := HAL.out; have := HS.out; omega) HB8.out.size ?_; intro b5 w5 hO5 hG5; have HO9 := Lib.hid hO5; have HB9 := Lib.hid (HB8.out.trans (grew_below HO8.out hG5 (Nat.le_refl _) HB8.out.size)); clear hO5 hG5 q0 q1 q2 q3 c0 c1 c2)
                        | (at_builtin; refine plain_append_bytes (.tmp 128) (.tmp 129) rfl rfl wA.heap.size _ (ac4 ++ bytesOf x.abbr) [0] ⟨w5.heap.size, 0, none⟩ 1 1 rfl rfl rfl (HO9.out.alloc _) (one_cell (new_cell _ _ rfl _ _)) (by have := HAL.out; have := HS.out; rw [List.length_append, bytesOf_len]; omega) (by have := HB9.out.size; simp; omega) ?_; intro b6 w6 hO6 hG6; have HO10 := Lib.hid hO6; have HB10 := Lib.hid (HB9.out.trans (grew_below HO9.out hG6.ahead (Nat.le_refl _) HB9.out.size)); clear hO6 hG6)
                        | fail)
                      exact ⟨⟨k5 + 1, _, by omega, by go_num, by rw [← HAC.out, drop_one HX.out]; simp [lettersB], by have := HAL.out; have := HS.out; rw [List.length_append, List.length_append, bytesOf_len]; show _ + _ + 1 ≤ _; omega, HO10.out, HB10.out⟩, by simp [intOf]; omega⟩
                    · have hk6 : ¬ (k5 : Int) < (z.types.length : Int) := by omega
                      have hacc : ac4 = ac3 ++ lettersB z.types := by
                        have := HAC.out
                        rw [List.drop_eq_nil_of_le (by omega)] at this
                        rw [← this]; simp [lettersB]
                      have HFI : Hid (putB z = ac4 ++ [10] ++ bytesOf z.footer ++ [10]) := Lib.hid (by rw [hacc, HAC4.out]; rfl)
                      have HAL5 : Hid (ac4.length ≤ 50000) := Lib.hid (by have := HAL.out; omega)
                      clear hacc HAC
                      go_wp2_with (first
                        | (at_builtin; refine plain_append_bytes (.tmp 131) (.tmp 132) rfl rfl wA.heap.size _ ac4 [10] ⟨_, 0, none⟩ 1 1 rfl rfl rfl (HO8.out.alloc _) (one_cell (new_cell _ _ rfl _ _)) (by have := HAL5.out; show _ + 1 ≤ _; omega) (by have := HB8.out.size; simp; omega) ?_; intro b6 w6 hO6 hG6; have HO9 := Lib.hid hO6; have HB9 := Lib.hid (HB8.out.trans (grew_below HO8.out hG6.ahead (Nat.le_refl _) HB8.out.size)); clear hO6 hG6 q0 q1 q2 q3; have q3 := HC.out _ HB9.out 3 _ rfl)
                        | (at_builtin; refine plain_append_text (.tmp 134) (.tmp 136) rfl rfl wA.heap.size _ (ac4 ++ [10]) z.footer rfl rfl HO9.out (by have := HAL5.out; rw [List.length_append]; show _ + 1 + _ ≤ _; omega) HB9.out.size ?_; intro b7 w7 hO7 hG7; have HO10 := Lib.hid hO7; have HB10 := Lib.hid (HB9.out.trans (grew_below HO9.out hG7 (Nat.le_refl _) HB9.out.size)); clear hO7 hG7)
                        | (at_builtin; refine plain_append_bytes (.tmp 138) (.tmp 139) rfl rfl wA.heap.size _ ((ac4 ++ [10]) ++ bytesOf z.footer) [10] ⟨_, 0, none⟩ 1 1 rfl rfl rfl (HO10.out.alloc _) (one_cell (new_cell _ _ rfl _ _)) (by have := HAL5.out; rw [List.length_append, List.length_append, bytesOf_len]; show _ + 1 + _ + 1 ≤ _; omega) (by have := HB10.out.size; simp; omega) ?_; intro b8 w8 hO8 hG8; have HO11 := Lib.hid hO8; have HB11 := Lib.hid (HB10.out.trans (grew_below HO10.out hG8.ahead (Nat.le_refl _) HB10.out.size)); clear hO8 hG8)
                        | fail)
                      go_ret
                      exact ⟨_, rfl, by rw [HFI.out]; exact HO11.out.lower HB0.out.size, HB0.out.trans (HB11.out.mono HB0.out.size)⟩
end Go.Proofs.Ytohpdpcjhmopbaa.Tz

/-! Layer 6 (tzif): a zone as the document has it. -/
namespace Go.Proofs.Ytohpdpcjhmopbaa.Tz
open Go.RowKit

theorem ty_info : (Try.prog.info? 56).map (fun i => (i.zero, i.size, i.bytes)) = some (some (.agg #[.int .i64 0, .bool false, .string ⟨#[]⟩]), 3, 32) := by kernel_rfl
/-- A row of types of the call's own. -/
def OwnT (w : World) (base : Nat) (v : Value) (l : List Ty) : Prop := w.ownsRow base 56 3 v l.length (l.flatMap tyCells)
theorem flat_ty : ∀ {l : List Ty} {j k : Nat} {t : Ty} {u : Value}, l[j]? = some t → (tyCells t)[k]? = some u → (l.flatMap tyCells)[j * 3 + k]? = some u
  | [], _, _, _, _, h, _ => by simp at h
  | a :: l, 0, k, t, u, h, hu => by
    have e : a = t := by simpa using h
    subst e
    have hk : k < 3 := by have := (List.getElem?_eq_some_iff.1 hu).1; simpa [tyCells] using this
    rw [List.flatMap_cons, List.getElem?_append_left (by simp [tyCells]; omega), Nat.zero_mul, Nat.zero_add]; exact hu
  | a :: l, j + 1, k, t, u, h, hu => by
    rw [List.flatMap_cons, List.getElem?_append_right (by simp [tyCells]; omega)]
    have : (j + 1) * 3 + k - (tyCells a).length = j * 3 + k := by simp [tyCells]; omega
    rw [this]
    exact flat_ty (by simpa using h) hu
section
variable {w w' : World} {base : Nat} {v : Value} {l : List Ty}
theorem OwnT.keep (h : OwnT w base v l) (hb : Below w.heap.size w w') : OwnT w' base v l :=
  World.ownsRow.kept h (row := none) ⟨hb.os, hb.tape, hb.output, hb.size, fun k hk _ => hb.block k hk⟩ (by cases hv : v.ownBlock <;> simp)
theorem OwnT.lt (h : OwnT w base v l) (k : Nat) (hk : v.ownBlock = some k) : base ≤ k ∧ k < w.heap.size := World.ownsRow.lt h k hk
theorem OwnT.set (h : OwnT w base v l) {g : Nat} (hg : g < base) (i : Nat) (u : Value) : OwnT (w.setCell ⟨g, i, none⟩ u) base v l :=
  World.ownsRow.kept h (grown_set w g i u) (by
    cases hv : v.ownBlock with
    | none => exact .inl rfl
    | some k => exact .inr (fun e => by injection e with e; have := (h.lt k hv).1; omega))
theorem OwnT.form (h : OwnT w base v l) : ∃ A c, v = .slice A l.length c := by
  rcases h.2 with ⟨rfl, h0⟩ | ⟨g, cap, cur, rfl, _⟩
  · exact ⟨none, 0, by rw [h0]⟩
  · exact ⟨_, _, rfl⟩
theorem OwnT.sl (h : OwnT w base v l) {B : Nat} (hB : w.heap.size ≤ B) : Sl w B 3 v (l.map tyCells) := by
  refine ⟨?_, fun j row hj => ?_⟩
  · obtain ⟨A, c, e⟩ := h.form
    exact ⟨A, c, by rw [List.length_map]; exact e⟩
  · rw [List.getElem?_map] at hj
    cases hx : l[j]? with
    | none => rw [hx] at hj; cases hj
    | some t =>
      rw [hx] at hj
      have e : row = tyCells t := by injection hj with hj; exact hj.symm
      subst e
      have hlt : j < l.length := (List.getElem?_eq_some_iff.1 hx).1
      obtain ⟨g, cap, cur, rfl, hg⟩ : ∃ g cap cur, v = .slice (some ⟨g, 0, none⟩) l.length cap ∧ w.heap[g]? = some (.cells cur 56 (0, 0)) := by
        rcases h.2 with ⟨_, h0⟩ | ⟨g, cap, cur, e, hbg, hg, _⟩
        · omega
        · exact ⟨g, cap, cur, e, hg⟩
      have hgl := (Array.getElem?_eq_some_iff.1 hg).1
      refine ⟨g, 0, cap, by rw [List.length_map], by omega, fun k u hu => ?_⟩
      have := World.ownsRow.cells h (g := g) rfl (j * 3 + k) u (flat_ty hx hu)
      rw [Own_add] at this
      rw [Nat.zero_add]; exact this
end
theorem ZnBox.set0 {U : World} {P : Nat} {a b c d : Value} (h : ZnBox U P a b c d) (x : Value) : ZnBox (U.setCell ⟨P, 0, none⟩ x) P x b c d :=
  ⟨World.cell?_setCell_same _ _ _ h.c0, (set_other (by decide)).trans h.c1, (set_other (by decide)).trans h.c2, (set_other (by decide)).trans h.c3, fun i => by rw [World.frozen?_setCell]; exact h.fr i, by simpa using h.lt⟩
theorem three_cells (W : World) (t : Ty) (ty : TypeId) (g : Nat) (hg : W.heap.size = g) : ∀ j u, (tyCells t)[j]? = some u → (W.alloc (.cells #[.int .i64 t.off, .bool t.dst, .string t.abbr] ty)).cell? ((⟨g, 0, none⟩ : Addr).add j) = some u := by
  intro j u hu
  rw [Own_add]
  exact cell_new W _ ty g j u hg (by rw [List.getElem?_toArray]; exact hu)
set_option maxRecDepth 100000 in
set_option maxHeartbeats 2000000 in
theorem plain_any (z : Zn) (vt vs vi : Value) (B : Nat) (w : World) (h : ZnAt w B z vt vs vi) (hl : z.types.length ≤ 1000) (hB : B ≤ w.heap.size) :
    Calls Try.prog 10 #[.agg #[vt, vs, vi, .string z.footer]] w fun e w' => ∃ A c, e = .returned (.agg #[.slice A z.types.length c, vs, vi, .string z.footer]) ∧ ZnAt w' w'.heap.size z (.slice A z.types.length c) vs vi ∧ Below w.heap.size w w' := by
  obtain ⟨At, ct, rfl⟩ := h.types.len
  obtain ⟨As, cs, rfl⟩ := h.times.len
  obtain ⟨Ai, ci, rfl⟩ := h.index.len
  obtain ⟨G, hG⟩ : ∃ G, w.heap.size = G := ⟨_, rfl⟩
  obtain ⟨W0, hW0⟩ : ∃ W0, ((w.alloc (.cells #[.slice At z.types.length ct, .slice As z.times.length cs, .slice Ai z.index.length ci, .string z.footer] 26)).alloc (.cells #[.slice none 0 0, .slice none 0 0, .slice none 0 0, .string ⟨#[]⟩] 31)).alloc (.cells #[.slice none 0 0, .slice As z.times.length cs, .slice Ai z.index.length ci, .string z.footer] 31) = W0 := ⟨_, rfl⟩
  have HSZ : Hid (W0.heap.size = G + 3) := Lib.hid (by rw [← hW0]; simp [hG])
  have HB0 : Hid (Below G w W0) := Lib.hid (by rw [← hW0, ← hG]; exact (((Below.refl _ _).alloc (Nat.le_refl _) _).alloc (by simp) _).alloc (by simp; omega) _)
  have HX0 : Hid (ZnBox W0 G (.slice At z.types.length ct) (.slice As z.times.length cs) (.slice Ai z.index.length ci) (.string z.footer)) := Lib.hid (by
    rw [← hW0]
    have h1 := ZnBox.new w G hG (.slice At z.types.length ct) (.slice As z.times.length cs) (.slice Ai z.index.length ci) (.string z.footer) 26
    exact ((h1.below ((Below.refl (G + 1) _).alloc (by simp [hG]) _) (Nat.lt_succ_self _)).below ((Below.refl (G + 1) _).alloc (by simp [hG]) _) (Nat.lt_succ_self _)))
  have HX1 : Hid (ZnBox W0 (G + 1) (.slice none 0 0) (.slice none 0 0) (.slice none 0 0) (.string ⟨#[]⟩)) := Lib.hid (by
    rw [← hW0]
    have h1 := ZnBox.new (w.alloc (.cells #[.slice At z.types.length ct, .slice As z.times.length cs, .slice Ai z.index.length ci, .string z.footer] 26)) (G + 1) (by simp [hG]) (.slice none 0 0) (.slice none 0 0) (.slice none 0 0) (.string ⟨#[]⟩) 31
    exact h1.below ((Below.refl (G + 2) _).alloc (by simp [hG]) _) (Nat.lt_succ_self _))
  have HX2 : Hid (ZnBox W0 (G + 1 + 1) (.slice none 0 0) (.slice As z.times.length cs) (.slice Ai z.index.length ci) (.string z.footer)) := Lib.hid (by
    rw [← hW0]
    exact ZnBox.new _ (G + 1 + 1) (by simp [hG]) _ _ _ _ _)
  have HZ : Hid (∀ V, Below G w V → ZnAt V B z (.slice At z.types.length ct) (.slice As z.times.length cs) (.slice Ai z.index.length ci)) := Lib.hid fun V hb => h.below (C := G) hb (by omega)
  clear h
  go_enter Try.func10, Try.ntmps10
  go_wp2_with fail
  go_loopw [4] (fun i wr => ∃ (k : Nat) (A : Option Addr) (c : Nat), k ≤ z.types.length ∧ i = .int .i64 k ∧ ZnBox wr (G + 1 + 1) (.slice A k c) (.slice As z.times.length cs) (.slice Ai z.index.length ci) (.string z.footer) ∧ OwnT wr (G + 3) (.slice A k c) (z.types.take k) ∧ Below (G + 1 + 1) W0 wr) (fun i _ => z.types.length - (intOf i).toNat)
  case atStart => exact ⟨0, none, 0, by omega, rfl, HX2.out, World.ownsRow_nil _ _ _ _, Below.refl _ _⟩
  case round =>
    obtain ⟨k, A, c, hk, rfl, hbx, hown, hbw⟩ := hrel
    have HBX := Lib.hid hbx; have HOW := Lib.hid hown; have HBW := Lib.hid hbw
    have HBG : Hid (Below G w wr) := Lib.hid (HB0.out.trans (hbw.mono (by omega)))
    have q0 := (HX0.out.below hbw (by omega)).c0
    clear hbx hown hbw
    by_cases hlt : k < z.types.length
    · have hk0 : (0 : Int) ≤ (k : Int) := by omega
      have hk1 : (k : Int) < (z.types.length : Int) := by omega
      obtain ⟨x, hx⟩ : ∃ x, z.types[k]? = some x := ⟨_, List.getElem?_eq_getElem hlt⟩
      obtain ⟨g, off, c', hv, hg, c0, c1, c2⟩ := (HZ.out _ HBG.out).types.ty hx
      injection hv with ea _ ec
      subst ea; subst ec
      have HX := Lib.hid hx
      have HGW : Hid (g < G) := Lib.hid (by omega)
      clear hx hg
      have p0 := HBX.out.c0
      go_wp2_with fail
      refine wp_region_mix (fun z' => z'.cell? ⟨G + 1 + 1, 0, none⟩ = some (.slice A k c) ∧ z'.cell? ⟨G, 0, none⟩ = some (.slice (some ⟨g, off, none⟩) z.types.length ct) ∧ z'.cell? ⟨g, off + k * 3, none⟩ = some (.int .i64 x.off) ∧ z'.cell? ⟨g, off + k * 3 + 1, none⟩ = some (.bool x.dst) ∧ z'.cell? ⟨g, off + k * 3 + 2, none⟩ = some (.string x.abbr)) [true, true, true, true, true, true, true, false, false, true] _ (by kernel_rfl) rfl (by kernel_rfl) ⟨p0, q0, c0, c1, c2⟩ ?_
      dsimp only [List.dropLast, List.zip, List.zipWith, List.getLast]
      repeat (apply wpMix_free
              · intro z' hz
                try dsimp only at hz
                go_simp
                all_goals with_reducible rfl
              simp only [Act.put, List.setIfInBounds_toArray, List.set_cons_zero, List.set_cons_succ])
      refine wpMix_turn (fun K hK => ?_)
      have HK := Lib.hid hK; clear hK
      go_simp
      have hgw : g < wr.heap.size := by have := HBG.out.size; have := HGW.out; omega
      have hP : G + 1 + 1 < wr.heap.size := HBX.out.lt
      refine HK.out _ _ ⟨cell_old wr.drew _ _ _ _ hP p0, cell_old wr.drew _ _ _ _ (Nat.lt_of_lt_of_le (by omega) (Nat.le_of_lt hP)) q0, cell_old wr.drew _ _ _ _ hgw c0, cell_old wr.drew _ _ _ _ hgw c1, cell_old wr.drew _ _ _ _ hgw c2⟩ ?_
      clear HK
      try simp only [Act.put, List.setIfInBounds_toArray, List.set_cons_zero, List.set_cons_succ]
      refine wpMix_turn (fun K hK => ?_)
      have HK := Lib.hid hK; clear hK
      obtain ⟨si, hsi, hz0, hz1, hz2⟩ := info_parts ty_info
      have hal2 : (wr.drew.alloc (.cells #[.int .i64 x.off, .bool x.dst, .string x.abbr] 56)).heap.size = wr.heap.size + 1 := by simp
      have hlk : (z.types.take k).length = k := by rw [List.length_take]; omega
      have how2 : World.ownsRow (wr.drew.alloc (.cells #[.int .i64 x.off, .bool x.dst, .string x.abbr] 56)) (G + 3) 56 3 (.slice A k c) k ((z.types.take k).flatMap tyCells) := by
        have := World.ownsRow.alloc (w := wr.drew) (HOW.out : World.ownsRow wr.drew _ _ _ _ _ _) (.cells #[.int .i64 x.off, .bool x.dst, .string x.abbr] 56)
        rwa [hlk] at this
      refine wp_append_lies _ (.tmp 20) (.tmp 26) 29 rfl (G + 3) 56 si _ 3 32 Try.underlying29 hsi hz0 hz1 hz2 rfl (by decide) _ k _ rfl how2 ⟨wr.heap.size, 0, none⟩ 1 1 (tyCells x) rfl rfl (three_cells wr.drew x _ _ rfl) (by simp [tyCells, Value.oneCell']) (by decide) (by unfold maxLen; omega) (by omega) (by have := HBX.out.lt; simp; omega) (wr.heap.size + 1) hal2 ?_
      intro g2 cap2 V2 hown3 hgr3 hat3 hlt3
      have hBV : Below (G + 1 + 1 + 1) wr V2 := ⟨hgr3.os, hgr3.tape, hgr3.output, by have := hgr3.size; simp at this; omega, fun i hi => (hgr3.block i (by simp; omega) (fun e => by have := (HOW.out.lt i e.symm).1; omega)).trans (heap_alloc_old wr.drew _ (by show i < wr.heap.size; omega))⟩
      have HBV := Lib.hid hBV
      have HO3 : Hid (OwnT V2 (G + 3) (.slice (some ⟨g2, 0, none⟩) (k + 1) cap2) (z.types.take (k + 1))) := Lib.hid (by
        have e : z.types.take (k + 1) = z.types.take k ++ [x] := take_one HX.out
        unfold OwnT
        rw [e, List.length_append, hlk, List.flatMap_append]
        simpa using hown3)
      have m0 := cells_at (G + 1 + 1) hBV (Nat.lt_succ_self _) p0
      have m1 := cells_at G hBV (by omega) q0
      have HBX2 := Lib.hid (HBX.out.below hBV (Nat.lt_succ_self _))
      have mf := HBX2.out.fr 0
      refine HK.out _ _ ⟨m0, m1, cells_at g hBV (by have := HGW.out; omega) c0, cells_at g hBV (by have := HGW.out; omega) c1, cells_at g hBV (by have := HGW.out; omega) c2⟩ ?_
      clear HK hsi hz0 hz1 hz2 hal2 hlk how2 hown3 hgr3 hat3 hBV hgw c0 c1 c2 p0 q0
      try simp only [Act.put, List.setIfInBounds_toArray, List.set_cons_zero, List.set_cons_succ]
      repeat (apply wpMix_free
              · intro z' hz
                try dsimp only at hz
                go_simp
                all_goals with_reducible rfl
              simp only [Act.put, List.setIfInBounds_toArray, List.set_cons_zero, List.set_cons_succ])
      refine wpMix_end ?_
      go_simp
      go_wp2_with fail
      refine ⟨⟨k + 1, _, _, hlt, by go_num, HBX2.out.set0 _, HO3.out.set (by omega) _ _, (HBW.out.trans (HBV.out.mono (by omega))).setCell (Nat.le_refl _) _⟩, by simp [intOf]; omega⟩
    · have hk1 : ¬ (k : Int) < (z.types.length : Int) := by omega
      obtain rfl : k = z.types.length := by omega
      have p0 := HBX.out.c0; have p1 := HBX.out.c1; have p2 := HBX.out.c2; have p3 := HBX.out.c3
      have HXR := Lib.hid (HX1.out.below HBW.out (by omega))
      have r0 := HXR.out.c0; have r1 := HXR.out.c1; have r2 := HXR.out.c2; have r3 := HXR.out.c3
      have f0 := HXR.out.fr 0; have f1 := HXR.out.fr 1; have f2 := HXR.out.fr 2; have f3 := HXR.out.fr 3
      go_wp2_with fail
      have hOT : OwnT wr (G + 3) (.slice A z.types.length c) z.types := by
        have := HOW.out
        rwa [List.take_of_length_le (Nat.le_refl _)] at this
      have hOY := (((hOT.set (g := G + 1) (by omega) 0 (.slice A z.types.length c)).set (g := G + 1) (by omega) 1 (.slice As z.times.length cs)).set (g := G + 1) (by omega) 2 (.slice Ai z.index.length ci)).set (g := G + 1) (by omega) 3 (.string z.footer)
      have hBY : Below G w ((((wr.setCell ⟨G + 1, 0, none⟩ (.slice A z.types.length c)).setCell ⟨G + 1, 1, none⟩ (.slice As z.times.length cs)).setCell ⟨G + 1, 2, none⟩ (.slice Ai z.index.length ci)).setCell ⟨G + 1, 3, none⟩ (.string z.footer)) :=
        (((HBG.out.setCell (Nat.le_succ _) _).setCell (Nat.le_succ _) _).setCell (Nat.le_succ _) _).setCell (Nat.le_succ _) _
      have HOY := Lib.hid hOY; have HBY := Lib.hid hBY
      clear hOT hOY hBY p0 p1 p2 p3
      refine bodyPost_ret (v := .agg #[.slice A z.types.length c, .slice As z.times.length cs, .slice Ai z.index.length ci, .string z.footer]) (by simp [results, Try.results10, go_sem, r0, r1, r2, r3]) rfl ⟨A, c, rfl, ⟨HOY.out.sl (Nat.le_refl _), ?_, ?_⟩, HBY.out⟩
      · have h1 := (HZ.out _ HBY.out).times
        exact ⟨h1.form, fun j row hj => by
          obtain ⟨g, off, c, e, hg, hc⟩ := h1.at_ j row hj
          exact ⟨g, off, c, e, by have := HBY.out.size; omega, hc⟩⟩
      · have h1 := (HZ.out _ HBY.out).index
        exact ⟨h1.form, fun j row hj => by
          obtain ⟨g, off, c, e, hg, hc⟩ := h1.at_ j row hj
          exact ⟨g, off, c, e, by have := HBY.out.size; omega, hc⟩⟩
end Go.Proofs.Ytohpdpcjhmopbaa.Tz
