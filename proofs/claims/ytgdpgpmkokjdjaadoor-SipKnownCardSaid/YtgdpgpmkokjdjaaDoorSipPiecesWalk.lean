/-
  The law SipPieces: in whatever pieces bytes are added, the hash is that of all that was added.
-/
import Derived.Test.YtgdpgpmkokjdjaaDoorSipSumsWalk
namespace Go.Proofs.YtgdpgpmkokjdjaaDoor.Sp
open Go.RowKit

theorem Row.mid {w : World} {B n c i j : Nat} {A : Option Addr} {bs : List Int} (h : Row w B A n bs) (hc : n ≤ c) (hij : i ≤ j) (hj : j ≤ n) : Row w B (if c = i then A else A.map (·.add i)) (j - i) ((bs.drop i).take (j - i)) :=
  (h.cut (cap := c) hc (by omega)).take (by omega)

set_option maxHeartbeats 4000000 in
set_option maxRecDepth 100000 in
theorem sipPieces_main (n c n2 c2 : Nat) (A A2 : Option Addr) (k bs cs : List Int) (w : World) (hk : k.length = 16) (hkb : Bytes k) (hr : Row w w.heap.size A n bs) (hb : Bytes bs) (hc : n ≤ c) (hn : n ≤ 1000)
    (hr2 : Row w w.heap.size A2 n2 cs) (hb2 : Bytes cs) (hc2 : n2 ≤ c2) (hn2 : n2 ≤ 60) :
    Calls Tryd.prog 4 #[kval k, .slice A n c, .slice A2 n2 c2] w fun e w' => e = .returned (.bool true) ∧ Below w.heap.size w w' := by
  have HK := Lib.hid hk; have HL := Lib.hid hr.len
  clear hk
  have hd1 : decide ((1000 : Int) < (n : Int)) = false := by apply decide_eq_false; omega
  have hd2 : decide ((60 : Int) < (n2 : Int)) = false := by apply decide_eq_false; omega
  unfold kval
  go_enter Tryd.func4, Tryd.ntmps4
  go_wp2_with (first | (refine plain_load_arr 23 23 5 16 (.tmp 3) w.heap.size (k.map by8) rfl rfl rfl Tryd.underlying23 (key_info HK.out) (Hold.new _ _ _) ?_) | fail)
  refine (new_any k _ HK.out hkb).mono ?_
  rintro e w1 ⟨g, rfl, hn1, hb1, hg1⟩
  have hwg : w.heap.size < g := by simp at hg1; omega
  have HS : Hid (Hold w1 w.heap.size 23 (k.map by8) ∧ Has w1 g k (bs.take 0) ∧ Below w.heap.size w w1) :=
    Lib.hid ⟨(Hold.new w _ _).below hb1 (by simp), by simpa using Has.new hn1, ((Below.refl _ _).alloc (Nat.le_refl _) _).trans (hb1.mono (by simp))⟩
  clear hn1 hb1 hg1
  go_wp2_with fail
  go_loopw [8, 9] (fun a i wr => ∃ t I : Nat, t ≤ n ∧ I ≤ n2 + 1 ∧ a = .int .i64 t ∧ i = .int .i64 I ∧ (I = n2 + 1 → t = n) ∧ Hold wr w.heap.size 23 (k.map by8) ∧ Has wr g k (bs.take t) ∧ Below w.heap.size w wr) (fun _ i _ => n2 + 1 - (intOf i).toNat)
  case atStart => exact ⟨0, 0, by omega, by omega, rfl, rfl, fun h => absurd h (by omega), HS.out⟩
  case round =>
    obtain ⟨t, I, ht, hI, rfl, rfl, hend, hk1, hh1, hw1⟩ := hrel
    have HK1 := Lib.hid hk1; have HH1 := Lib.hid hh1; have HW1 := Lib.hid hw1
    clear hk1 hh1 hw1
    by_cases hlt : I ≤ n2
    · by_cases hl2 : I < n2
      · obtain ⟨ad2, hA2, _, hcell⟩ := (hr2.below' HW1.out (Nat.le_refl _)).get hl2
        subst hA2
        obtain ⟨z0, z1⟩ := hb2.get I
        obtain ⟨z, hz⟩ : ∃ z, cs.getD I 0 = z := ⟨_, rfl⟩
        rw [hz] at hcell z0 z1
        clear hz
        obtain ⟨T, hT⟩ : ∃ T : Nat, min (n : Int) ((t : Int) + z % 40) = (T : Int) := ⟨(min (n : Int) ((t : Int) + z % 40)).toNat, by omega⟩
        have htT : t ≤ T := by omega
        have hTn : T ≤ n := by omega
        have hT0' : (t : Int) ≤ (T : Int) := by omega
        have HM := Lib.hid ((hr.below' HW1.out (Nat.le_refl _)).mid hc htT hTn)
        have HE := Lib.hid hend; clear hend
        by_cases hct : c = t
        · subst hct
          go_wp2_with fail
          clear hT
          refine (add_any g w.heap.size (T - c) 0 A k (bs.take c) ((bs.drop c).take (T - c)) _ HH1.out (by simpa using HM.out) ((hb.drop _).take _) (by omega) (by omega) (by omega)).mono ?_
          rintro e w2 ⟨rfl, hh2, hb2'⟩
          have hS2 : Hold w2 w.heap.size 23 (k.map by8) ∧ Has w2 g k (bs.take T) ∧ Below w.heap.size w w2 := by
            refine ⟨HK1.out.below hb2' hwg, ?_, HW1.out.trans (hb2'.mono (by omega))⟩
            have e1 : bs.take T = bs.take c ++ (bs.drop c).take (T - c) := by rw [← List.take_add, show c + (T - c) = T by omega]
            rw [e1]; exact hh2
          have HS2 := Lib.hid hS2
          clear hS2 hh2 hb2'
          go_wp2_with fail
          obtain ⟨v, hv⟩ : ∃ v, hash k (bs.take T) = v := ⟨_, rfl⟩
          have HV := Lib.hid hv; clear hv
          have hgW : g < w2.heap.size := HS2.out.2.1.lt
          have hwW : w.heap.size ≤ w2.heap.size := HS2.out.2.2.size
          have c1 : ∀ (d : Nat) (os : Array Obj), Calls Tryd.prog 13 #[.pointer (some ⟨g, 0, none⟩)] (Sort.grow (redrawn w2 d) os) fun e w' => e = .returned (.int .u64 v) ∧ Below (Sort.grow (redrawn w2 d) os).heap.size (Sort.grow (redrawn w2 d) os) w' := fun d os =>
            hsum_any g k (bs.take T) v _ (HS2.out.2.1.below (below_regrown w2 d os) hgW) (hb.take _) HV.out
          have c2' : ∀ (d : Nat) (os : Array Obj), Calls Tryd.prog 10 #[.agg (k.map by8).toArray, .slice A T c] (Sort.grow (redrawn w2 d) os) fun e w' => e = .returned (.int .u64 v) ∧ Below (Sort.grow (redrawn w2 d) os).heap.size (Sort.grow (redrawn w2 d) os) w' := fun d os =>
            rsum_any w.heap.size T c A k (bs.take T) v _ HK.out hkb ((((hr.below' HS2.out.2.2 (Nat.le_refl _)).below' (below_regrown w2 d os) hwW)).take hTn) (hb.take _) (Nat.le_trans hwW (below_regrown w2 d os).size) (by omega) (by omega) HV.out
          have C1 := Lib.hid c1; have C2 := Lib.hid c2'
          clear c1 c2'
          have hT0 : (0 : Int) ≤ (T : Int) := by omega
          have hTc : (T : Int) ≤ (c : Int) := by omega
          refine wp_region_quiet_below (by kernel_rfl) (by kernel_rfl) ?_
          repeat (first
            | (refine quiet_load_arr 23 23 5 16 (.tmp 3) w.heap.size (k.map by8) rfl rfl rfl Tryd.underlying23 (key_info HK.out) (fun _ h => HS2.out.1.below (below_class h) HS2.out.1.lt) ?_)
            | go_big_quiet_step (first | (go_at_call 13; with_reducible exact Calls.regrown_of (C1.out _ _)) | (go_at_call 10; with_reducible exact Calls.regrown_of (C2.out _ _)))
            | quiet_step (first | (go_at_call 13; with_reducible exact Calls.regrown_of (C1.out _ _)) | (go_at_call 10; with_reducible exact Calls.regrown_of (C2.out _ _))))
          refine wpQuiet_nil ?_
          intro w7 hV
          have hB7 := below_class hV
          have HS7 : Hid (Hold w7 w.heap.size 23 (k.map by8) ∧ Has w7 g k (bs.take T) ∧ Below w.heap.size w w7) := Lib.hid ⟨HS2.out.1.below hB7 HS2.out.1.lt, HS2.out.2.1.below hB7 hgW, HS2.out.2.2.trans (hB7.mono hwW)⟩
          clear hV hB7 HS2 C1 C2
          go_wp2_with fail
          exact ⟨⟨T, I + 1, hTn, by omega, rfl, by go_num, fun h => absurd h (by omega), HS7.out⟩, by simp [intOf]; omega⟩
        · go_wp2_with fail
          clear hT
          refine (add_any g w.heap.size (T - t) (c - t) (A.map (·.add t)) k (bs.take t) ((bs.drop t).take (T - t)) _ HH1.out (by have := HM.out; rwa [if_neg (by assumption)] at this) ((hb.drop _).take _) (by omega) (by omega) (by omega)).mono ?_
          rintro e w2 ⟨rfl, hh2, hb2'⟩
          have hS2 : Hold w2 w.heap.size 23 (k.map by8) ∧ Has w2 g k (bs.take T) ∧ Below w.heap.size w w2 := by
            refine ⟨HK1.out.below hb2' hwg, ?_, HW1.out.trans (hb2'.mono (by omega))⟩
            have e1 : bs.take T = bs.take t ++ (bs.drop t).take (T - t) := by rw [← List.take_add, show t + (T - t) = T by omega]
            rw [e1]; exact hh2
          have HS2 := Lib.hid hS2
          clear hS2 hh2 hb2'
          go_wp2_with fail
          obtain ⟨v, hv⟩ : ∃ v, hash k (bs.take T) = v := ⟨_, rfl⟩
          have HV := Lib.hid hv; clear hv
          have hgW : g < w2.heap.size := HS2.out.2.1.lt
          have hwW : w.heap.size ≤ w2.heap.size := HS2.out.2.2.size
          have c1 : ∀ (d : Nat) (os : Array Obj), Calls Tryd.prog 13 #[.pointer (some ⟨g, 0, none⟩)] (Sort.grow (redrawn w2 d) os) fun e w' => e = .returned (.int .u64 v) ∧ Below (Sort.grow (redrawn w2 d) os).heap.size (Sort.grow (redrawn w2 d) os) w' := fun d os =>
            hsum_any g k (bs.take T) v _ (HS2.out.2.1.below (below_regrown w2 d os) hgW) (hb.take _) HV.out
          have c2' : ∀ (d : Nat) (os : Array Obj), Calls Tryd.prog 10 #[.agg (k.map by8).toArray, .slice A T c] (Sort.grow (redrawn w2 d) os) fun e w' => e = .returned (.int .u64 v) ∧ Below (Sort.grow (redrawn w2 d) os).heap.size (Sort.grow (redrawn w2 d) os) w' := fun d os =>
            rsum_any w.heap.size T c A k (bs.take T) v _ HK.out hkb ((((hr.below' HS2.out.2.2 (Nat.le_refl _)).below' (below_regrown w2 d os) hwW)).take hTn) (hb.take _) (Nat.le_trans hwW (below_regrown w2 d os).size) (by omega) (by omega) HV.out
          have C1 := Lib.hid c1; have C2 := Lib.hid c2'
          clear c1 c2'
          have hT0 : (0 : Int) ≤ (T : Int) := by omega
          have hTc : (T : Int) ≤ (c : Int) := by omega
          refine wp_region_quiet_below (by kernel_rfl) (by kernel_rfl) ?_
          repeat (first
            | (refine quiet_load_arr 23 23 5 16 (.tmp 3) w.heap.size (k.map by8) rfl rfl rfl Tryd.underlying23 (key_info HK.out) (fun _ h => HS2.out.1.below (below_class h) HS2.out.1.lt) ?_)
            | go_big_quiet_step (first | (go_at_call 13; with_reducible exact Calls.regrown_of (C1.out _ _)) | (go_at_call 10; with_reducible exact Calls.regrown_of (C2.out _ _)))
            | quiet_step (first | (go_at_call 13; with_reducible exact Calls.regrown_of (C1.out _ _)) | (go_at_call 10; with_reducible exact Calls.regrown_of (C2.out _ _))))
          refine wpQuiet_nil ?_
          intro w7 hV
          have hB7 := below_class hV
          have HS7 : Hid (Hold w7 w.heap.size 23 (k.map by8) ∧ Has w7 g k (bs.take T) ∧ Below w.heap.size w w7) := Lib.hid ⟨HS2.out.1.below hB7 HS2.out.1.lt, HS2.out.2.1.below hB7 hgW, HS2.out.2.2.trans (hB7.mono hwW)⟩
          clear hV hB7 HS2 C1 C2
          go_wp2_with fail
          exact ⟨⟨T, I + 1, hTn, by omega, rfl, by go_num, fun h => absurd h (by omega), HS7.out⟩, by simp [intOf]; omega⟩
      · have hIn : I = n2 := by omega
        have HE := Lib.hid hend; clear hend
        subst hIn
        have hTn : n ≤ n := Nat.le_refl _
        have HM := Lib.hid ((hr.below' HW1.out (Nat.le_refl _)).mid hc ht hTn)
        by_cases hct : c = t
        · subst hct
          go_wp2_with fail
          refine (add_any g w.heap.size 0 0 A k (bs.take c) [] _ HH1.out ⟨rfl, fun j z h => by simp at h⟩ (fun z hz => by cases hz) (by omega) (by omega) (by omega)).mono ?_
          rintro e w2 ⟨rfl, hh2, hb2'⟩
          have hS2 : Hold w2 w.heap.size 23 (k.map by8) ∧ Has w2 g k (bs.take n) ∧ Below w.heap.size w w2 := by
            refine ⟨HK1.out.below hb2' hwg, ?_, HW1.out.trans (hb2'.mono (by omega))⟩
            have e1 : bs.take n = bs.take c ++ [] := by rw [List.append_nil, show n = c by omega]
            rw [e1]; exact hh2
          have HS2 := Lib.hid hS2
          clear hS2 hh2 hb2'
          go_wp2_with fail
          obtain ⟨v, hv⟩ : ∃ v, hash k (bs.take n) = v := ⟨_, rfl⟩
          have HV := Lib.hid hv; clear hv
          have hgW : g < w2.heap.size := HS2.out.2.1.lt
          have hwW : w.heap.size ≤ w2.heap.size := HS2.out.2.2.size
          have c1 : ∀ (d : Nat) (os : Array Obj), Calls Tryd.prog 13 #[.pointer (some ⟨g, 0, none⟩)] (Sort.grow (redrawn w2 d) os) fun e w' => e = .returned (.int .u64 v) ∧ Below (Sort.grow (redrawn w2 d) os).heap.size (Sort.grow (redrawn w2 d) os) w' := fun d os =>
            hsum_any g k (bs.take n) v _ (HS2.out.2.1.below (below_regrown w2 d os) hgW) (hb.take _) HV.out
          have c2' : ∀ (d : Nat) (os : Array Obj), Calls Tryd.prog 10 #[.agg (k.map by8).toArray, .slice A n c] (Sort.grow (redrawn w2 d) os) fun e w' => e = .returned (.int .u64 v) ∧ Below (Sort.grow (redrawn w2 d) os).heap.size (Sort.grow (redrawn w2 d) os) w' := fun d os =>
            rsum_any w.heap.size n c A k (bs.take n) v _ HK.out hkb ((((hr.below' HS2.out.2.2 (Nat.le_refl _)).below' (below_regrown w2 d os) hwW)).take hTn) (hb.take _) (Nat.le_trans hwW (below_regrown w2 d os).size) (by omega) (by omega) HV.out
          have C1 := Lib.hid c1; have C2 := Lib.hid c2'
          clear c1 c2'
          have hT0 : (0 : Int) ≤ (n : Int) := by omega
          have hTc : (n : Int) ≤ (c : Int) := by omega
          refine wp_region_quiet_below (by kernel_rfl) (by kernel_rfl) ?_
          repeat (first
            | (refine quiet_load_arr 23 23 5 16 (.tmp 3) w.heap.size (k.map by8) rfl rfl rfl Tryd.underlying23 (key_info HK.out) (fun _ h => HS2.out.1.below (below_class h) HS2.out.1.lt) ?_)
            | go_big_quiet_step (first | (go_at_call 13; with_reducible exact Calls.regrown_of (C1.out _ _)) | (go_at_call 10; with_reducible exact Calls.regrown_of (C2.out _ _)))
            | quiet_step (first | (go_at_call 13; with_reducible exact Calls.regrown_of (C1.out _ _)) | (go_at_call 10; with_reducible exact Calls.regrown_of (C2.out _ _))))
          refine wpQuiet_nil ?_
          intro w7 hV
          have hB7 := below_class hV
          have HS7 : Hid (Hold w7 w.heap.size 23 (k.map by8) ∧ Has w7 g k (bs.take n) ∧ Below w.heap.size w w7) := Lib.hid ⟨HS2.out.1.below hB7 HS2.out.1.lt, HS2.out.2.1.below hB7 hgW, HS2.out.2.2.trans (hB7.mono hwW)⟩
          clear hV hB7 HS2 C1 C2
          go_wp2_with fail
          exact ⟨⟨n, I + 1, hTn, by omega, rfl, by go_num, fun _ => rfl, HS7.out⟩, by simp [intOf]⟩
        · go_wp2_with fail
          refine (add_any g w.heap.size (n - t) (c - t) (A.map (·.add t)) k (bs.take t) ((bs.drop t).take (n - t)) _ HH1.out (by have := HM.out; rwa [if_neg (by assumption)] at this) ((hb.drop _).take _) (by omega) (by omega) (by omega)).mono ?_
          rintro e w2 ⟨rfl, hh2, hb2'⟩
          have hS2 : Hold w2 w.heap.size 23 (k.map by8) ∧ Has w2 g k (bs.take n) ∧ Below w.heap.size w w2 := by
            refine ⟨HK1.out.below hb2' hwg, ?_, HW1.out.trans (hb2'.mono (by omega))⟩
            have e1 : bs.take n = bs.take t ++ (bs.drop t).take (n - t) := by rw [← List.take_add, show t + (n - t) = n by omega]
            rw [e1]; exact hh2
          have HS2 := Lib.hid hS2
          clear hS2 hh2 hb2'
          go_wp2_with fail
          obtain ⟨v, hv⟩ : ∃ v, hash k (bs.take n) = v := ⟨_, rfl⟩
          have HV := Lib.hid hv; clear hv
          have hgW : g < w2.heap.size := HS2.out.2.1.lt
          have hwW : w.heap.size ≤ w2.heap.size := HS2.out.2.2.size
          have c1 : ∀ (d : Nat) (os : Array Obj), Calls Tryd.prog 13 #[.pointer (some ⟨g, 0, none⟩)] (Sort.grow (redrawn w2 d) os) fun e w' => e = .returned (.int .u64 v) ∧ Below (Sort.grow (redrawn w2 d) os).heap.size (Sort.grow (redrawn w2 d) os) w' := fun d os =>
            hsum_any g k (bs.take n) v _ (HS2.out.2.1.below (below_regrown w2 d os) hgW) (hb.take _) HV.out
          have c2' : ∀ (d : Nat) (os : Array Obj), Calls Tryd.prog 10 #[.agg (k.map by8).toArray, .slice A n c] (Sort.grow (redrawn w2 d) os) fun e w' => e = .returned (.int .u64 v) ∧ Below (Sort.grow (redrawn w2 d) os).heap.size (Sort.grow (redrawn w2 d) os) w' := fun d os =>
            rsum_any w.heap.size n c A k (bs.take n) v _ HK.out hkb ((((hr.below' HS2.out.2.2 (Nat.le_refl _)).below' (below_regrown w2 d os) hwW)).take hTn) (hb.take _) (Nat.le_trans hwW (below_regrown w2 d os).size) (by omega) (by omega) HV.out
          have C1 := Lib.hid c1; have C2 := Lib.hid c2'
          clear c1 c2'
          have hT0 : (0 : Int) ≤ (n : Int) := by omega
          have hTc : (n : Int) ≤ (c : Int) := by omega
          refine wp_region_quiet_below (by kernel_rfl) (by kernel_rfl) ?_
          repeat (first
            | (refine quiet_load_arr 23 23 5 16 (.tmp 3) w.heap.size (k.map by8) rfl rfl rfl Tryd.underlying23 (key_info HK.out) (fun _ h => HS2.out.1.below (below_class h) HS2.out.1.lt) ?_)
            | go_big_quiet_step (first | (go_at_call 13; with_reducible exact Calls.regrown_of (C1.out _ _)) | (go_at_call 10; with_reducible exact Calls.regrown_of (C2.out _ _)))
            | quiet_step (first | (go_at_call 13; with_reducible exact Calls.regrown_of (C1.out _ _)) | (go_at_call 10; with_reducible exact Calls.regrown_of (C2.out _ _))))
          refine wpQuiet_nil ?_
          intro w7 hV
          have hB7 := below_class hV
          have HS7 : Hid (Hold w7 w.heap.size 23 (k.map by8) ∧ Has w7 g k (bs.take n) ∧ Below w.heap.size w w7) := Lib.hid ⟨HS2.out.1.below hB7 HS2.out.1.lt, HS2.out.2.1.below hB7 hgW, HS2.out.2.2.trans (hB7.mono hwW)⟩
          clear hV hB7 HS2 C1 C2
          go_wp2_with fail
          exact ⟨⟨n, I + 1, hTn, by omega, rfl, by go_num, fun _ => rfl, HS7.out⟩, by simp [intOf]⟩
    · have hIe : I = n2 + 1 := by omega
      have htn := hend hIe
      subst htn
      have HIE := Lib.hid hIe; clear hIe hend
      have hIi : decide ((I : Int) ≤ (n2 : Int)) = false := by apply decide_eq_false; have := HIE.out; omega
      have hH1 : Has wr g k bs := by have := HH1.out; rwa [List.take_of_length_le (by have := HL.out; omega)] at this
      have HH := Lib.hid hH1; clear hH1 HH1
      have hgW : g < wr.heap.size := HH.out.lt
      have hwW : w.heap.size ≤ wr.heap.size := HW1.out.size
      obtain ⟨v, hv⟩ : ∃ v, hash k bs = v := ⟨_, rfl⟩
      have HV := Lib.hid hv; clear hv
      have c1 : ∀ (d : Nat) (os : Array Obj), Calls Tryd.prog 13 #[.pointer (some ⟨g, 0, none⟩)] (Sort.grow (redrawn wr d) os) fun e w' => e = .returned (.int .u64 v) ∧ Below (Sort.grow (redrawn wr d) os).heap.size (Sort.grow (redrawn wr d) os) w' := fun d os =>
        hsum_any g k bs v _ (HH.out.below (below_regrown wr d os) hgW) hb HV.out
      have c2' : ∀ (d : Nat) (os : Array Obj), Calls Tryd.prog 9 #[.agg (k.map by8).toArray, .slice A t c] (Sort.grow (redrawn wr d) os) fun e w' => e = .returned (.int .u64 v) ∧ Below (Sort.grow (redrawn wr d) os).heap.size (Sort.grow (redrawn wr d) os) w' := fun d os =>
        sum_any w.heap.size t c A k bs v _ HK.out hkb ((hr.below' HW1.out (Nat.le_refl _)).below' (below_regrown wr d os) hwW) hb (Nat.le_trans hwW (below_regrown wr d os).size) hc (by omega) HV.out
      have C1 := Lib.hid c1; have C2 := Lib.hid c2'
      clear c1 c2'
      go_wp2_with fail
      refine wp_region_quiet_below (by kernel_rfl) (by kernel_rfl) ?_
      repeat (first
        | (refine quiet_load_arr 23 23 5 16 (.tmp 3) w.heap.size (k.map by8) rfl rfl rfl Tryd.underlying23 (key_info HK.out) (fun _ h => HK1.out.below (below_class h) HK1.out.lt) ?_)
        | go_big_quiet_step (first | (go_at_call 13; with_reducible exact Calls.regrown_of (C1.out _ _)) | (go_at_call 9; with_reducible exact Calls.regrown_of (C2.out _ _)) | (go_at_call 8; with_reducible exact Calls.regrown_of (works_any _)))
        | quiet_step (first | (go_at_call 13; with_reducible exact Calls.regrown_of (C1.out _ _)) | (go_at_call 9; with_reducible exact Calls.regrown_of (C2.out _ _)) | (go_at_call 8; with_reducible exact Calls.regrown_of (works_any _))))
      refine wpQuiet_nil ?_
      intro w7 hV
      have hB7 := below_class hV
      have HB7 := Lib.hid (HW1.out.trans (hB7.mono hwW))
      clear hV hB7
      go_wp2_with fail
      go_ret
      exact ⟨rfl, HB7.out⟩

theorem sipPieces_any (n c n2 c2 : Nat) (A A2 : Option Addr) (k bs cs : List Int) (w : World) (hk : k.length = 16) (hkb : Bytes k) (hr : Row w w.heap.size A n bs) (hb : Bytes bs) (hc : n ≤ c) (hn : n ≤ 9223372036854775807)
    (hr2 : Row w w.heap.size A2 n2 cs) (hb2 : Bytes cs) (hc2 : n2 ≤ c2) (hn2 : n2 ≤ 9223372036854775807) :
    Calls Tryd.prog 4 #[kval k, .slice A n c, .slice A2 n2 c2] w fun e w' => e = .returned (.bool true) ∧ Below w.heap.size w w' := by
  by_cases h1 : n ≤ 1000
  · by_cases h2 : n2 ≤ 60
    · exact sipPieces_main n c n2 c2 A A2 k bs cs w hk hkb hr hb hc h1 hr2 hb2 hc2 h2
    · have hd1 : decide ((1000 : Int) < (n : Int)) = false := by apply decide_eq_false; omega
      have hd2 : decide ((60 : Int) < (n2 : Int)) = true := by apply decide_eq_true; omega
      have hgt : 60 < n2 := by omega
      clear hr hr2 hb hb2
      unfold kval
      go_enter Tryd.func4, Tryd.ntmps4
      go_wp2_with fail
      refine (works_any _).mono ?_
      rintro e w5 ⟨rfl, hb5⟩
      have HB5 := Lib.hid (((Below.refl _ _).alloc (Nat.le_refl _) _).trans (hb5.mono (by simp)))
      clear hb5
      go_wp2_with fail
      go_ret
      exact ⟨rfl, HB5.out⟩
  · have hd1 : decide ((1000 : Int) < (n : Int)) = true := by apply decide_eq_true; omega
    have hgt : 1000 < n := by omega
    clear hr hr2 hb hb2
    unfold kval
    go_enter Tryd.func4, Tryd.ntmps4
    go_wp2_with fail
    refine (works_any _).mono ?_
    rintro e w5 ⟨rfl, hb5⟩
    have HB5 := Lib.hid (((Below.refl _ _).alloc (Nat.le_refl _) _).trans (hb5.mono (by simp)))
    clear hb5
    go_wp2_with fail
    go_ret
    exact ⟨rfl, HB5.out⟩
end Go.Proofs.YtgdpgpmkokjdjaaDoor.Sp
