/-
  Layer 12 (words): the law WordsBack, walked.
-/
import Derived.Test.YtffmchbcpihjhaaWdRjoin
import Derived.Test.YtffmchbcpihjhaaWordsSplitWalk
namespace Go.Proofs.Ytffmchbcpihjhaa.Wd
open Go.RowKit
set_option maxRecDepth 100000

/-- What has been copied, so far. -/
structure Cp (V : World) (os : List (List UInt8)) (k : Nat) (u : Value) (W : World) : Prop where
  own : OwnR W V.heap.size 9 1 u ((os.take k).map cellT)
  bel : Below V.heap.size V W
  sml : ∀ o ∈ os.take k, o.length ≤ 100
set_option maxHeartbeats 8000000 in
theorem wordsBack_any (A : Option Addr) (n c : Nat) (os : List (List UInt8)) (w : World) (hl : os.length = n) (hs : StrRow w A os) : Calls Try.prog 4 #[.slice A n c] w fun e w' => e = .returned (.bool true) ∧ Below w.heap.size w w' := by
  have HWK : Hid (∀ V, Below w.heap.size w V → Calls Try.prog 9 #[] V fun e w' => e = .returned (.bool true) ∧ Below w.heap.size w w') := Lib.hid fun V h => works_then h
  have HS := Lib.hid hs
  have HL := Lib.hid hl
  clear hs hl
  rcases Nat.lt_or_ge 64 n with h | h
  · have h1 : (64 : Int) < (n : Int) := by omega
    clear h
    go_enter Try.func4, Try.ntmps4
    go_wp2_with (first
      | (go_at_call 9; refine (HWK.out _ (Below.refl _ _)).mono ?_; clear HWK; rintro e V ⟨rfl, hb⟩; have HB := Lib.hid hb; clear hb)
      | fail)
    go_ret
    exact ⟨rfl, HB.out⟩
  · have h1 : ¬ (64 : Int) < (n : Int) := by omega
    have hnb : (n : Int) ≤ 64 := by omega
    have HN : Hid (n ≤ 64) := Lib.hid h
    clear h
    go_enter Try.func4, Try.ntmps4
    go_wp2_with fail
    go_loopw [3, 4] (fun u i wr => ∃ k : Nat, k ≤ n ∧ i = .int .i64 k ∧ Cp w os k u wr) (fun _ i _ => n - (intOf i).toNat)
    case atStart => exact ⟨0, Nat.zero_le _, rfl, OwnR.nil _ _ _ _, Below.refl _ _, fun o ho => by simp at ho⟩
    case round =>
      obtain ⟨k, hk, rfl, hcp⟩ := hrel
      obtain ⟨p, cp, hu⟩ := own_slice hcp.own
      rw [List.length_map, List.length_take] at hu
      obtain ⟨z, hz⟩ : ∃ z, min k os.length = z := ⟨_, rfl⟩
      rw [hz] at hu
      have HZ : Hid (z = k) := Lib.hid (by have := HL.out; omega)
      subst hu
      have HCP := Lib.hid hcp
      have HBW := Lib.hid hcp.bel
      clear hz
      by_cases hlt : k < n
      · obtain ⟨x, hx⟩ : ∃ x, os[k]? = some x := ⟨_, List.getElem?_eq_getElem (by have := HL.out; omega)⟩
        obtain ⟨a, e1, _, a1⟩ := (HS.out.keep hcp.bel) k x hx
        subst e1
        clear hcp
        by_cases hx1 : x.length ≤ 100
        · have h2 : ¬ (100 : Int) < ((bs x).size : Int) := by have : (bs x).size = x.length := rfl; omega
          have HPU : Hid (∀ v' w' o, OwnR w' w.heap.size 9 1 v' ((os.take k).map cellT ++ [cellT x]) → (wr.alloc o).grownBy w' (Value.ownBlock (.slice p z cp)) → Cp w os (k + 1) v' w') := Lib.hid fun v' w' o hown hgr => by
            have h := HCP.out
            have e : os.take (k + 1) = os.take k ++ [x] := by rw [List.take_add_one, hx]; rfl
            refine ⟨by rw [e, List.map_append]; exact hown, h.bel.trans (own_below h.own h.bel.size o hgr), fun o ho => ?_⟩
            rw [e] at ho
            rcases List.mem_append.1 ho with ho | ho
            · exact h.sml o ho
            · rw [List.mem_singleton.1 ho]; exact hx1
          have HOW := Lib.hid HCP.out.own
          have HUP : Hid ((os.take k).length ≤ 64) := Lib.hid (by rw [List.length_take]; have := HN.out; omega)
          have HXB : Hid (cellT x = [.string (bs x)]) := Lib.hid rfl
          clear hx
          obtain ⟨X, hX⟩ : ∃ X, bs x = X := ⟨_, rfl⟩
          rw [hX] at a1 h2 HXB
          clear hX
          go_wp2_with (first
            | (at_builtin; refine plain_append_one (.tmp 25) (.tmp 30) rfl 23 9 1 16 _ rfl Try.underlying23 str_info rfl (by decide) (by decide) w.heap.size _ _ [.string X] ⟨wr.heap.size, 0, none⟩ 1 rfl rfl (HOW.out.alloc _) rfl (new_cells wr _ rfl _ _) (by simp [Value.oneCell']) (by rw [List.length_map]; have := HUP.out; omega) (by have := HBW.out.size; simp; omega) ?_; intro v' w' hown hgr hat; have K3 := Lib.hid (HPU.out _ _ _ (by rw [HXB.out]; exact hown) hgr); clear hown hgr hat)
            | fail)
          go_roundw
          case rel => exact ⟨k + 1, by omega, by go_num, K3.out⟩
          case measure => exact meas _ _ _ (by go_num) hlt
        · have h2 : (100 : Int) < ((bs x).size : Int) := by have : (bs x).size = x.length := rfl; omega
          clear hx hx1
          generalize bs x = X at *
          go_wp2_with (first
            | (go_at_call 9; refine (HWK.out _ HBW.out).mono ?_; clear HWK; rintro e V ⟨rfl, hb⟩; have HB := Lib.hid hb; clear hb)
            | fail)
          go_ret
          exact ⟨rfl, HB.out⟩
      · obtain rfl : k = n := by omega
        have hkk : ¬ (k : Int) < (k : Int) := by omega
        have hos : os.take k = os := List.take_of_length_le (by have := HL.out; omega)
        have hsm := hcp.sml
        have how := hcp.own
        rw [hos] at hsm how
        have HSM := Lib.hid hsm
        have HSW := Lib.hid (own_str2 how)
        have HSA := Lib.hid (HS.out.keep hcp.bel)
        have HJL : Hid ((joinL os).length ≤ 1000000) := Lib.hid (by
          have := jt_len os 100 hsm k
          rw [hos, jt_all] at this
          have : k * (4 * 100 + 3) ≤ 64 * (4 * 100 + 3) := Nat.mul_le_mul_right _ HN.out
          omega)
        obtain ⟨S, hS⟩ : ∃ S, bs (joinL os) = S := ⟨_, rfl⟩
        have HJ1 : Hid (Calls Try.prog 13 #[.slice A k c] wr fun e V' => e = .returned (.string S) ∧ Below wr.heap.size wr V') := Lib.hid (by
          have := join_any A c os (by have := HL.out; have := HN.out; omega) (fun o ho => by have := hsm o ho; omega) wr HSA.out
          rw [HL.out, hS] at this; exact this)
        have HJ2 : Hid (∀ B d V, StrRow V B os → Calls Try.prog 14 #[.slice B k d] V fun e V' => e = .returned (.string S) ∧ Below V.heap.size V V') := Lib.hid fun B d V hB => by
          have := rjoin_any B d os (by have := HL.out; have := HN.out; omega) (fun o ho => by have := hsm o ho; omega) V hB
          rw [HL.out, hS] at this; exact this
        have HSP : Hid (∀ V, Calls Try.prog 10 #[.string S] V fun e V' => ∃ B d, e = .returned (.tuple #[.slice B k d, .int .i64 0]) ∧ StrRow V' B os ∧ Below V.heap.size V V') := Lib.hid fun V => by
          rw [← hS]
          have := split_yes (joinL os) os HJL.out (join_back os) (by have := HL.out; have := HN.out; omega) V
          rw [HL.out] at this; exact this
        have HSA2 : Hid (∀ B D c d V, StrRow V B os → StrRow V D os → Calls Try.prog 12 #[.slice B k c, .slice D k d] V fun e V' => e = .returned (.bool true) ∧ Below V.heap.size V V') := Lib.hid fun B D c d V hB hD => by
          have := same_any B D c d os os V hB hD (by have := HL.out; have := HN.out; omega)
          rw [HL.out] at this
          exact this.mono fun e V' ⟨he, hb⟩ => ⟨by rw [he, decide_eq_true rfl], hb⟩
        obtain rfl : z = k := HZ.out
        clear hcp hsm how hos hS
        go_wp2_with (first
          | (go_at_call 13; refine (HJ1.out).mono ?_; clear HJ1; rintro e V1 ⟨rfl, hb⟩; have HA1 := Lib.hid (HSA.out.keep hb); have HW1 := Lib.hid (HSW.out.keep hb); have HB1 := Lib.hid (HBW.out.trans (hb.mono HBW.out.size)); clear hb)
          | (go_at_call 10; refine (HSP.out _).mono ?_; clear HSP; rintro e V2 ⟨B2, d2, rfl, hr, hb⟩; have HM2 := Lib.hid hr; have HA2 := Lib.hid (HA1.out.keep hb); have HW2 := Lib.hid (HW1.out.keep hb); have HB2 := Lib.hid (HB1.out.trans (hb.mono HB1.out.size)); clear hr hb)
          | (go_at_call 14; refine (HJ2.out _ _ _ HW2.out).mono ?_; clear HJ2; rintro e V3 ⟨rfl, hb⟩; have HM3 := Lib.hid (HM2.out.keep hb); have HA3 := Lib.hid (HA2.out.keep hb); have HW3 := Lib.hid (HW2.out.keep hb); have HB3 := Lib.hid (HB2.out.trans (hb.mono HB2.out.size)); clear hb)
          | (go_at_call 12; refine (HSA2.out _ _ _ _ _ HA3.out HW3.out).mono ?_; rintro e V4 ⟨rfl, hb⟩; have HM4 := Lib.hid (HM3.out.keep hb); have HW4 := Lib.hid (HW3.out.keep hb); have HB4 := Lib.hid (HB3.out.trans (hb.mono HB3.out.size)); clear hb HA3)
          | (go_at_call 12; refine (HSA2.out _ _ _ _ _ HM4.out HW4.out).mono ?_; rintro e V5 ⟨rfl, hb⟩; have HB5 := Lib.hid (HB4.out.trans (hb.mono HB4.out.size)); clear hb)
          | (go_at_call 9; refine (HWK.out _ HB5.out).mono ?_; clear HWK; rintro e V ⟨rfl, hb⟩; have HB := Lib.hid hb; clear hb)
          | fail)
        go_ret
        exact ⟨rfl, HB.out⟩
end Go.Proofs.Ytffmchbcpihjhaa.Wd
