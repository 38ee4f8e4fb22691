/-
  The document's own text of a span.
-/
import Derived.Test.YtcllimfaoajapaaDoorTsBackPlain
import Derived.Test.YtcllimfaoajapaaDoorTsRefPart
import Derived.Test.YtcllimfaoajapaaDoorTsIs
namespace Go.Proofs.YtcllimfaoajapaaDoor.Ts
open Go.RowKit

set_option maxHeartbeats 400000 in
theorem rtext_below (n : Int) (w : World) (h : n < 0) :
    Calls Tryd.prog 13 #[.int .i64 n] w fun e w' => e = .returned (.string ⟨#[]⟩) ∧ Below w.heap.size w w' := by
  go_enter Tryd.func13, Tryd.ntmps13
  go_wp2
  go_ret
  exact ⟨rfl, Below.refl _ _⟩
set_option maxHeartbeats 400000 in
theorem rtext_zero (w : World) :
    Calls Tryd.prog 13 #[.int .i64 0] w fun e w' => e = .returned (.string ⟨#[48]⟩) ∧ Below w.heap.size w w' := by
  go_enter Tryd.func13, Tryd.ntmps13
  go_wp2
  go_ret
  exact ⟨rfl, Below.refl _ _⟩
set_option maxHeartbeats 400000 in
theorem rtext_never (w : World) :
    Calls Tryd.prog 13 #[.int .i64 9223372036854775807] w fun e w' => e = .returned (.string ⟨#[105, 110, 102, 105, 110, 105, 116, 121]⟩) ∧ Below w.heap.size w w' := by
  go_enter Tryd.func13, Tryd.ntmps13
  go_wp2
  go_ret
  exact ⟨rfl, Below.refl _ _⟩

/-- The names of the units, as they lie. -/
def nameCells : Array Value := #[.string ⟨#[100]⟩, .string ⟨#[104]⟩, .string ⟨#[109, 105, 110]⟩, .string ⟨#[115]⟩, .string ⟨#[109, 115]⟩, .string ⟨#[117, 115]⟩]
theorem name_cell (k : Nat) (hk : k < 6) : nameCells[k]? = some (.string ⟨(uName k).toArray⟩) := by
  match k, hk with
  | 0, _ => rfl
  | 1, _ => rfl
  | 2, _ => rfl
  | 3, _ => rfl
  | 4, _ => rfl
  | 5, _ => rfl
theorem r_name (k : Nat) (nm : ByteArray) (w : World) (h : nm.data.toList = uName k) : Calls Tryd.prog 21 #[.string nm] w fun e w' => e = .returned (.int .i64 (uSize k : Int)) ∧ w = w' := by
  refine r_at nm (uSize k) w ?_
  rw [h]; exact (uName_ok k).2.2.2.2.2.1
/-- What is left of a number whose digits are being told, and what has been told. -/
def Dig (q x : Nat) (t : List UInt8) : Prop := (0 < x ∧ Lib.decDigits x ++ t = Lib.decDigits q) ∨ (x = 0 ∧ t = Lib.decDigits q)
theorem Dig.step {q x : Nat} {t : List UInt8} (h : Dig q x t) (hx : 0 < x) : Dig q (x / 10) (UInt8.ofNat (48 + x % 10) :: t) := by
  rcases h with ⟨_, h⟩ | ⟨h, _⟩
  · by_cases hs : x < 10
    · refine .inr ⟨by omega, ?_⟩
      rw [dd_small hs] at h
      rw [← h, Nat.mod_eq_of_lt hs]; rfl
    · refine .inl ⟨by omega, ?_⟩
      rw [dd_great hs] at h
      rw [← h]; simp
  · omega
theorem Dig.len {q x : Nat} {t : List UInt8} (h : Dig q x t) : t.length ≤ (Lib.decDigits q).length := by
  rcases h with ⟨_, h⟩ | ⟨_, h⟩
  · rw [← h]; simp
  · rw [h]; exact Nat.le_refl _
theorem piece (d : Nat) (h : d < 10) : (⟨#[48, 49, 50, 51, 52, 53, 54, 55, 56, 57]⟩ : ByteArray).extract d (d + 1) = ⟨#[UInt8.ofNat (48 + d)]⟩ := by
  match d, h with
  | 0, _ => rfl
  | 1, _ => rfl
  | 2, _ => rfl
  | 3, _ => rfl
  | 4, _ => rfl
  | 5, _ => rfl
  | 6, _ => rfl
  | 7, _ => rfl
  | 8, _ => rfl
  | 9, _ => rfl

set_option maxRecDepth 100000 in
set_option maxHeartbeats 3200000 in
theorem rtext_parts (n : Nat) (w : World) (h0 : 1 ≤ n) (h1 : n ≤ 9223372036854775806) (hz : ((n : Int) == 0) = false) (hi : ((n : Int) == 9223372036854775807) = false) (hl : decide ((n : Int) < 0) = false) :
    Calls Tryd.prog 13 #[.int .i64 (n : Int)] w fun e w' => e = .returned (.string ⟨(textOf n).toArray⟩) ∧ Below w.heap.size w w' := by
  go_enter Tryd.func13, Tryd.ntmps13
  go_wp2
  have hcell : ∀ k, k < 6 → (w.alloc (.cells nameCells 9)).cell? ⟨w.heap.size, k, none⟩ = some (.string ⟨(uName k).toArray⟩) := fun k hk => by
    rw [← name_cell k hk]; simp [go_sem]
  have hbel := (Below.refl w.heap.size w).alloc (Nat.le_refl _) (.cells nameCells 9)
  generalize hW : w.alloc (.cells nameCells 9) = W at hcell hbel
  have hW' := hW
  unfold nameCells at hW'
  rw [hW']
  have HC := Lib.hid hcell
  have HB := Lib.hid hbel
  clear hW hW' hcell hbel
  go_loop [0, 3, 16] (fun x o i => ∃ (k : Nat) (ot : ByteArray), k ≤ 6 ∧ x = .int .i64 (tRem n k : Nat) ∧ i = .int .i64 (k : Int) ∧ o = .string ot ∧ ot.data.toList = Lib.join (tParts n k) [32]) (fun _ _ i => 6 - (intOf i).toNat)
  case atStart => exact ⟨0, ⟨#[]⟩, by omega, rfl, rfl, rfl, rfl⟩
  case round =>
    obtain ⟨k, ot, hk, rfl, rfl, rfl, hot⟩ := hrel
    by_cases hlt : k < 6
    · have hd6 : decide ((k : Int) < 6) = true := decide_eq_true (by omega)
      have hc := HC.out k hlt
      have hpos := uSize_pos k
      have hle := uSize_le k
      have hrem := tRem_le n k
      have hNext : tRem n (k + 1) = tRem n k % uSize k := rfl
      have HNext := Lib.hid hNext
      have HOT := Lib.hid hot
      generalize hnm : (⟨(uName k).toArray⟩ : ByteArray) = nm at hc
      have HNM := Lib.hid (show nm.data.toList = uName k by rw [← hnm])
      clear hNext hot hnm
      have hup : 0 < (uSize k : Int) := by omega
      have huz : ((uSize k : Int) == 0) = false := by rw [beq_eq_false_iff_ne]; omega
      by_cases hq : 0 < tRem n k / uSize k
      · have HYes := Lib.hid (tParts_yes hq)
        have hjl := join_len [32] 22 (tParts n k) (tParts_each n (by omega) k)
        have htl := tParts_len n k
        have hos : ot.size ≤ 138 := by
          rw [size_of, HOT.out]
          simp only [List.length_cons, List.length_nil] at hjl
          omega
        have hpl := tPart_len n k (by omega)
        have HPart := Lib.hid (show tPart n k = Lib.decDigits (tRem n k / uSize k) ++ uName k from rfl)
        have hqb : tRem n k / uSize k ≤ 9223372036854775807 := Nat.le_trans (Nat.div_le_self _ _) (by omega)
        have hqi : ((tRem n k : Nat) : Int) / (uSize k : Int) = ((tRem n k / uSize k : Nat) : Int) := by simp
        have HQ0 := Lib.hid (rfl : tRem n k / uSize k = tRem n k / uSize k)
        generalize hqq : tRem n k / uSize k = q at hq hqi hqb HPart HQ0
        generalize tRem n k = x at *
        generalize hus : uSize k = u at *
        have HUS := Lib.hid hus
        have hqz : ((q : Int) == 0) = false := by rw [beq_eq_false_iff_ne]; omega
        clear hus hqq HQ0 hjl htl
        have HDL := Lib.hid (show (Lib.decDigits q).length ≤ 22 by have := hpl; rw [HPart.out, List.length_append] at this; omega)
        have HNL := Lib.hid (show nm.size ≤ 22 by rw [size_of, HNM.out]; have := hpl; rw [HPart.out, List.length_append] at this; omega)
        clear hpl
        go_wp2_with fail
        refine (r_name k nm _ HNM.out).mono ?_
        rw [HUS.out]
        rintro e w' ⟨rfl, rfl⟩
        go_wp2_with fail
        refine (r_name k nm _ HNM.out).mono ?_
        rw [HUS.out]
        rintro e w' ⟨rfl, rfl⟩
        go_upto_if 31 with (fail)
        go_cut [3] (fun o wx => (∃ o2 : ByteArray, o = .string o2 ∧ o2.size ≤ 139 ∧ o2.data.toList = if tParts n k = [] then [] else Lib.join (tParts n k) [32] ++ [32]) ∧ W = wx)
        case first =>
          by_cases hpe : tParts n k = []
          · have hot0 : ot = ⟨#[]⟩ := mk_of ot [] (by rw [HOT.out, hpe]; rfl)
            have HPE := Lib.hid hpe
            have hie2 : (!ot.toList.isEmpty) = false := by rw [hot0, Lib.toList_data]; rfl
            rw [hie2]
            clear hie2
            subst hot0
            clear hpe
            go_wp2
            go_meet
            exact ⟨⟨⟨#[]⟩, rfl, by decide, by rw [if_pos HPE.out]⟩, rfl⟩
          · have hotn : ot.data.toList ≠ [] := by
              intro e
              have := HOT.out; rw [e] at this
              rcases tells_parts n k with ⟨g, _⟩ | ⟨_, m, _, g⟩
              · exact hpe g
              · obtain ⟨d, Y, hd, _⟩ := g.head; rw [← this] at hd; cases hd
            have hie : ot.toList.isEmpty = false := not_empty rfl hotn
            have hie2 : (!ot.toList.isEmpty) = true := by rw [hie]; rfl
            have s1 : ot.size + (⟨#[32]⟩ : ByteArray).size ≤ 9223372036854775807 := by show ot.size + 1 ≤ _; omega
            have HPE := Lib.hid hpe
            rw [hie2]
            clear hpe hotn hie hie2
            go_wp2
            go_meet
            exact ⟨⟨ot ++ ⟨#[32]⟩, rfl, by rw [ByteArray.size_append]; show ot.size + 1 ≤ _; omega, by rw [if_neg HPE.out, ← HOT.out]; simp⟩, rfl⟩
        case rest =>
          obtain ⟨⟨o2, rfl, hs2, ho2⟩, rfl⟩ := hcut
          have HO2 := Lib.hid ho2
          clear ho2
          go_wp2
          go_loop [6, 7] (fun a b => ∃ (y : Nat) (ts : ByteArray), y ≤ 9223372036854775807 ∧ a = .int .i64 (y : Int) ∧ b = .string ts ∧ Dig q y ts.data.toList) (fun a _ => (intOf a).toNat)
          case atStart => exact ⟨q, ⟨#[]⟩, hqb, rfl, rfl, .inl ⟨hq, by simp⟩⟩
          case round =>
            obtain ⟨y, ts, hy, rfl, rfl, hdig⟩ := hrel
            have htl := hdig.len
            have htl2 : ts.size ≤ 22 := by rw [size_of]; exact Nat.le_trans htl HDL.out
            have HDG := Lib.hid hdig
            clear hdig htl
            by_cases hy0 : 0 < y
            · have HSTEP := Lib.hid (HDG.out.step hy0)
              have hd10 : y % 10 < 10 := Nat.mod_lt _ (by omega)
              have hyi : (y : Int) % 10 = ((y % 10 : Nat) : Int) := by simp
              generalize y % 10 = d at hd10 hyi HSTEP
              have HP := Lib.hid (piece d hd10)
              have HPS := Lib.hid (show ((⟨#[48, 49, 50, 51, 52, 53, 54, 55, 56, 57]⟩ : ByteArray).extract d (d + 1)).size = 1 by rw [HP.out]; rfl)
              have s1 : ((⟨#[48, 49, 50, 51, 52, 53, 54, 55, 56, 57]⟩ : ByteArray).extract d (d + 1)).size + ts.size ≤ 9223372036854775807 := by rw [HPS.out]; omega
              go_wp2
              go_round
              case rel => exact ⟨y / 10, _, by omega, by simp, rfl, by rw [HP.out]; simpa using HSTEP.out⟩
              case measure => simp [intOf]; omega
            · obtain rfl : y = 0 := by omega
              have HTS := Lib.hid (show ts.data.toList = Lib.decDigits q by rcases HDG.out with ⟨g, _⟩ | ⟨_, g⟩; omega; exact g)
              have s1 : o2.size + ts.size ≤ 9223372036854775807 := by omega
              have hnm22 := HNL.out
              have s2 : (o2 ++ ts).size + nm.size ≤ 9223372036854775807 := by rw [ByteArray.size_append]; omega
              have HNEW := Lib.hid (show (o2 ++ ts ++ nm).data.toList = Lib.join (tParts n (k + 1)) [32] by
                rw [HYes.out]
                have e : (o2 ++ ts ++ nm).data.toList = o2.data.toList ++ (Lib.decDigits q ++ uName k) := by rw [← HTS.out, ← HNM.out]; simp
                rw [e, HO2.out, ← HPart.out]
                by_cases hpe : tParts n k = []
                · rw [if_pos hpe, hpe]; show _ = Lib.join [tPart n k] [32]; rw [Lib.join_one]; rfl
                · rw [if_neg hpe, join_snoc _ _ hpe]; simp)
              go_wp2
              go_round
              case rel => exact ⟨k + 1, o2 ++ ts ++ nm, by omega, by rw [HNext.out]; simp, by go_num, rfl, HNEW.out⟩
              case measure => simp [intOf]; omega
      · have HNo := Lib.hid (tParts_no hq)
        have hqe : ((tRem n k : Nat) : Int) / (uSize k : Int) = 0 := by
          have : ((tRem n k : Nat) : Int) / (uSize k : Int) = ((tRem n k / uSize k : Nat) : Int) := by simp
          rw [this, Nat.eq_zero_of_not_pos hq]; rfl
        generalize tRem n k = x at *
        generalize hus : uSize k = u at *
        have HUS := Lib.hid hus
        clear hus hq
        go_wp2_with fail
        refine (r_name k nm _ HNM.out).mono ?_
        rw [HUS.out]
        rintro e w' ⟨rfl, rfl⟩
        go_wp2_with fail
        refine (r_name k nm _ HNM.out).mono ?_
        rw [HUS.out]
        rintro e w' ⟨rfl, rfl⟩
        go_wp2
        go_round
        case rel => exact ⟨k + 1, ot, by omega, by rw [HNext.out]; simp, by go_num, rfl, by rw [HNo.out]; exact HOT.out⟩
        case measure => simp [intOf]; omega
    · obtain rfl : k = 6 := by omega
      have HE := Lib.hid (mk_of ot _ hot)
      clear hot
      go_wp2
      go_ret
      exact ⟨by rw [HE.out]; rfl, HB.out⟩
/-- The document's text, of any number. -/
theorem rtext_any (n : Int) (w : World) (hn : n ≤ 9223372036854775807) :
    Calls Tryd.prog 13 #[.int .i64 n] w fun e w' => e = .returned (.string ⟨(textL n).toArray⟩) ∧ Below w.heap.size w w' := by
  unfold textL
  by_cases h1 : n < 0
  · rw [if_pos h1]; exact rtext_below n w h1
  · rw [if_neg h1]
    by_cases h2 : n = 0
    · rw [if_pos h2]; subst h2; exact rtext_zero w
    · rw [if_neg h2]
      by_cases h3 : n = 9223372036854775807
      · rw [if_pos h3]; subst h3; exact rtext_never w
      · rw [if_neg h3]
        obtain ⟨m, rfl⟩ : ∃ m : Nat, n = (m : Int) := ⟨n.toNat, by omega⟩
        exact rtext_parts m w (by omega) (by omega) (by rw [beq_eq_false_iff_ne]; omega) (by rw [beq_eq_false_iff_ne]; omega) (decide_eq_false h1)
end Go.Proofs.YtcllimfaoajapaaDoor.Ts
