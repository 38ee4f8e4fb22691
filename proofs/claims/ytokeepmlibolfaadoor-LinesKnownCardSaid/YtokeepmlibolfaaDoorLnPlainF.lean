/-
  Layer 11 (lines): a text without ends of lines and backslashes.
-/
import Derived.Test.YtokeepmlibolfaaDoorLnLit
import Derived.Test.YtokeepmlibolfaaDoorLnJoin
namespace Go.Proofs.YtokeepmlibolfaaDoor.Ln
open Go.RowKit
set_option maxRecDepth 100000

def okc (b : UInt8) : Bool := b != 10 && (b != 13 && b != 92)
def plainL (l : List UInt8) : List UInt8 := l.filter okc
theorem plain_pl (l : List UInt8) : Pl (plainL l) := by
  unfold Pl plainL
  simp [List.mem_filter, okc]
theorem plain_len (l : List UInt8) : (plainL l).length ≤ l.length := List.length_filter_le _ _
theorem take_at {l : List UInt8} {k : Nat} (hk : k < l.length) : plainL (l.take (k + 1)) = plainL (l.take k) ++ (if okc (l.getD k 0) then [l.getD k 0] else []) := by
  unfold plainL
  rw [List.take_add_one, List.filter_append, List.getElem?_eq_getElem hk, List.getD_eq_getElem?_getD, List.getElem?_eq_getElem hk]
  congr 1
  show List.filter okc [l[k]] = _
  rw [List.filter_cons, List.filter_nil]
  rfl
theorem add_bs (a b c : List UInt8) (hc : a ++ b = c) (h : c.length ≤ 1000000) (W : World) : (Op.stringOp .add (bs a) (bs b)).run Tryd.prog W = .ok (.string (bs c)) W := by
  subst hc
  rw [run_string_add_sum W (bs a) (bs b) (by rw [bs_size, bs_size]; rw [List.length_append] at h; omega)]
  have e : bs a ++ bs b = bs (a ++ b) := by
    rw [← bs_of (bs a ++ bs b)]
    congr 1
  rw [e]
theorem u8_eq (b : UInt8) (c : Nat) (hc : c < 256) : ((b.toNat : Int) == (c : Int)) = (b == UInt8.ofNat c) := by
  have h : (UInt8.ofNat c).toNat = c := by rw [UInt8.toNat_ofNat']; omega
  by_cases e : b = UInt8.ofNat c
  · subst e
    rw [h]; simp
  · have h1 : b.toNat ≠ c := fun e2 => e (UInt8.toNat_inj.mp (by rw [h]; exact e2))
    rw [beq_eq_false_iff_ne.mpr e, beq_eq_false_iff_ne.mpr (by omega)]
theorem conv_one (b : UInt8) (W : World) : Sem.run Tryd.prog (convert 22 9 (.slice (some ⟨W.heap.size, 0, none⟩) 1 1)) (W.alloc (.cells #[.int .u8 (b.toNat : Int)] 5)) = .ok (.string (bs [b])) (W.alloc (.cells #[.int .u8 (b.toNat : Int)] 5)) := by
  have := run_convert_bytes_arg (P := Tryd.prog) (w := W.alloc (.cells #[.int .u8 (b.toNat : Int)] 5)) 22 5 Tryd.underlying22 Tryd.underlying5 W.heap.size 0 1 1 [(b.toNat : Int)] rfl (fun i hi => by
    have h0 : i = 0 := by simpa using hi
    subst h0
    simp) 9 Tryd.underlying9
  rw [this]
  have h2 := nums_bs [b]
  simp only [List.map_cons, List.map_nil] at h2
  rw [h2]
set_option maxHeartbeats 1600000 in
theorem plain_any (l : List UInt8) (hl : l.length ≤ 1000000) (w : World) : Calls Tryd.prog 11 #[.string (bs l)] w fun e w' => e = .returned (.string (bs (plainL l))) ∧ Below w.heap.size w w' := by
  have HS : Hid (∀ k (hk : k < (bs l).size), (bs l)[k] = l.getD k 0) := Lib.hid fun k hk => at_list hk
  have hsz : (bs l).size = l.length := rfl
  have HT : Hid (∀ k, k < l.length → plainL (l.take (k + 1)) = plainL (l.take k) ++ (if okc (l.getD k 0) then [l.getD k 0] else [])) := Lib.hid fun k hk => take_at hk
  have HL : Hid (∀ k, (plainL (l.take k)).length ≤ 1000000) := Lib.hid fun k => by
    have h1 := plain_len (l.take k)
    have h2 := List.length_take_le k l
    have h3 : (l.take k).length ≤ l.length := by rw [List.length_take]; omega
    omega
  have HE : Hid (plainL (l.take l.length) = plainL l) := Lib.hid (by rw [List.take_length])
  have H0 : Hid (plainL (l.take 0) = []) := Lib.hid rfl
  obtain ⟨n, hn⟩ : ∃ n, l.length = n := ⟨_, rfl⟩
  rw [hn] at hsz HT HE hl
  generalize hS : bs l = S at *
  go_enter Tryd.func11, Tryd.ntmps11
  go_wp2
  go_loopw [3, 4] (fun s x wr => ∃ k : Nat, k ≤ n ∧ x = .int .i64 k ∧ s = .string (bs (plainL (l.take k))) ∧ Below w.heap.size w wr) (fun _ x _ => n - (intOf x).toNat)
  case atStart => exact ⟨0, Nat.zero_le _, rfl, by rw [H0.out], Below.refl _ _⟩
  case round =>
    obtain ⟨k, hk, rfl, rfl, hb⟩ := hrel
    have HB := Lib.hid hb
    by_cases hlt : k < n
    · have hkz : k < S.size := by omega
      have hb0 := HS.out k hkz
      have hT := HT.out k hlt
      have hL1 := HL.out (k + 1)
      obtain ⟨b, hbb⟩ : ∃ b, l.getD k 0 = b := ⟨_, rfl⟩
      rw [hbb] at hb0 hT
      have e1 := u8_eq b 10 (by decide)
      have e2 := u8_eq b 13 (by decide)
      have e3 := u8_eq b 92 (by decide)
      have HX : Hid (∀ (y : List UInt8) (V : World), plainL (l.take (k + 1)) = y → Below w.heap.size w V → ∃ k' : Nat, k' ≤ n ∧ Value.int .i64 ((k : Int) + 1) = .int .i64 k' ∧ Value.string (bs y) = .string (bs (plainL (l.take k'))) ∧ Below w.heap.size w V) := Lib.hid fun y V h h2 => ⟨k + 1, hlt, rfl, by rw [h], h2⟩
      by_cases hok : okc b = true
      · rw [if_pos hok] at hT
        have hT := Lib.hid hT
        rw [hT.out] at hL1
        have ha := add_bs (plainL (l.take k)) [b] _ rfl hL1
        have cw := conv_one b wr
        unfold okc at hok
        simp only [Bool.and_eq_true, bne_iff_ne, ne_eq] at hok
        have e1 : ((b.toNat : Int) != 10) = true := congrArg not (e1.trans (beq_eq_false_iff_ne.mpr hok.1))
        have e2 : ((b.toNat : Int) != 13) = true := congrArg not (e2.trans (beq_eq_false_iff_ne.mpr hok.2.1))
        have e3 : ((b.toNat : Int) != 92) = true := congrArg not (e3.trans (beq_eq_false_iff_ne.mpr hok.2.2))
        clear hok hbb HT HL HE H0 HS hL1
        go_wp2
        go_round
        case rel => exact HX.out _ _ hT.out (HB.out.alloc HB.out.size _)
        case measure => simp only [intOf]; omega
      · rw [if_neg hok, List.append_nil] at hT
        have hT := Lib.hid hT
        unfold okc at hok
        by_cases h10 : b = 10
        · have e1 : ((b.toNat : Int) != 10) = false := congrArg not (e1.trans (beq_iff_eq.mpr h10))
          clear hok hbb HT HL HE H0 HS hL1 e2 e3 h10
          go_wp2
          go_round
          case rel => exact HX.out _ _ hT.out HB.out
          case measure => simp only [intOf]; omega
        · have e1 : ((b.toNat : Int) != 10) = true := congrArg not (e1.trans (beq_eq_false_iff_ne.mpr h10))
          by_cases h13 : b = 13
          · have e2 : ((b.toNat : Int) != 13) = false := congrArg not (e2.trans (beq_iff_eq.mpr h13))
            clear hok hbb HT HL HE H0 HS hL1 e3 h10 h13
            go_wp2
            go_round
            case rel => exact HX.out _ _ hT.out HB.out
            case measure => simp only [intOf]; omega
          · have e2 : ((b.toNat : Int) != 13) = true := congrArg not (e2.trans (beq_eq_false_iff_ne.mpr h13))
            have h92 : b = 92 := by
              refine Classical.byContradiction fun h => hok ?_
              simp [h10, h13, h]
            have e3 : ((b.toNat : Int) != 92) = false := congrArg not (e3.trans (beq_iff_eq.mpr h92))
            clear hok hbb HT HL HE H0 HS hL1 h10 h13 h92
            go_wp2
            go_round
            case rel => exact HX.out _ _ hT.out HB.out
            case measure => simp only [intOf]; omega
    · obtain rfl : k = n := by omega
      have hlt2 : ¬ (k : Int) < (S.size : Int) := by omega
      clear hlt hk HS HT HL H0
      go_wp2
      go_ret
      exact ⟨by show Ending.returned (.string (bs (plainL (l.take k)))) = _; rw [HE.out], HB.out⟩
end Go.Proofs.YtokeepmlibolfaaDoor.Ln
