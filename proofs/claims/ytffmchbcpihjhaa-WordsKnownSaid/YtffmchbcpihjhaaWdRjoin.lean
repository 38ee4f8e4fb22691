/-
  Layer 12 (words): the document's Join tells what the machine's joinL tells.
-/
import Derived.Test.YtffmchbcpihjhaaWdApp
import Derived.Laws.Concat
namespace Go.Proofs.Ytffmchbcpihjhaa.Wd
open Go.RowKit
set_option maxRecDepth 100000

theorem ok_all : ∀ n : Fin 256, okB (UInt8.ofNat n.val) = !(decide (n.val ≤ 32) || n.val == 34 || n.val == 39 || n.val == 92 || n.val == 127) := by decide +kernel
theorem ok_of (b : UInt8) : okB b = !(decide (b.toNat ≤ 32) || b.toNat == 34 || b.toNat == 39 || b.toNat == 92 || b.toNat == 127) := by
  have := ok_all ⟨b.toNat, b.toNat_lt⟩
  simpa using this
/-- A byte as a text. -/
theorem one_run (c : UInt8) (X : Int) (hX : (c.toNat : Int) = X) (O : ByteArray) (hO : bs [c] = O) (W : World) : (convert 35 9 (.slice (some ⟨W.heap.size, 0, none⟩) 1 1)).run Try.prog (W.alloc (.cells #[.int .u8 X] 5)) = .ok (.string O) (W.alloc (.cells #[.int .u8 X] 5)) := by
  subst hX
  subst hO
  exact conv_any (W.alloc (.cells #[.int .u8 (c.toNat : Int)] 5)) ⟨W.heap.size, 0, none⟩ 1 1 [c] rfl (fun i b hi => new_cells W _ rfl (cellB c) 5 i _ (by
    match i, hi with
    | 0, hi => cases hi; rfl
    | i + 1, hi => simp at hi))
theorem hex_slice (d : Nat) (hd : d < 16) (W : World) : (Instr.slice 9 (.string digs) (some (.int .u8 (d : Int))) (some (.int .u8 ((d : Int) + 1))) none).run Try.prog W = .ok (.string (bs [hexD d])) W := by
  match d, hd with
  | 0, _ => rfl
  | 1, _ => rfl
  | 2, _ => rfl
  | 3, _ => rfl
  | 4, _ => rfl
  | 5, _ => rfl
  | 6, _ => rfl
  | 7, _ => rfl
  | 8, _ => rfl
  | 9, _ => rfl
  | 10, _ => rfl
  | 11, _ => rfl
  | 12, _ => rfl
  | 13, _ => rfl
  | 14, _ => rfl
  | 15, _ => rfl
  | d + 16, h => omega
/-- One byte more, in the word's quotes. -/
def RQ (x : List UInt8) (j : Nat) : List UInt8 := 34 :: (x.take j).flatMap quoB
def RP (x : List UInt8) (j : Nat) : Bool := !x.isEmpty && (x.take j).all okB
theorem rq_step {x : List UInt8} {j : Nat} (h : j < x.length) : RQ x (j + 1) = RQ x j ++ quoB (x.getD j 0) := by
  unfold RQ
  rw [quos_step h, List.cons_append]
theorem rp_step {x : List UInt8} {j : Nat} (h : j < x.length) : RP x (j + 1) = (RP x j && okB (x.getD j 0)) := by
  unfold RP
  have e : (x.take (j + 1)).all okB = ((x.take j).all okB && okB (x.getD j 0)) := by
    rw [List.take_add_one, List.getD_eq_getElem?_getD, List.getElem?_eq_getElem h, List.all_append]
    show (_ && (okB x[j] && true)) = _
    rw [Bool.and_true]
    rfl
  rw [e, Bool.and_assoc]
theorem rp_no {x : List UInt8} {j : Nat} (h : j < x.length) (hc : okB (x.getD j 0) = false) : RP x (j + 1) = false := by rw [rp_step h, hc, Bool.and_false]
theorem rp_yes {x : List UInt8} {j : Nat} (h : j < x.length) (hc : okB (x.getD j 0) = true) : RP x (j + 1) = RP x j := by rw [rp_step h, hc, Bool.and_true]
theorem rq_len (x : List UInt8) (j : Nat) (hx : x.length ≤ 5000) : (RQ x j).length ≤ 20001 := by
  unfold RQ
  rw [List.length_cons]
  have := quos_len (x.take j)
  have : (x.take j).length ≤ x.length := by rw [List.length_take]; omega
  omega
theorem rp_end (x : List UInt8) : RP x x.length = plainB x := by
  unfold RP plainB
  rw [List.take_length, Bool.and_comm]
theorem rq_end (x : List UInt8) (hp : plainB x = false) : RQ x x.length ++ [34] = joinW x := by
  unfold RQ joinW
  rw [List.take_length, if_neg (by rw [hp]; decide), List.cons_append]
/-- In a word. -/
structure Rw (V : World) (x : List UInt8) (j : Nat) (p q : Value) (W : World) : Prop where
  pl : p = .bool (RP x j)
  qv : q = .string (bs (RQ x j))
  bel : Below V.heap.size V W
set_option maxHeartbeats 8000000 in
theorem rjoin_any (A : Option Addr) (c : Nat) (l : List (List UInt8)) (hl : l.length ≤ 64) (ho : ∀ o ∈ l, o.length ≤ 5000) (V : World) (hA : StrRow V A l) : Calls Try.prog 14 #[.slice A l.length c] V fun e V' => e = .returned (.string (bs (joinL l))) ∧ Below V.heap.size V V' := by
  obtain ⟨n, hn⟩ : ∃ n, l.length = n := ⟨_, rfl⟩
  have HN : Hid (l.length = n ∧ n ≤ 64) := Lib.hid ⟨hn, by omega⟩
  have HO := Lib.hid ho
  have HA := Lib.hid hA
  have HLEN : Hid (∀ k, k ≤ 64 → (JT (l.take k)).length ≤ 1280200) := Lib.hid fun k hk => by
    have := jt_len l 5000 ho k
    have : k * (4 * 5000 + 3) ≤ 64 * (4 * 5000 + 3) := Nat.mul_le_mul_right _ hk
    omega
  rw [hn]
  clear hA ho hl hn
  go_enter Try.func14, Try.ntmps14
  go_wp2_with fail
  go_loopw [3, 4] (fun o i wr => ∃ k : Nat, k ≤ n ∧ i = .int .i64 k ∧ o = .string (bs (JT (l.take k))) ∧ Below V.heap.size V wr) (fun _ i _ => n - (intOf i).toNat)
  case atStart => exact ⟨0, Nat.zero_le _, rfl, rfl, Below.refl _ _⟩
  case round =>
    obtain ⟨k, hk, rfl, rfl, hbl⟩ := hrel
    have HBL := Lib.hid hbl
    by_cases hlt : k < n
    · obtain ⟨x, hx⟩ : ∃ x, l[k]? = some x := ⟨_, List.getElem?_eq_getElem (by have := HN.out; omega)⟩
      have HXL : Hid (x.length ≤ 5000) := Lib.hid (HO.out x (List.mem_of_getElem? hx))
      have HAK : Hid (∃ a, A = some a ∧ ∀ W, Below V.heap.size V W → W.cell? (a.add k) = some (.string (bs x))) := Lib.hid (by
        obtain ⟨a, e1, h1, h2⟩ := HA.out k x hx
        exact ⟨a, e1, fun W hW => (hW.cell (by rw [block_add]; exact h1)).trans h2⟩)
      obtain ⟨a, e1, ha⟩ := HAK.out
      subst e1
      have HA1 := Lib.hid ha
      have a1 := ha wr hbl
      have hnb : (n : Int) ≤ 64 := by have := HN.out; omega
      have HGET : Hid (∀ i (hi : i < (bs x).size), (bs x)[i] = x.getD i 0) := Lib.hid fun i hi => get_list hi
      have hem := bs_empty x
      obtain ⟨E0, hE0⟩ : ∃ b, x.isEmpty = b := ⟨_, rfl⟩
      rw [hE0] at hem
      have HP0 : Hid (RP x 0 = !E0) := Lib.hid (by unfold RP; rw [hE0]; simp)
      obtain ⟨m, hm⟩ : ∃ m, (bs x).size = m := ⟨_, rfl⟩
      have HM : Hid (x.length = m ∧ m ≤ 5000) := Lib.hid ⟨hm, by have := HXL.out; rw [← hm]; exact this⟩
      have hxs : (bs x).size ≤ 5000 := by rw [hm]; exact HM.out.2
      have HTL : Hid ((JT (l.take k)).length ≤ 1280200) := Lib.hid (HLEN.out k (by have := HN.out; omega))
      have HXV : Hid (∀ X, bs x = X → X = bs x) := Lib.hid fun _ h => h.symm
      obtain ⟨XV, hXV⟩ : ∃ X, bs x = X := ⟨_, rfl⟩
      have HXE := Lib.hid hXV
      rw [hXV] at a1 HGET hem hm hxs HA1 HAK
      clear HXV hXV ha hbl hE0
      obtain ⟨TV, hTV⟩ : ∃ X, bs (JT (l.take k)) = X := ⟨_, rfl⟩
      have HTE := Lib.hid hTV
      have hts : TV.size ≤ 1280200 := by rw [← hTV]; exact HTL.out
      rw [hTV]
      clear hTV
      rcases Nat.eq_zero_or_pos k with hk0 | hk0
      · have HST : Hid (JT (l.take (k + 1)) = JT (l.take k) ++ joinW x) := Lib.hid (by subst hk0; rw [jt_first hx]; rfl)
        have hkz : ¬ (0 : Int) < (k : Int) := by omega
        clear hk0 hx
        go_wp2_with fail
        obtain ⟨wA, hwA⟩ : ∃ wo : World, wo = wr := ⟨_, rfl⟩
        have HS0 : Hid (Rw V x 0 (.bool (!E0)) (.string ⟨#[34]⟩) wr) := Lib.hid ⟨by rw [HP0.out], rfl, HBL.out⟩
        subst hwA
        go_loopw [5, 6, 7] (fun p q i wx => ∃ j : Nat, j ≤ m ∧ i = .int .i64 j ∧ Rw V x j p q wx) (fun _ _ i _ => m - (intOf i).toNat)
        case atStart => exact ⟨0, Nat.zero_le _, rfl, HS0.out⟩
        case round =>
          obtain ⟨j, hjm, rfl, hrw⟩ := hrel
          obtain ⟨rfl, rfl, hbj⟩ := hrw
          have HBJ := Lib.hid hbj
          have a2 := HA1.out wr hbj
          have hmb : (m : Int) ≤ 5000 := by have := HM.out; omega
          have HRQL : Hid ((RQ x j).length ≤ 20001) := Lib.hid (rq_len x j HXL.out)
          obtain ⟨PB, hPB⟩ : ∃ b, RP x j = b := ⟨_, rfl⟩
          have HPB := Lib.hid hPB
          obtain ⟨QV, hQV⟩ : ∃ b, bs (RQ x j) = b := ⟨_, rfl⟩
          have HQE := Lib.hid hQV
          have hqs : QV.size ≤ 20001 := by rw [← hQV]; exact HRQL.out
          rw [hPB, hQV]
          clear hPB hQV hbj a1
          by_cases hj : j < m
          · have hz : j < XV.size := by rw [hm]; exact hj
            have hzi : (j : Int) < (m : Int) := by omega
            have hx2 := HGET.out j hz
            have HJX : Hid (j < x.length) := Lib.hid (by have := HM.out; omega)
            obtain ⟨b, hc⟩ : ∃ b, x.getD j 0 = b := ⟨_, rfl⟩
            have HC := Lib.hid hc
            rw [hc] at hx2
            obtain ⟨X, hX⟩ : ∃ X : Int, (b.toNat : Int) = X := ⟨_, rfl⟩
            obtain ⟨O, hO⟩ : ∃ O, bs [b] = O := ⟨_, rfl⟩
            have hconv := one_run b X hX O hO
            have hos : O.size = 1 := by rw [← hO]; rfl
            have HOE := Lib.hid hO
            have hok0 := ok_of b
            have HXI := Lib.hid hX
            clear hO
            by_cases h34 : b = 34
            · have hX2 : X = 34 := by rw [← HXI.out, h34]; rfl

              have h34' := h34
              have hok : okB b = false := by rw [h34]; rfl
              have hquo : quoB b = [92, 34] := by rw [h34]; rfl
              clear hok0 h34 HXI
              subst hX2
              have hs2 : 1 + O.size ≤ 9223372036854775807 := by omega
              have hs3 : QV.size + (1 + O.size) ≤ 9223372036854775807 := by omega

              have HOK : Hid (RP x (j + 1) = false) := Lib.hid (rp_no HJX.out (by rw [HC.out]; exact hok))
              have HQS : Hid (bs (RQ x (j + 1)) = QV ++ (⟨#[92]⟩ ++ O)) := Lib.hid (by rw [rq_step HJX.out, HC.out, hquo, ← bs_app, HQE.out]; rw [show bs [92, 34] = bs [92] ++ bs [b] from by rw [bs_app, h34']; rfl, HOE.out])
              clear hok hquo hc h34'
              go_wp2_with fail
              go_roundw
              case rel => exact ⟨j + 1, by omega, by go_num, ⟨by rw [HOK.out], by rw [HQS.out], (HBJ.out.alloc HBJ.out.size _)⟩⟩
              case measure => exact meas _ _ _ (by go_num) hj
            · skip
              by_cases h92 : b = 92
              · have hX2 : X = 92 := by rw [← HXI.out, h92]; rfl

                have h92' := h92
                have hok : okB b = false := by rw [h92]; rfl
                have hquo : quoB b = [92, 92] := by rw [h92]; rfl
                clear hok0 h92 HXI
                subst hX2
                have hs2 : 1 + O.size ≤ 9223372036854775807 := by omega
                have hs3 : QV.size + (1 + O.size) ≤ 9223372036854775807 := by omega

                have HOK : Hid (RP x (j + 1) = false) := Lib.hid (rp_no HJX.out (by rw [HC.out]; exact hok))
                have HQS : Hid (bs (RQ x (j + 1)) = QV ++ (⟨#[92]⟩ ++ O)) := Lib.hid (by rw [rq_step HJX.out, HC.out, hquo, ← bs_app, HQE.out]; rw [show bs [92, 92] = bs [92] ++ bs [b] from by rw [bs_app, h92']; rfl, HOE.out])
                clear hok hquo hc h92'
                go_wp2_with fail
                go_roundw
                case rel => exact ⟨j + 1, by omega, by go_num, ⟨by rw [HOK.out], by rw [HQS.out], (HBJ.out.alloc HBJ.out.size _)⟩⟩
                case measure => exact meas _ _ _ (by go_num) hj
              · skip
                by_cases h10 : b = 10
                · have hX2 : X = 10 := by rw [← HXI.out, h10]; rfl

                  have hok : okB b = false := by rw [h10]; rfl
                  have hquo : quoB b = [92, 110] := by rw [h10]; rfl
                  clear hok0 h10 HXI
                  subst hX2
                  have hsl1 := fun W => hex_slice 0 (by decide) W
                  have hsl2 := fun W => hex_slice 10 (by decide) W
                  have hs3 : QV.size + 2 ≤ 9223372036854775807 := by omega

                  have HOK : Hid (RP x (j + 1) = false) := Lib.hid (rp_no HJX.out (by rw [HC.out]; exact hok))
                  have HQS : Hid (bs (RQ x (j + 1)) = QV ++ (⟨#[92, 110]⟩)) := Lib.hid (by rw [rq_step HJX.out, HC.out, hquo, ← bs_app, HQE.out]; skip)
                  clear hok hquo hc
                  go_wp2_with fail
                  go_quiet (fail)
                  go_wp2
                  go_roundw
                  case rel => exact ⟨j + 1, by omega, by go_num, ⟨by rw [HOK.out], by rw [HQS.out], (bl_drewN (HBJ.out.alloc HBJ.out.size _) _)⟩⟩
                  case measure => exact meas _ _ _ (by go_num) hj
                · skip
                  by_cases h9 : b = 9
                  · have hX2 : X = 9 := by rw [← HXI.out, h9]; rfl

                    have hok : okB b = false := by rw [h9]; rfl
                    have hquo : quoB b = [92, 116] := by rw [h9]; rfl
                    clear hok0 h9 HXI
                    subst hX2
                    have hsl1 := fun W => hex_slice 0 (by decide) W
                    have hsl2 := fun W => hex_slice 9 (by decide) W
                    have hs3 : QV.size + 2 ≤ 9223372036854775807 := by omega

                    have HOK : Hid (RP x (j + 1) = false) := Lib.hid (rp_no HJX.out (by rw [HC.out]; exact hok))
                    have HQS : Hid (bs (RQ x (j + 1)) = QV ++ (⟨#[92, 116]⟩)) := Lib.hid (by rw [rq_step HJX.out, HC.out, hquo, ← bs_app, HQE.out]; skip)
                    clear hok hquo hc
                    go_wp2_with fail
                    go_quiet (fail)
                    go_wp2
                    go_roundw
                    case rel => exact ⟨j + 1, by omega, by go_num, ⟨by rw [HOK.out], by rw [HQS.out], (bl_drewN (HBJ.out.alloc HBJ.out.size _) _)⟩⟩
                    case measure => exact meas _ _ _ (by go_num) hj
                  · skip
                    by_cases h39 : b = 39
                    · have hX2 : X = 39 := by rw [← HXI.out, h39]; rfl

                      have h39' := h39
                      have hok : okB b = false := by rw [h39]; rfl
                      have hquo : quoB b = [39] := by rw [h39]; rfl
                      clear hok0 h39 HXI
                      subst hX2
                      have hs3 : QV.size + O.size ≤ 9223372036854775807 := by omega

                      have HOK : Hid (RP x (j + 1) = false) := Lib.hid (rp_no HJX.out (by rw [HC.out]; exact hok))
                      have HQS : Hid (bs (RQ x (j + 1)) = QV ++ (O)) := Lib.hid (by rw [rq_step HJX.out, HC.out, hquo, ← bs_app, HQE.out]; rw [show bs [39] = bs [b] from by rw [h39'], HOE.out])
                      clear hok hquo hc h39'
                      go_wp2_with fail
                      go_roundw
                      case rel => exact ⟨j + 1, by omega, by go_num, ⟨by rw [HOK.out], by rw [HQS.out], (HBJ.out.alloc HBJ.out.size _)⟩⟩
                      case measure => exact meas _ _ _ (by go_num) hj
                    · skip
                      by_cases h32 : b = 32
                      · have hX2 : X = 32 := by rw [← HXI.out, h32]; rfl

                        have h32' := h32
                        have hok : okB b = false := by rw [h32]; rfl
                        have hquo : quoB b = [32] := by rw [h32]; rfl
                        clear hok0 h32 HXI
                        subst hX2
                        have hs3 : QV.size + O.size ≤ 9223372036854775807 := by omega

                        have HOK : Hid (RP x (j + 1) = false) := Lib.hid (rp_no HJX.out (by rw [HC.out]; exact hok))
                        have HQS : Hid (bs (RQ x (j + 1)) = QV ++ (O)) := Lib.hid (by rw [rq_step HJX.out, HC.out, hquo, ← bs_app, HQE.out]; rw [show bs [32] = bs [b] from by rw [h32'], HOE.out])
                        clear hok hquo hc h32'
                        go_wp2_with fail
                        go_roundw
                        case rel => exact ⟨j + 1, by omega, by go_num, ⟨by rw [HOK.out], by rw [HQS.out], (HBJ.out.alloc HBJ.out.size _)⟩⟩
                        case measure => exact meas _ _ _ (by go_num) hj
                      · skip
                        by_cases h127 : b = 127
                        · have hX2 : X = 127 := by rw [← HXI.out, h127]; rfl

                          have hok : okB b = false := by rw [h127]; rfl
                          have hquo : quoB b = [92, 120, 55, 102] := by rw [h127]; rfl
                          clear hok0 h127 HXI
                          subst hX2
                          have hsl1 := fun W => hex_slice 7 (by decide) W
                          have hsl2 := fun W => hex_slice 15 (by decide) W
                          have hs3 : QV.size + 4 ≤ 9223372036854775807 := by omega

                          have HOK : Hid (RP x (j + 1) = false) := Lib.hid (rp_no HJX.out (by rw [HC.out]; exact hok))
                          have HQS : Hid (bs (RQ x (j + 1)) = QV ++ (⟨#[92, 120]⟩ ++ digs.extract 7 8 ++ digs.extract 15 16)) := Lib.hid (by rw [rq_step HJX.out, HC.out, hquo, ← bs_app, HQE.out]; exact congrArg (QV ++ ·) (by decide +kernel))
                          clear hok hquo hc
                          go_wp2_with fail
                          go_quiet (fail)
                          go_wp2
                          go_roundw
                          case rel => exact ⟨j + 1, by omega, by go_num, ⟨by rw [HOK.out], by rw [HQS.out], (bl_drewN (HBJ.out.alloc HBJ.out.size _) _)⟩⟩
                          case measure => exact meas _ _ _ (by go_num) hj
                        · skip
                          have hn32 : b.toNat ≠ 32 := fun e => h32 (UInt8.toNat_inj.mp e)
                          have hn34 : b.toNat ≠ 34 := fun e => h34 (UInt8.toNat_inj.mp e)
                          have hn39 : b.toNat ≠ 39 := fun e => h39 (UInt8.toNat_inj.mp e)
                          have hn92 : b.toNat ≠ 92 := fun e => h92 (UInt8.toNat_inj.mp e)
                          have hn127 : b.toNat ≠ 127 := fun e => h127 (UInt8.toNat_inj.mp e)
                          have hn10 : b.toNat ≠ 10 := fun e => h10 (UInt8.toNat_inj.mp e)
                          have hn9 : b.toNat ≠ 9 := fun e => h9 (UInt8.toNat_inj.mp e)
                          by_cases hlo : b.toNat < 32
                          · skip
                            have hok : okB b = false := by rw [hok0, decide_eq_true (show b.toNat ≤ 32 by omega)]; rfl
                            have hquo : quoB b = [92, 120, hexD (b.toNat / 16), hexD (b.toNat % 16)] := by
                              unfold quoB
                              rw [if_neg (fun h => h.elim h34 h92), if_neg h10, if_neg h9, if_pos (by unfold ctl; rw [decide_eq_true hlo]; rfl)]
                            have hd1 : X / 16 = ((b.toNat / 16 : Nat) : Int) := by have := HXI.out; omega
                            have hd2 : X % 16 = ((b.toNat % 16 : Nat) : Int) := by have := HXI.out; omega
                            have hsl1 := fun W => hex_slice (b.toNat / 16) (by omega) W
                            have hsl2 := fun W => hex_slice (b.toNat % 16) (by omega) W
                            rw [← hd1] at hsl1
                            rw [← hd2] at hsl2
                            have hX0 : 0 ≤ X := by have := HXI.out; omega
                            have hX32 : X < 32 := by have := HXI.out; omega
                            have hX33 : X ≤ 32 := by omega
                            have e34 : (X == 34) = false := beq_eq_false_iff_ne.mpr (by omega)
                            have e92 : (X == 92) = false := beq_eq_false_iff_ne.mpr (by omega)
                            have e10 : (X == 10) = false := beq_eq_false_iff_ne.mpr (by have := HXI.out; omega)
                            have e9 : (X == 9) = false := beq_eq_false_iff_ne.mpr (by have := HXI.out; omega)
                            have hq1 : 0 ≤ X / 16 := by omega
                            have hq2 : X / 16 ≤ 1 := by omega
                            have hq3 : 0 ≤ X % 16 := by omega
                            have hq4 : X % 16 ≤ 15 := by omega
                            obtain ⟨D1, hD1⟩ : ∃ D, bs [hexD (b.toNat / 16)] = D := ⟨_, rfl⟩
                            obtain ⟨D2, hD2⟩ : ∃ D, bs [hexD (b.toNat % 16)] = D := ⟨_, rfl⟩
                            have HD1 := Lib.hid hD1
                            have HD2 := Lib.hid hD2
                            have hz1 : D1.size = 1 := by rw [← hD1]; rfl
                            have hz2 : D2.size = 1 := by rw [← hD2]; rfl
                            rw [hD1] at hsl1
                            rw [hD2] at hsl2
                            clear hD1 hD2 hd1 hd2 hok0 h127 h34 h39 h92 h32 h10 h9 hn32 hn34 hn39 hn92 hn127 hn10 hn9 hlo
                            have hs3 : QV.size + 4 ≤ 9223372036854775807 := by omega

                            have HOK : Hid (RP x (j + 1) = false) := Lib.hid (rp_no HJX.out (by rw [HC.out]; exact hok))
                            have HQS : Hid (bs (RQ x (j + 1)) = QV ++ (⟨#[92, 120]⟩ ++ D1 ++ D2)) := Lib.hid (by rw [rq_step HJX.out, HC.out, hquo, ← bs_app, HQE.out, ← HD1.out, ← HD2.out]; rfl)
                            clear hok hquo hc
                            go_wp2_with fail
                            go_quiet (fail)
                            go_wp2
                            go_roundw
                            case rel => exact ⟨j + 1, by omega, by go_num, ⟨by rw [HOK.out], by rw [HQS.out], (bl_drewN (HBJ.out.alloc HBJ.out.size _) _)⟩⟩
                            case measure => exact meas _ _ _ (by go_num) hj
                          · skip
                            have hok : okB b = true := by
                              rw [hok0, decide_eq_false (show ¬ b.toNat ≤ 32 by omega), beq_eq_false_iff_ne.mpr hn34, beq_eq_false_iff_ne.mpr hn39, beq_eq_false_iff_ne.mpr hn92, beq_eq_false_iff_ne.mpr hn127]; rfl
                            have hquo : quoB b = [b] := by
                              unfold quoB
                              rw [if_neg (fun h => h.elim h34 h92), if_neg h10, if_neg h9, if_neg (by unfold ctl; rw [decide_eq_false hlo, beq_eq_false_iff_ne.mpr h127]; decide)]
                            have hX33 : ¬ X ≤ 32 := by have := HXI.out; omega
                            have hX32 : ¬ X < 32 := by have := HXI.out; omega
                            have e34 : (X == 34) = false := beq_eq_false_iff_ne.mpr (by have := HXI.out; omega)
                            have e39 : (X == 39) = false := beq_eq_false_iff_ne.mpr (by have := HXI.out; omega)
                            have e92 : (X == 92) = false := beq_eq_false_iff_ne.mpr (by have := HXI.out; omega)
                            have e127 : (X == 127) = false := beq_eq_false_iff_ne.mpr (by have := HXI.out; omega)
                            have e10 : (X == 10) = false := beq_eq_false_iff_ne.mpr (by omega)
                            have e9 : (X == 9) = false := beq_eq_false_iff_ne.mpr (by omega)
                            clear hok0 h127 h34 h39 h92 h32 h10 h9 hn32 hn34 hn39 hn92 hn127 hn10 hn9 hlo
                            have hs3 : QV.size + O.size ≤ 9223372036854775807 := by omega

                            have HOK : Hid (RP x (j + 1) = PB) := Lib.hid (by rw [rp_yes HJX.out (by rw [HC.out]; exact hok)]; exact HPB.out)
                            have HQS : Hid (bs (RQ x (j + 1)) = QV ++ (O)) := Lib.hid (by rw [rq_step HJX.out, HC.out, hquo, ← bs_app, HQE.out]; exact congrArg (QV ++ ·) HOE.out)
                            clear hok hquo hc
                            go_wp2_with fail
                            go_roundw
                            case rel => exact ⟨j + 1, by omega, by go_num, ⟨by rw [HOK.out], by rw [HQS.out], (HBJ.out.alloc HBJ.out.size _)⟩⟩
                            case measure => exact meas _ _ _ (by go_num) hj
          · have hzi : ¬ (j : Int) < (m : Int) := by omega
            have HPE : Hid (PB = plainB x) := Lib.hid (by rw [← HPB.out, ← rp_end]; congr 1; have := HM.out; omega)
            have HQE2 : Hid (plainB x = false → QV ++ ⟨#[34]⟩ = bs (joinW x)) := Lib.hid fun hp => by
              rw [← rq_end x hp, ← bs_app, ← HQE.out]; congr 3; have := HM.out; omega
            have HTK : Hid (TV = bs (JT (l.take k))) := Lib.hid HTE.out.symm
            cases PB with
            | true =>
              have hs4 : TV.size + 1 + XV.size ≤ 9223372036854775807 := by omega
              have hs5 : TV.size + XV.size ≤ 9223372036854775807 := by omega
              have HFIN : Hid (bs (JT (l.take (k + 1))) = TV ++ XV) := Lib.hid (by
                rw [HST.out, HTK.out, ← HXE.out, show joinW x = x from by unfold joinW; rw [if_pos HPE.out.symm]]
                simp only [bs_app])
              go_wp2_with fail
              go_roundw
              case rel => exact ⟨k + 1, by omega, by go_num, by rw [HFIN.out], HBJ.out⟩
              case measure => exact meas _ _ _ (by go_num) hlt
            | false =>
              have hs4 : TV.size + 1 + (QV.size + 1) ≤ 9223372036854775807 := by omega
              have hs5 : TV.size + 1 + QV.size + 1 ≤ 9223372036854775807 := by omega
              have HFIN : Hid (bs (JT (l.take (k + 1))) = TV ++ QV ++ ⟨#[34]⟩) := Lib.hid (by
                rw [ByteArray.append_assoc, HQE2.out HPE.out.symm, HST.out, HTK.out]
                simp only [bs_app])
              go_wp2_with fail
              go_roundw
              case rel => exact ⟨k + 1, by omega, by go_num, by rw [HFIN.out], HBJ.out⟩
              case measure => exact meas _ _ _ (by go_num) hlt
      · have HST : Hid (JT (l.take (k + 1)) = JT (l.take k) ++ 32 :: joinW x) := Lib.hid (jt_next hk0 hx)
        have hkz : (0 : Int) < (k : Int) := by omega
        clear hk0 hx
        have hs1 : TV.size + 1 ≤ 9223372036854775807 := by omega
        go_wp2_with fail
        obtain ⟨wA, hwA⟩ : ∃ wo : World, wo = wr := ⟨_, rfl⟩
        have HS0 : Hid (Rw V x 0 (.bool (!E0)) (.string ⟨#[34]⟩) wr) := Lib.hid ⟨by rw [HP0.out], rfl, HBL.out⟩
        subst hwA
        go_loopw [5, 6, 7] (fun p q i wx => ∃ j : Nat, j ≤ m ∧ i = .int .i64 j ∧ Rw V x j p q wx) (fun _ _ i _ => m - (intOf i).toNat)
        case atStart => exact ⟨0, Nat.zero_le _, rfl, HS0.out⟩
        case round =>
          obtain ⟨j, hjm, rfl, hrw⟩ := hrel
          obtain ⟨rfl, rfl, hbj⟩ := hrw
          have HBJ := Lib.hid hbj
          have a2 := HA1.out wr hbj
          have hmb : (m : Int) ≤ 5000 := by have := HM.out; omega
          have HRQL : Hid ((RQ x j).length ≤ 20001) := Lib.hid (rq_len x j HXL.out)
          obtain ⟨PB, hPB⟩ : ∃ b, RP x j = b := ⟨_, rfl⟩
          have HPB := Lib.hid hPB
          obtain ⟨QV, hQV⟩ : ∃ b, bs (RQ x j) = b := ⟨_, rfl⟩
          have HQE := Lib.hid hQV
          have hqs : QV.size ≤ 20001 := by rw [← hQV]; exact HRQL.out
          rw [hPB, hQV]
          clear hPB hQV hbj a1
          by_cases hj : j < m
          · have hz : j < XV.size := by rw [hm]; exact hj
            have hzi : (j : Int) < (m : Int) := by omega
            have hx2 := HGET.out j hz
            have HJX : Hid (j < x.length) := Lib.hid (by have := HM.out; omega)
            obtain ⟨b, hc⟩ : ∃ b, x.getD j 0 = b := ⟨_, rfl⟩
            have HC := Lib.hid hc
            rw [hc] at hx2
            obtain ⟨X, hX⟩ : ∃ X : Int, (b.toNat : Int) = X := ⟨_, rfl⟩
            obtain ⟨O, hO⟩ : ∃ O, bs [b] = O := ⟨_, rfl⟩
            have hconv := one_run b X hX O hO
            have hos : O.size = 1 := by rw [← hO]; rfl
            have HOE := Lib.hid hO
            have hok0 := ok_of b
            have HXI := Lib.hid hX
            clear hO
            by_cases h34 : b = 34
            · have hX2 : X = 34 := by rw [← HXI.out, h34]; rfl

              have h34' := h34
              have hok : okB b = false := by rw [h34]; rfl
              have hquo : quoB b = [92, 34] := by rw [h34]; rfl
              clear hok0 h34 HXI
              subst hX2
              have hs2 : 1 + O.size ≤ 9223372036854775807 := by omega
              have hs3 : QV.size + (1 + O.size) ≤ 9223372036854775807 := by omega

              have HOK : Hid (RP x (j + 1) = false) := Lib.hid (rp_no HJX.out (by rw [HC.out]; exact hok))
              have HQS : Hid (bs (RQ x (j + 1)) = QV ++ (⟨#[92]⟩ ++ O)) := Lib.hid (by rw [rq_step HJX.out, HC.out, hquo, ← bs_app, HQE.out]; rw [show bs [92, 34] = bs [92] ++ bs [b] from by rw [bs_app, h34']; rfl, HOE.out])
              clear hok hquo hc h34'
              go_wp2_with fail
              go_roundw
              case rel => exact ⟨j + 1, by omega, by go_num, ⟨by rw [HOK.out], by rw [HQS.out], (HBJ.out.alloc HBJ.out.size _)⟩⟩
              case measure => exact meas _ _ _ (by go_num) hj
            · skip
              by_cases h92 : b = 92
              · have hX2 : X = 92 := by rw [← HXI.out, h92]; rfl

                have h92' := h92
                have hok : okB b = false := by rw [h92]; rfl
                have hquo : quoB b = [92, 92] := by rw [h92]; rfl
                clear hok0 h92 HXI
                subst hX2
                have hs2 : 1 + O.size ≤ 9223372036854775807 := by omega
                have hs3 : QV.size + (1 + O.size) ≤ 9223372036854775807 := by omega

                have HOK : Hid (RP x (j + 1) = false) := Lib.hid (rp_no HJX.out (by rw [HC.out]; exact hok))
                have HQS : Hid (bs (RQ x (j + 1)) = QV ++ (⟨#[92]⟩ ++ O)) := Lib.hid (by rw [rq_step HJX.out, HC.out, hquo, ← bs_app, HQE.out]; rw [show bs [92, 92] = bs [92] ++ bs [b] from by rw [bs_app, h92']; rfl, HOE.out])
                clear hok hquo hc h92'
                go_wp2_with fail
                go_roundw
                case rel => exact ⟨j + 1, by omega, by go_num, ⟨by rw [HOK.out], by rw [HQS.out], (HBJ.out.alloc HBJ.out.size _)⟩⟩
                case measure => exact meas _ _ _ (by go_num) hj
              · skip
                by_cases h10 : b = 10
                · have hX2 : X = 10 := by rw [← HXI.out, h10]; rfl

                  have hok : okB b = false := by rw [h10]; rfl
                  have hquo : quoB b = [92, 110] := by rw [h10]; rfl
                  clear hok0 h10 HXI
                  subst hX2
                  have hsl1 := fun W => hex_slice 0 (by decide) W
                  have hsl2 := fun W => hex_slice 10 (by decide) W
                  have hs3 : QV.size + 2 ≤ 9223372036854775807 := by omega

                  have HOK : Hid (RP x (j + 1) = false) := Lib.hid (rp_no HJX.out (by rw [HC.out]; exact hok))
                  have HQS : Hid (bs (RQ x (j + 1)) = QV ++ (⟨#[92, 110]⟩)) := Lib.hid (by rw [rq_step HJX.out, HC.out, hquo, ← bs_app, HQE.out]; skip)
                  clear hok hquo hc
                  go_wp2_with fail
                  go_quiet (fail)
                  go_wp2
                  go_roundw
                  case rel => exact ⟨j + 1, by omega, by go_num, ⟨by rw [HOK.out], by rw [HQS.out], (bl_drewN (HBJ.out.alloc HBJ.out.size _) _)⟩⟩
                  case measure => exact meas _ _ _ (by go_num) hj
                · skip
                  by_cases h9 : b = 9
                  · have hX2 : X = 9 := by rw [← HXI.out, h9]; rfl

                    have hok : okB b = false := by rw [h9]; rfl
                    have hquo : quoB b = [92, 116] := by rw [h9]; rfl
                    clear hok0 h9 HXI
                    subst hX2
                    have hsl1 := fun W => hex_slice 0 (by decide) W
                    have hsl2 := fun W => hex_slice 9 (by decide) W
                    have hs3 : QV.size + 2 ≤ 9223372036854775807 := by omega

                    have HOK : Hid (RP x (j + 1) = false) := Lib.hid (rp_no HJX.out (by rw [HC.out]; exact hok))
                    have HQS : Hid (bs (RQ x (j + 1)) = QV ++ (⟨#[92, 116]⟩)) := Lib.hid (by rw [rq_step HJX.out, HC.out, hquo, ← bs_app, HQE.out]; skip)
                    clear hok hquo hc
                    go_wp2_with fail
                    go_quiet (fail)
                    go_wp2
                    go_roundw
                    case rel => exact ⟨j + 1, by omega, by go_num, ⟨by rw [HOK.out], by rw [HQS.out], (bl_drewN (HBJ.out.alloc HBJ.out.size _) _)⟩⟩
                    case measure => exact meas _ _ _ (by go_num) hj
                  · skip
                    by_cases h39 : b = 39
                    · have hX2 : X = 39 := by rw [← HXI.out, h39]; rfl

                      have h39' := h39
                      have hok : okB b = false := by rw [h39]; rfl
                      have hquo : quoB b = [39] := by rw [h39]; rfl
                      clear hok0 h39 HXI
                      subst hX2
                      have hs3 : QV.size + O.size ≤ 9223372036854775807 := by omega

                      have HOK : Hid (RP x (j + 1) = false) := Lib.hid (rp_no HJX.out (by rw [HC.out]; exact hok))
                      have HQS : Hid (bs (RQ x (j + 1)) = QV ++ (O)) := Lib.hid (by rw [rq_step HJX.out, HC.out, hquo, ← bs_app, HQE.out]; rw [show bs [39] = bs [b] from by rw [h39'], HOE.out])
                      clear hok hquo hc h39'
                      go_wp2_with fail
                      go_roundw
                      case rel => exact ⟨j + 1, by omega, by go_num, ⟨by rw [HOK.out], by rw [HQS.out], (HBJ.out.alloc HBJ.out.size _)⟩⟩
                      case measure => exact meas _ _ _ (by go_num) hj
                    · skip
                      by_cases h32 : b = 32
                      · have hX2 : X = 32 := by rw [← HXI.out, h32]; rfl

                        have h32' := h32
                        have hok : okB b = false := by rw [h32]; rfl
                        have hquo : quoB b = [32] := by rw [h32]; rfl
                        clear hok0 h32 HXI
                        subst hX2
                        have hs3 : QV.size + O.size ≤ 9223372036854775807 := by omega

                        have HOK : Hid (RP x (j + 1) = false) := Lib.hid (rp_no HJX.out (by rw [HC.out]; exact hok))
                        have HQS : Hid (bs (RQ x (j + 1)) = QV ++ (O)) := Lib.hid (by rw [rq_step HJX.out, HC.out, hquo, ← bs_app, HQE.out]; rw [show bs [32] = bs [b] from by rw [h32'], HOE.out])
                        clear hok hquo hc h32'
                        go_wp2_with fail
                        go_roundw
                        case rel => exact ⟨j + 1, by omega, by go_num, ⟨by rw [HOK.out], by rw [HQS.out], (HBJ.out.alloc HBJ.out.size _)⟩⟩
                        case measure => exact meas _ _ _ (by go_num) hj
                      · skip
                        by_cases h127 : b = 127
                        · have hX2 : X = 127 := by rw [← HXI.out, h127]; rfl

                          have hok : okB b = false := by rw [h127]; rfl
                          have hquo : quoB b = [92, 120, 55, 102] := by rw [h127]; rfl
                          clear hok0 h127 HXI
                          subst hX2
                          have hsl1 := fun W => hex_slice 7 (by decide) W
                          have hsl2 := fun W => hex_slice 15 (by decide) W
                          have hs3 : QV.size + 4 ≤ 9223372036854775807 := by omega

                          have HOK : Hid (RP x (j + 1) = false) := Lib.hid (rp_no HJX.out (by rw [HC.out]; exact hok))
                          have HQS : Hid (bs (RQ x (j + 1)) = QV ++ (⟨#[92, 120]⟩ ++ digs.extract 7 8 ++ digs.extract 15 16)) := Lib.hid (by rw [rq_step HJX.out, HC.out, hquo, ← bs_app, HQE.out]; exact congrArg (QV ++ ·) (by decide +kernel))
                          clear hok hquo hc
                          go_wp2_with fail
                          go_quiet (fail)
                          go_wp2
                          go_roundw
                          case rel => exact ⟨j + 1, by omega, by go_num, ⟨by rw [HOK.out], by rw [HQS.out], (bl_drewN (HBJ.out.alloc HBJ.out.size _) _)⟩⟩
                          case measure => exact meas _ _ _ (by go_num) hj
                        · skip
                          have hn32 : b.toNat ≠ 32 := fun e => h32 (UInt8.toNat_inj.mp e)
                          have hn34 : b.toNat ≠ 34 := fun e => h34 (UInt8.toNat_inj.mp e)
                          have hn39 : b.toNat ≠ 39 := fun e => h39 (UInt8.toNat_inj.mp e)
                          have hn92 : b.toNat ≠ 92 := fun e => h92 (UInt8.toNat_inj.mp e)
                          have hn127 : b.toNat ≠ 127 := fun e => h127 (UInt8.toNat_inj.mp e)
                          have hn10 : b.toNat ≠ 10 := fun e => h10 (UInt8.toNat_inj.mp e)
                          have hn9 : b.toNat ≠ 9 := fun e => h9 (UInt8.toNat_inj.mp e)
                          by_cases hlo : b.toNat < 32
                          · skip
                            have hok : okB b = false := by rw [hok0, decide_eq_true (show b.toNat ≤ 32 by omega)]; rfl
                            have hquo : quoB b = [92, 120, hexD (b.toNat / 16), hexD (b.toNat % 16)] := by
                              unfold quoB
                              rw [if_neg (fun h => h.elim h34 h92), if_neg h10, if_neg h9, if_pos (by unfold ctl; rw [decide_eq_true hlo]; rfl)]
                            have hd1 : X / 16 = ((b.toNat / 16 : Nat) : Int) := by have := HXI.out; omega
                            have hd2 : X % 16 = ((b.toNat % 16 : Nat) : Int) := by have := HXI.out; omega
                            have hsl1 := fun W => hex_slice (b.toNat / 16) (by omega) W
                            have hsl2 := fun W => hex_slice (b.toNat % 16) (by omega) W
                            rw [← hd1] at hsl1
                            rw [← hd2] at hsl2
                            have hX0 : 0 ≤ X := by have := HXI.out; omega
                            have hX32 : X < 32 := by have := HXI.out; omega
                            have hX33 : X ≤ 32 := by omega
                            have e34 : (X == 34) = false := beq_eq_false_iff_ne.mpr (by omega)
                            have e92 : (X == 92) = false := beq_eq_false_iff_ne.mpr (by omega)
                            have e10 : (X == 10) = false := beq_eq_false_iff_ne.mpr (by have := HXI.out; omega)
                            have e9 : (X == 9) = false := beq_eq_false_iff_ne.mpr (by have := HXI.out; omega)
                            have hq1 : 0 ≤ X / 16 := by omega
                            have hq2 : X / 16 ≤ 1 := by omega
                            have hq3 : 0 ≤ X % 16 := by omega
                            have hq4 : X % 16 ≤ 15 := by omega
                            obtain ⟨D1, hD1⟩ : ∃ D, bs [hexD (b.toNat / 16)] = D := ⟨_, rfl⟩
                            obtain ⟨D2, hD2⟩ : ∃ D, bs [hexD (b.toNat % 16)] = D := ⟨_, rfl⟩
                            have HD1 := Lib.hid hD1
                            have HD2 := Lib.hid hD2
                            have hz1 : D1.size = 1 := by rw [← hD1]; rfl
                            have hz2 : D2.size = 1 := by rw [← hD2]; rfl
                            rw [hD1] at hsl1
                            rw [hD2] at hsl2
                            clear hD1 hD2 hd1 hd2 hok0 h127 h34 h39 h92 h32 h10 h9 hn32 hn34 hn39 hn92 hn127 hn10 hn9 hlo
                            have hs3 : QV.size + 4 ≤ 9223372036854775807 := by omega

                            have HOK : Hid (RP x (j + 1) = false) := Lib.hid (rp_no HJX.out (by rw [HC.out]; exact hok))
                            have HQS : Hid (bs (RQ x (j + 1)) = QV ++ (⟨#[92, 120]⟩ ++ D1 ++ D2)) := Lib.hid (by rw [rq_step HJX.out, HC.out, hquo, ← bs_app, HQE.out, ← HD1.out, ← HD2.out]; rfl)
                            clear hok hquo hc
                            go_wp2_with fail
                            go_quiet (fail)
                            go_wp2
                            go_roundw
                            case rel => exact ⟨j + 1, by omega, by go_num, ⟨by rw [HOK.out], by rw [HQS.out], (bl_drewN (HBJ.out.alloc HBJ.out.size _) _)⟩⟩
                            case measure => exact meas _ _ _ (by go_num) hj
                          · skip
                            have hok : okB b = true := by
                              rw [hok0, decide_eq_false (show ¬ b.toNat ≤ 32 by omega), beq_eq_false_iff_ne.mpr hn34, beq_eq_false_iff_ne.mpr hn39, beq_eq_false_iff_ne.mpr hn92, beq_eq_false_iff_ne.mpr hn127]; rfl
                            have hquo : quoB b = [b] := by
                              unfold quoB
                              rw [if_neg (fun h => h.elim h34 h92), if_neg h10, if_neg h9, if_neg (by unfold ctl; rw [decide_eq_false hlo, beq_eq_false_iff_ne.mpr h127]; decide)]
                            have hX33 : ¬ X ≤ 32 := by have := HXI.out; omega
                            have hX32 : ¬ X < 32 := by have := HXI.out; omega
                            have e34 : (X == 34) = false := beq_eq_false_iff_ne.mpr (by have := HXI.out; omega)
                            have e39 : (X == 39) = false := beq_eq_false_iff_ne.mpr (by have := HXI.out; omega)
                            have e92 : (X == 92) = false := beq_eq_false_iff_ne.mpr (by have := HXI.out; omega)
                            have e127 : (X == 127) = false := beq_eq_false_iff_ne.mpr (by have := HXI.out; omega)
                            have e10 : (X == 10) = false := beq_eq_false_iff_ne.mpr (by omega)
                            have e9 : (X == 9) = false := beq_eq_false_iff_ne.mpr (by omega)
                            clear hok0 h127 h34 h39 h92 h32 h10 h9 hn32 hn34 hn39 hn92 hn127 hn10 hn9 hlo
                            have hs3 : QV.size + O.size ≤ 9223372036854775807 := by omega

                            have HOK : Hid (RP x (j + 1) = PB) := Lib.hid (by rw [rp_yes HJX.out (by rw [HC.out]; exact hok)]; exact HPB.out)
                            have HQS : Hid (bs (RQ x (j + 1)) = QV ++ (O)) := Lib.hid (by rw [rq_step HJX.out, HC.out, hquo, ← bs_app, HQE.out]; exact congrArg (QV ++ ·) HOE.out)
                            clear hok hquo hc
                            go_wp2_with fail
                            go_roundw
                            case rel => exact ⟨j + 1, by omega, by go_num, ⟨by rw [HOK.out], by rw [HQS.out], (HBJ.out.alloc HBJ.out.size _)⟩⟩
                            case measure => exact meas _ _ _ (by go_num) hj
          · have hzi : ¬ (j : Int) < (m : Int) := by omega
            have HPE : Hid (PB = plainB x) := Lib.hid (by rw [← HPB.out, ← rp_end]; congr 1; have := HM.out; omega)
            have HQE2 : Hid (plainB x = false → QV ++ ⟨#[34]⟩ = bs (joinW x)) := Lib.hid fun hp => by
              rw [← rq_end x hp, ← bs_app, ← HQE.out]; congr 3; have := HM.out; omega
            have HTK : Hid (TV = bs (JT (l.take k))) := Lib.hid HTE.out.symm
            cases PB with
            | true =>
              have hs4 : TV.size + 1 + XV.size ≤ 9223372036854775807 := by omega
              have hs5 : TV.size + XV.size ≤ 9223372036854775807 := by omega
              have HFIN : Hid (bs (JT (l.take (k + 1))) = TV ++ ⟨#[32]⟩ ++ XV) := Lib.hid (by
                rw [HST.out, HTK.out, ← HXE.out, show joinW x = x from by unfold joinW; rw [if_pos HPE.out.symm]]
                rw [show (⟨#[32]⟩ : ByteArray) = bs [32] from rfl]
                simp only [bs_app, List.append_assoc, List.cons_append, List.nil_append])
              go_wp2_with fail
              go_roundw
              case rel => exact ⟨k + 1, by omega, by go_num, by rw [HFIN.out], HBJ.out⟩
              case measure => exact meas _ _ _ (by go_num) hlt
            | false =>
              have hs4 : TV.size + 1 + (QV.size + 1) ≤ 9223372036854775807 := by omega
              have hs5 : TV.size + 1 + QV.size + 1 ≤ 9223372036854775807 := by omega
              have HFIN : Hid (bs (JT (l.take (k + 1))) = TV ++ ⟨#[32]⟩ ++ QV ++ ⟨#[34]⟩) := Lib.hid (by
                rw [ByteArray.append_assoc, HQE2.out HPE.out.symm, HST.out, HTK.out]
                rw [show (⟨#[32]⟩ : ByteArray) = bs [32] from rfl]
                simp only [bs_app, List.append_assoc, List.cons_append, List.nil_append])
              go_wp2_with fail
              go_roundw
              case rel => exact ⟨k + 1, by omega, by go_num, by rw [HFIN.out], HBJ.out⟩
              case measure => exact meas _ _ _ (by go_num) hlt
    · obtain rfl : k = n := by omega
      have hkk : ¬ (k : Int) < (k : Int) := by omega
      have HE : Hid (JT (l.take k) = joinL l) := Lib.hid (by rw [List.take_of_length_le (by have := HN.out; omega), jt_all])
      clear hbl
      obtain ⟨TT, hTT⟩ : ∃ T, bs (JT (l.take k)) = T := ⟨_, rfl⟩
      have HTT := Lib.hid hTT
      rw [hTT]
      clear hTT
      go_wp2_with fail
      go_ret
      refine ⟨?_, HBL.out⟩
      rw [← HE.out, HTT.out]
      rfl
end Go.Proofs.Ytffmchbcpihjhaa.Wd
