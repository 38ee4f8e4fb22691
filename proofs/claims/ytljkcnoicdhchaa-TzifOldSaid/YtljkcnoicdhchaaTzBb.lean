/-
  Layer 6 (tzif): the reader's counts, and rows of them.
-/
import Derived.Test.YtljkcnoicdhchaaTzBa
namespace Go.Proofs.Ytljkcnoicdhchaa.Tz
open Go.RowKit

theorem count_any (l : List Nat) (B g : Nat) (w : World) (h : Rd w B g l) (hk : 4 ≤ l.length) (hb : ∀ b ∈ l, b < 256) :
    Calls Try.prog 53 #[.pointer (some ⟨g, 0, none⟩)] w fun e w' => e = .returned (.int .i64 (be (l.take 4))) ∧ Rd w' B g (l.drop 4) ∧ w.grownBy w' (some g) := by
  have HN : Hid (Calls Try.prog 65 #[.pointer (some ⟨g, 0, none⟩), .int .i64 4] w fun e w' => e = .returned (.int .u64 (be (l.take 4))) ∧ Rd w' B g (l.drop 4) ∧ w.grownBy w' (some g)) := Lib.hid (number_any l B g 4 w h hk (by omega) hb)
  have hlt := be_lt (l := l.take 4) (fun b hx => hb b (List.mem_of_mem_take hx))
  rw [List.length_take, Nat.min_eq_left hk] at hlt
  obtain ⟨n, hn⟩ : ∃ n, be (l.take 4) = n := ⟨_, rfl⟩
  rw [hn] at HN hlt ⊢
  have hn0 : (0 : Int) ≤ (n : Int) := by omega
  have hn1 : (n : Int) < 4294967296 := by omega
  clear hn hlt h hk hb
  go_enter Try.func53, Try.ntmps53
  go_wp2_with (first
    | (go_at_call 65; refine HN.out.mono ?_; clear HN; rintro e V ⟨rfl, hr, hg⟩; have HR := Lib.hid hr; have HG := Lib.hid hg; clear hr hg)
    | fail)
  go_ret
  exact ⟨rfl, HR.out, HG.out⟩
theorem eight_any (l : List Nat) (B g : Nat) (w : World) (h : Rd w B g l) (hk : 8 ≤ l.length) (hb : ∀ b ∈ l, b < 256) :
    Calls Try.prog 55 #[.pointer (some ⟨g, 0, none⟩)] w fun e w' => e = .returned (.int .i64 (wrap64 (be (l.take 8)))) ∧ Rd w' B g (l.drop 8) ∧ w.grownBy w' (some g) := by
  have HN : Hid (Calls Try.prog 65 #[.pointer (some ⟨g, 0, none⟩), .int .i64 8] w fun e w' => e = .returned (.int .u64 (be (l.take 8))) ∧ Rd w' B g (l.drop 8) ∧ w.grownBy w' (some g)) := Lib.hid (number_any l B g 8 w h hk (by omega) hb)
  have hlt := be_lt (l := l.take 8) (fun b hx => hb b (List.mem_of_mem_take hx))
  rw [List.length_take, Nat.min_eq_left hk] at hlt
  obtain ⟨n, hn⟩ : ∃ n, be (l.take 8) = n := ⟨_, rfl⟩
  rw [hn] at HN hlt ⊢
  have hn0 : (0 : Int) ≤ (n : Int) := by omega
  have hn1 : (n : Int) < 18446744073709551616 := by omega
  clear hn hlt h hk hb
  go_enter Try.func55, Try.ntmps55
  go_wp2_with (first
    | (go_at_call 65; refine HN.out.mono ?_; clear HN; rintro e V ⟨rfl, hr, hg⟩; have HR := Lib.hid hr; have HG := Lib.hid hg; clear hr hg)
    | fail)
  go_ret
  exact ⟨rfl, HR.out, HG.out⟩
theorem four_any (l : List Nat) (B g : Nat) (w : World) (h : Rd w B g l) (hk : 4 ≤ l.length) (hb : ∀ b ∈ l, b < 256) :
    Calls Try.prog 56 #[.pointer (some ⟨g, 0, none⟩)] w fun e w' => e = .returned (.int .i64 (wrap64 (wrap32 (be (l.take 4))))) ∧ Rd w' B g (l.drop 4) ∧ w.grownBy w' (some g) := by
  have HN : Hid (Calls Try.prog 65 #[.pointer (some ⟨g, 0, none⟩), .int .i64 4] w fun e w' => e = .returned (.int .u64 (be (l.take 4))) ∧ Rd w' B g (l.drop 4) ∧ w.grownBy w' (some g)) := Lib.hid (number_any l B g 4 w h hk (by omega) hb)
  have hlt := be_lt (l := l.take 4) (fun b hx => hb b (List.mem_of_mem_take hx))
  rw [List.length_take, Nat.min_eq_left hk] at hlt
  obtain ⟨n, hn⟩ : ∃ n, be (l.take 4) = n := ⟨_, rfl⟩
  rw [hn] at HN hlt ⊢
  have hn0 : (0 : Int) ≤ (n : Int) := by omega
  have hn1 : (n : Int) < 4294967296 := by omega
  clear hn hlt h hk hb
  go_enter Try.func56, Try.ntmps56
  go_wp2_with (first
    | (go_at_call 65; refine HN.out.mono ?_; clear HN; rintro e V ⟨rfl, hr, hg⟩; have HR := Lib.hid hr; have HG := Lib.hid hg; clear hr hg)
    | fail)
  go_ret
  exact ⟨rfl, HR.out, HG.out⟩
theorem one_any (l : List Nat) (B g : Nat) (w : World) (h : Rd w B g l) (hk : 1 ≤ l.length) (hb : ∀ b ∈ l, b < 256) :
    Calls Try.prog 58 #[.pointer (some ⟨g, 0, none⟩)] w fun e w' => e = .returned (.int .i64 (be (l.take 1))) ∧ Rd w' B g (l.drop 1) ∧ w.grownBy w' (some g) := by
  have HN : Hid (Calls Try.prog 65 #[.pointer (some ⟨g, 0, none⟩), .int .i64 1] w fun e w' => e = .returned (.int .u64 (be (l.take 1))) ∧ Rd w' B g (l.drop 1) ∧ w.grownBy w' (some g)) := Lib.hid (number_any l B g 1 w h hk (by omega) hb)
  have hlt := be_lt (l := l.take 1) (fun b hx => hb b (List.mem_of_mem_take hx))
  rw [List.length_take, Nat.min_eq_left hk] at hlt
  obtain ⟨n, hn⟩ : ∃ n, be (l.take 1) = n := ⟨_, rfl⟩
  rw [hn] at HN hlt ⊢
  have hn0 : (0 : Int) ≤ (n : Int) := by omega
  have hn1 : (n : Int) < 256 := by omega
  clear hn hlt h hk hb
  go_enter Try.func58, Try.ntmps58
  go_wp2_with (first
    | (go_at_call 65; refine HN.out.mono ?_; clear HN; rintro e V ⟨rfl, hr, hg⟩; have HR := Lib.hid hr; have HG := Lib.hid hg; clear hr hg)
    | fail)
  go_ret
  exact ⟨rfl, HR.out, HG.out⟩
/-! ### Rows of them -/
/-- What each of n readings of kk bytes gives. -/
def vals (kk : Nat) (val : List Nat → Int) : Nat → List Nat → List Int
  | 0, _ => []
  | n + 1, l => val (l.take kk) :: vals kk val n (l.drop kk)
theorem vals_len (kk : Nat) (val : List Nat → Int) : ∀ (n : Nat) (l : List Nat), (vals kk val n l).length = n
  | 0, _ => rfl
  | n + 1, l => by unfold vals; rw [List.length_cons, vals_len kk val n]
theorem vals_snoc (kk : Nat) (val : List Nat → Int) : ∀ (n : Nat) (l : List Nat), vals kk val (n + 1) l = vals kk val n l ++ [val ((l.drop (kk * n)).take kk)]
  | 0, l => by simp [vals]
  | n + 1, l => by
    have h := vals_snoc kk val n (l.drop kk)
    rw [show vals kk val (n + 1 + 1) l = val (l.take kk) :: vals kk val (n + 1) (l.drop kk) from rfl, h]
    rw [show vals kk val (n + 1) l = val (l.take kk) :: vals kk val n (l.drop kk) from rfl, List.drop_drop, List.cons_append, Nat.mul_add, Nat.mul_one, Nat.add_comm kk (kk * n)]
/-- A way to read one. -/
def Reads (f : FuncId) (B g kk : Nat) (val : List Nat → Int) : Prop := ∀ (V : World) (l : List Nat), Rd V B g l → kk ≤ l.length → (∀ b ∈ l, b < 256) → Calls Try.prog f #[.pointer (some ⟨g, 0, none⟩)] V fun e w' => e = .returned (.int .i64 (val (l.take kk))) ∧ Rd w' B g (l.drop kk) ∧ V.grownBy w' (some g)
theorem OwnI.other {w w' : World} {base g : Nat} {te : TypeId} {v : Value} {xs : List Int} (h : OwnI w base te v xs) (hg : w.grownBy w' (some g)) (hb : g < base) : OwnI w' base te v xs :=
  World.ownsRow.kept h hg (by
    cases hv : v.ownBlock with
    | none => exact .inl rfl
    | some k => exact .inr (fun e => by injection e with e; have := (h.lt k hv).1; omega))
theorem Rd.other {w w' : World} {B g : Nat} {l : List Nat} (h : Rd w B g l) {v v' : Value} (hg : Grew w w' v v') (hv : ∀ k, v.ownBlock = some k → g < k ∧ B ≤ k) : Rd w' B g l := by
  have hb : Below (g + 1) w w' := ⟨hg.gr.os, hg.gr.tape, hg.gr.output, hg.gr.size, fun k hk => hg.gr.block k (by have := h.lt; omega) (fun e => by have := (hv k e.symm).1; omega)⟩
  exact h.below hb (Nat.lt_succ_self _)
theorem gb_below {w V w' : World} {g : Nat} (h : w.grownBy V (some g)) (hb : Below w.heap.size V w') : w.grownBy w' (some g) :=
  ⟨hb.os.trans h.os, hb.tape.trans h.tape, hb.output.trans h.output, Nat.le_trans h.size hb.size, fun k hk hne => (hb.block k hk).trans (h.block k hk hne)⟩
theorem sl_one (V : World) (x : Int) (t : TypeId) : Sl (V.alloc (.cells #[.int .i64 x] t)) (V.heap.size + 1) 1 (.slice (some ⟨V.heap.size, 0, none⟩) 1 1) ([x].map intCells) :=
  Sl.new (rows := [[.int .i64 x]]) (Nat.lt_succ_self _) (fun j row hj k u hu => by
    match j, hj with
    | 0, hj =>
      have e : row = [.int .i64 x] := by simpa using hj.symm
      subst e
      match k, hu with
      | 0, hu => exact cell_new V _ _ _ 0 u rfl hu)
set_option maxRecDepth 100000 in
set_option maxHeartbeats 1000000 in
theorem rows64_any (f : FuncId) (hf : f = 53 ∨ f = 55 ∨ f = 56) (l : List Nat) (B g kk n : Nat) (val : List Nat → Int) (w : World) (h : Rd w B g l) (hr : Reads f B g kk val) (hn : n ≤ 5000) (hk : kk * n ≤ l.length) (hb : ∀ b ∈ l, b < 256) :
    Calls Try.prog 52 #[.int .i64 n, .func (.func f) #[.pointer (some ⟨g, 0, none⟩)] #[]] w fun e w' => ∃ A c, e = .returned (.slice A n c) ∧ OwnI w' w.heap.size 2 (.slice A n c) (vals kk val n l) ∧ Rd w' B g (l.drop (kk * n)) ∧ w.grownBy w' (some g) := by
  have HRD := Lib.hid hr
  have H := Lib.hid h
  have HBY := Lib.hid hb
  have hn0 : (0 : Int) ≤ (n : Int) := by omega
  have hn1 : (n : Int) ≤ 5000 := by omega
  clear hr h hb
  go_enter Try.func52, Try.ntmps52
  go_wp2_with fail
  go_loopw [5, 7] (fun u i wr => ∃ (k : Nat) (A : Option Addr) (c : Nat), k ≤ n ∧ i = .int .i64 k ∧ u = .slice A k c ∧ OwnI wr w.heap.size 2 (.slice A k c) (vals kk val k l) ∧ Rd wr B g (l.drop (kk * k)) ∧ w.grownBy wr (some g)) (fun _ i _ => n - (intOf i).toNat)
  case atStart => exact ⟨0, none, 0, Nat.zero_le _, rfl, rfl, World.ownsRow_nil _ _ _ _, by simpa using H.out, World.grownBy.refl _ _⟩
  case round =>
    obtain ⟨k, A, c, hkn, rfl, rfl, hown, hrd, hgr⟩ := hrel
    have HOW := Lib.hid hown; have HR := Lib.hid hrd; have HG := Lib.hid hgr
    clear hown hrd hgr
    by_cases hlt : k < n
    · have hk0 : (0 : Int) ≤ (k : Int) := by omega
      have hk1 : (k : Int) < (n : Int) := by omega
      have hkl : kk * k + kk ≤ l.length := by
        have : kk * (k + 1) ≤ kk * n := Nat.mul_le_mul_left _ hlt
        rw [Nat.mul_add, Nat.mul_one] at this; omega
      have HC : Hid (Calls Try.prog f #[.pointer (some ⟨g, 0, none⟩)] wr fun e w' => e = .returned (.int .i64 (val ((l.drop (kk * k)).take kk))) ∧ Rd w' B g ((l.drop (kk * k)).drop kk) ∧ wr.grownBy w' (some g)) := Lib.hid (HRD.out wr _ HR.out (by rw [List.length_drop]; omega) (fun b hx => HBY.out b (List.mem_of_mem_drop hx)))
      obtain ⟨x, hx⟩ : ∃ x, val ((l.drop (kk * k)).take kk) = x := ⟨_, rfl⟩
      rw [hx] at HC
      have HX := Lib.hid hx
      clear hx
      rcases hf with rfl | rfl | rfl
      all_goals
        go_wp2_with (first
          | (go_at_call 53; refine HC.out.mono ?_; clear HC; rintro e V ⟨rfl, hr, hg⟩; have HR2 := Lib.hid hr; have HG2 := Lib.hid (HG.out.trans hg); have HO2 := Lib.hid (HOW.out.other hg (by have := H.out.lt; omega)); clear hr hg)
          | (go_at_call 55; refine HC.out.mono ?_; clear HC; rintro e V ⟨rfl, hr, hg⟩; have HR2 := Lib.hid hr; have HG2 := Lib.hid (HG.out.trans hg); have HO2 := Lib.hid (HOW.out.other hg (by have := H.out.lt; omega)); clear hr hg)
          | (go_at_call 56; refine HC.out.mono ?_; clear HC; rintro e V ⟨rfl, hr, hg⟩; have HR2 := Lib.hid hr; have HG2 := Lib.hid (HG.out.trans hg); have HO2 := Lib.hid (HOW.out.other hg (by have := H.out.lt; omega)); clear hr hg)
          | (at_builtin; refine plain_append_ints_n (.tmp 9) (.tmp 12) 23 2 Try.underlying23 i64_info rfl rfl w.heap.size (V.heap.size + 1) (k + 1) _ _ (vals kk val k l) [x] rfl rfl (HO2.out.alloc _) (sl_one V x _) (by rw [vals_len]; show _ + 1 ≤ _; omega) (by have := HG2.out.size; simp; omega) (by simp [vals_len]) ?_; intro A6 c6 V6 hO hG; have HO6 := Lib.hid hO; have HG6 := Lib.hid hG; clear hO hG)
          | fail)
        have hbl : Below w.heap.size V V6 := ((Below.refl w.heap.size V).alloc HG2.out.size _).trans (growI_below (HO2.out.alloc _) HG6.out (Nat.le_refl _) (by have := HG2.out.size; simp; omega))
        refine ⟨⟨k + 1, A6, c6, hlt, by go_num, rfl, by rw [vals_snoc, HX.out]; exact HO6.out, ?_, gb_below HG2.out hbl⟩, by simp [intOf]; omega⟩
        rw [Nat.mul_add, Nat.mul_one, ← List.drop_drop]
        exact HR2.out.below hbl H.out.lt
    · have hk1 : ¬ (k : Int) < (n : Int) := by omega
      obtain rfl : k = n := by omega
      go_wp2_with fail
      go_ret
      exact ⟨_, _, rfl, HOW.out, HR.out, HG.out⟩
end Go.Proofs.Ytljkcnoicdhchaa.Tz
