/-
  Layer 7 (footer): the program's reader: a mark, what must be, a run, a number.
-/
import Derived.Test.YtkfhipkcnocokaaDoorFoGoes
import Derived.Great.Walk
import Derived.Lib.SmallJoins
namespace Go.Proofs.YtkfhipkcnocokaaDoor.Fo
open Go.RowKit

/-- The library's two errors. -/
structure Er (w : World) : Prop where
  e1 : ∃ ev, w.cell? ⟨3, 0, none⟩ = some ev ∧ (ev = .nilIface ∨ ∃ te pe, ev = .iface te pe)
  e2 : ∃ ev, w.cell? ⟨4, 0, none⟩ = some ev ∧ (ev = .nilIface ∨ ∃ te pe, ev = .iface te pe)
/-- Behind the library's variables. -/
structure Hi (G : Nat) : Prop where
  l1 : 3 < G
  l2 : 4 < G
theorem Hi.mono {a b : Nat} (h : Hi a) (hb : a ≤ b) : Hi b := ⟨Nat.lt_of_lt_of_le h.l1 hb, Nat.lt_of_lt_of_le h.l2 hb⟩
theorem Er.hi {w : World} (h : Er w) : Hi w.heap.size := by
  obtain ⟨⟨a, a1, a2⟩, ⟨b, b1, b2⟩⟩ := h
  exact ⟨cell_lt a1, cell_lt b1⟩
theorem Er.below {w V : World} {G : Nat} (h : Er w) (hb : Below G w V) (hG : Hi G) : Er V := by
  obtain ⟨⟨a, a1, a2⟩, ⟨b, b1, b2⟩⟩ := h
  exact ⟨⟨a, cells_at _ hb hG.l1 a1, a2⟩, ⟨b, cells_at _ hb hG.l2 b1, b2⟩⟩
/-- What the reader's calls keep. -/
structure Rk (w0 w : World) (g : Nat) (s : St) : Prop where
  rd : Rd w g s
  gb : w0.grownBy w (some g)
  er : Er w
  lo : Hi g
  sz : s.left.length ≤ 100000
section
variable {w0 w V : World} {g : Nat} {s s' : St}
theorem Rk.keep (h : Rk w0 w g s) (hb : Below w.heap.size w V) : Rk w0 V g s :=
  ⟨h.rd.keep hb, h.gb.trans (gb_of w V g hb), h.er.below hb (h.lo.mono (Nat.le_of_lt h.rd.lt)), h.lo, h.sz⟩
theorem Rk.set (h : Rk w0 w g s) (i : Nat) (u : Value) (hr : Rd (w.setCell ⟨g, i, none⟩ u) g s') (hz : s'.left.length ≤ s.left.length) : Rk w0 (w.setCell ⟨g, i, none⟩ u) g s' :=
  ⟨hr, h.gb.trans (grown_set w g i u), h.er.below (below_of_gb (grown_set w g i u) (Nat.le_refl _) (Nat.le_of_lt h.rd.lt)) h.lo, h.lo, Nat.le_trans hz h.sz⟩
end
theorem next_has (l : List UInt8) (c : UInt8) (wr : Bool) : Lib.hasPrefix l [c] = nextB c.toNat ⟨l, wr⟩ := by
  cases l with
  | nil => rfl
  | cons b t =>
    show ([c].isPrefixOf (b :: t)) = decide (b.toNat = c.toNat)
    by_cases h : b.toNat = c.toNat
    · have e : b = c := UInt8.toNat_inj.1 h
      subst e; simp
    · have e : ¬ c = b := fun k => h (by rw [k])
      simp [List.isPrefixOf, h, e]
theorem next_trim (l : List UInt8) (c : UInt8) (wr : Bool) : Lib.trimPrefix l [c] = (nextS c.toNat ⟨l, wr⟩).left := by
  unfold Lib.trimPrefix nextS
  rw [next_has l c wr]
  cases nextB c.toNat ⟨l, wr⟩ <;> simp
theorem nextS_wrong (c : Nat) (s : St) : (nextS c s).wrong = s.wrong := by unfold nextS; split <;> rfl
theorem nextS_eta (c : Nat) (s : St) : (⟨(nextS c s).left, s.wrong⟩ : St) = nextS c s := by rw [← nextS_wrong c s]
theorem nextS_len (c : Nat) (s : St) : (nextS c s).left.length ≤ s.left.length := by unfold nextS; split <;> simp
set_option maxHeartbeats 400000 in
theorem next_any (c : UInt8) (k : Nat) (hk : c.toNat = k) (s : St) (g : Nat) (w0 w : World) (h : Rk w0 w g s) :
    Calls Tryd.prog 59 #[.pointer (some ⟨g, 0, none⟩), .string ⟨#[c]⟩] w fun e w' => e = .returned (.bool (nextB k s)) ∧ Rk w0 w' g (nextS k s) := by
  have HC : Hid (∀ V, Calls Tryd.prog 77 #[.string (bs s.left), .string ⟨#[c]⟩] V fun e w' => e = .returned (.tuple #[.string (bs (nextS k s).left), .bool (nextB k s)]) ∧ V = w') := Lib.hid fun V => by
    refine (Tryd.strings_CutPrefix (bs s.left) ⟨#[c]⟩ V).mono ?_
    rintro e w' ⟨rfl, rfl⟩
    refine ⟨?_, rfl⟩
    subst hk
    rw [bs_list, show (⟨#[c]⟩ : ByteArray).data.toList = [c] from rfl, next_has s.left c s.wrong, next_trim s.left c s.wrong]
  have K0 := Lib.hid h
  have c0 := h.rd.c0
  have f0 := h.rd.fr 0
  have HL := Lib.hid (nextS_len k s)
  have HE := Lib.hid (nextS_eta k s)
  generalize nextB k s = b at *
  generalize nextS k s = s2 at *
  generalize hl : bs s.left = S at *
  generalize hl2 : bs s2.left = T at *
  have HT := Lib.hid hl2
  clear h hk hl hl2
  go_enter Tryd.func59, Tryd.ntmps59
  go_wp2_with (first
    | (go_at_call 77; refine (HC.out _).mono ?_; rintro e V1 ⟨rfl, rfl⟩)
    | fail)
  have hr := K0.out.rd.set0 s2.left
  rw [HE.out, HT.out] at hr
  have HR := Lib.hid (K0.out.set 0 (.string T) hr HL.out)
  clear hr
  go_ret
  exact ⟨rfl, HR.out⟩
theorem need_eta (s : St) (b : Bool) : s.need b = ⟨s.left, s.wrong || !b⟩ := rfl
set_option maxHeartbeats 400000 in
theorem need_any (b : Bool) (s : St) (g : Nat) (w0 w : World) (h : Rk w0 w g s) :
    Calls Tryd.prog 60 #[.pointer (some ⟨g, 0, none⟩), .bool b] w fun e w' => e = .returned (.tuple #[]) ∧ Rk w0 w' g (s.need b) := by
  have K0 := Lib.hid h
  have c1 := h.rd.c1
  have f1 := h.rd.fr 1
  rw [need_eta]
  obtain ⟨l, wr⟩ := s
  simp only at c1 ⊢
  clear h
  cases wr with
  | true =>
    go_enter Tryd.func60, Tryd.ntmps60
    go_wp2_with fail
    exact Great.bodyPost_end0 rfl rfl ⟨rfl, K0.out.set 1 (.bool true) (K0.out.rd.set1 true) (Nat.le_refl _)⟩
  | false =>
    go_enter Tryd.func60, Tryd.ntmps60
    go_wp2_with fail
    exact Great.bodyPost_end0 rfl rfl ⟨rfl, K0.out.set 1 (.bool (!b)) (K0.out.rd.set1 (!b)) (Nat.le_refl _)⟩
theorem runS_len (p : Nat → Bool) (s : St) : (runS p s).left.length ≤ s.left.length := by
  unfold runS
  exact (List.dropWhile_suffix _).length_le
set_option maxHeartbeats 800000 in
theorem run_any (fg : Nat) (lb : Array Value) (p : Nat → Bool) (hp : ∀ r, p r = true → r < 128) (s : St) (g : Nat) (w0 w : World) (h : Rk w0 w g s)
    (eg : ∀ args w, (callFunc fg args).run Tryd.prog w = .ok (.enter fg args) w) (hg : PredGrows Tryd.prog fg lb p w) :
    Calls Tryd.prog 74 #[.pointer (some ⟨g, 0, none⟩), .func (.func fg) #[] lb] w fun e w' => e = .returned (.string (bs (runV p s))) ∧ Rk w0 w' g (runS p s) := by
  have HT : Hid (Calls Tryd.prog 69 #[.string (bs s.left), .func (.func fg) #[] lb] w fun e w' => e = .returned (.string (bs (runS p s).left)) ∧ Below w.heap.size w w') := Lib.hid (by
    have := Tryd.strings_TrimLeftFunc_grows fg lb eg p (bs s.left) w hg
    rwa [trim_eq p hp] at this)
  have HH : Hid ((bs s.left).extract 0 (s.left.length - (runS p s).left.length) = bs (runV p s)) := Lib.hid (head_eq _ _)
  have hlen := runS_len p s
  have HC : Hid (∀ V, Calls Tryd.prog 86 #[.string (bs (runV p s))] V fun e w' => e = .returned (.string (bs (runV p s))) ∧ Below V.heap.size V w') := Lib.hid fun V => clone_any _ (by
    have h1 : (runV p s).length ≤ s.left.length := (List.takeWhile_prefix _).length_le
    have := h.sz
    rw [bs_size]; omega) V
  have K0 := Lib.hid h
  have c0 := h.rd.c0
  have HE : Hid ((⟨(runS p s).left, s.wrong⟩ : St) = runS p s) := Lib.hid rfl
  have hz := h.sz
  generalize runS p s = s2 at *
  generalize bs (runV p s) = H at *
  obtain ⟨k, hk⟩ : ∃ k, s.left.length - s2.left.length = k := ⟨_, rfl⟩
  rw [hk] at HH
  have hS : ((bs s.left).size : Int) - ((bs s2.left).size : Int) = (k : Int) := by rw [bs_size, bs_size]; omega
  have hk2 : (k : Int) ≤ ((bs s.left).size : Int) := by rw [bs_size]; omega
  have hk0 : (0 : Int) ≤ (k : Int) := by omega
  have hkz : (k : Int) ≤ 100000 := by omega
  have hcl : w.cell? ⟨g, 0, none⟩ = some (.string (bs s.left)) := c0
  generalize hl : bs s.left = S at *
  generalize hl2 : bs s2.left = T at *
  have HT2 := Lib.hid hl2
  have HL2 := Lib.hid hl
  have HLEN := Lib.hid hlen
  have HSS := Lib.hid hS
  clear h hp eg hg hl hl2 hk hlen hcl hz hS
  go_enter Tryd.func74, Tryd.ntmps74
  go_wp2_with (first
    | (go_at_call 69; refine HT.out.mono ?_; rintro e V1 ⟨rfl, hb⟩; have K1 := Lib.hid (K0.out.keep hb); clear hb c0; have c0 := K1.out.rd.c0; rw [HL2.out] at c0; have f0 := K1.out.rd.fr 0)
    | fail)
  have hS := HSS.out
  go_quiet (fail)
  rename_i nq
  have K2 := Lib.hid (K1.out.keep (below_drewN (Below.refl V1.heap.size V1) nq))
  have c2 := K2.out.rd.c0
  rw [HL2.out] at c2
  have f2 := K2.out.rd.fr 0
  clear c0 f0 hS
  generalize V1.drewN nq = V2 at *
  have hH := HH.out
  have HKS : Hid (Rk w0 (V2.setCell ⟨g, 0, none⟩ (.string T)) g s2) := Lib.hid (by
    have hr := K2.out.rd.set0 s2.left
    rw [HE.out, HT2.out] at hr
    exact K2.out.set 0 (.string T) hr HLEN.out)
  go_wp2_with (first
    | (go_at_call 86; (try rw [hH]); refine (HC.out _).mono ?_; rintro e V3 ⟨rfl, hb⟩; have K3 := Lib.hid (HKS.out.keep hb); clear hb)
    | fail)
  go_ret
  exact ⟨rfl, K3.out⟩
/-- strconv.Atoi of any bytes. -/
theorem atoi_any (l : List UInt8) (hl : l.length ≤ 100000) (w : World) (her : Er w) :
    Calls Tryd.prog 90 #[.string (bs l)] w fun e w' => (∃ err, e = .returned (.tuple #[.int .i64 (atoiV l), err])) ∧ Below w.heap.size w w' := by
  obtain ⟨⟨a, a1, a2⟩, ⟨b, b1, b2⟩⟩ := her
  have hs : (bs l).size = l.length := rfl
  unfold atoiV
  rcases hx : Lib.atoiAll l with v | _ | _
  · refine (Tryd.strconv_Atoi_ok (bs l) (by omega) v (by rw [bs_list]; exact hx) w).mono ?_
    rintro e w' ⟨rfl, hw⟩
    refine ⟨⟨_, rfl⟩, ?_⟩
    rcases hw with rfl | ⟨t, rfl⟩
    · exact Below.refl _ _
    · exact Joins.below_bytesWorld _ _ _ _ (Nat.le_refl _)
  · refine (Tryd.strconv_Atoi_syntax (bs l) (by omega) (by rw [bs_list]; exact hx) a w a1 a2).mono ?_
    rintro e w' ⟨N, rfl, _, _, hb⟩
    exact ⟨⟨_, rfl⟩, hb⟩
  · refine (Tryd.strconv_Atoi_range (bs l) (by omega) (by rw [bs_list]; exact hx) b w b1 b2).mono ?_
    rintro e w' ⟨N, rfl, _, _, hb⟩
    rw [bs_list]
    exact ⟨⟨_, rfl⟩, hb⟩
set_option maxHeartbeats 800000 in
/-- A number of so few to so many digits. -/
theorem number_any (few most : Int) (s : St) (g : Nat) (w0 w : World) (h : Rk w0 w g s) :
    Calls Tryd.prog 78 #[.pointer (some ⟨g, 0, none⟩), .int .i64 few, .int .i64 most] w fun e w' => e = .returned (.int .i64 (numV s)) ∧ Rk w0 w' g (numS few most s) := by
  have HR : Hid (∀ V, Rk w0 V g s → Calls Tryd.prog 74 #[.pointer (some ⟨g, 0, none⟩), .func (.func 89) #[] #[]] V fun e w' => e = .returned (.string (bs (runV dgt s))) ∧ Rk w0 w' g (runS dgt s)) := Lib.hid fun V hV =>
    run_any _ #[] dgt (fun _ => dgt_low) s g w0 V hV (enters_of Tryd.func89 (by kernel_rfl) rfl) (digit_pays V)
  have hl : (runV dgt s).length ≤ 100000 := Nat.le_trans (List.takeWhile_prefix _).length_le h.sz
  have HA : Hid (∀ V, Rk w0 V g (numS few most s) → Calls Tryd.prog 90 #[.string (bs (runV dgt s))] V fun e w' => (∃ err, e = .returned (.tuple #[.int .i64 (numV s), err])) ∧ Rk w0 w' g (numS few most s)) := Lib.hid fun V hV =>
    (atoi_any (runV dgt s) hl V hV.er).mono fun e w' ⟨he, hb⟩ => ⟨he, hV.keep hb⟩
  have HW : Hid (∀ V, Calls Tryd.prog 43 #[.int .i64 (runV dgt s).length, .int .i64 few, .int .i64 most] V fun e w' => e = .returned (.bool (inB (runV dgt s).length few most)) ∧ V = w') := Lib.hid fun V => within_any _ _ _ V
  have HN : Hid (∀ V, Rk w0 V g (runS dgt s) → Calls Tryd.prog 60 #[.pointer (some ⟨g, 0, none⟩), .bool (inB (runV dgt s).length few most)] V fun e w' => e = .returned (.tuple #[]) ∧ Rk w0 w' g (numS few most s)) := Lib.hid fun V hV => need_any _ _ g w0 V hV
  have HZ : Hid ((bs (runV dgt s)).size = (runV dgt s).length) := Lib.hid rfl
  have K0 := Lib.hid h
  clear h hl
  generalize inB (runV dgt s).length few most = b at *
  generalize numS few most s = s3 at *
  generalize runS dgt s = s2 at *
  generalize numV s = n at *
  generalize runV dgt s = r at *
  generalize bs r = T at *
  have hz : (T.size : Int) = (r.length : Int) := by rw [HZ.out]
  go_enter Tryd.func78, Tryd.ntmps78
  go_wp2_with (first
    | (go_at_call 74; refine (HR.out _ K0.out).mono ?_; clear HR; rintro e V1 ⟨rfl, hk⟩; have K1 := Lib.hid hk; clear hk)
    | (go_at_call 43; refine (HW.out _).mono ?_; clear HW; rintro e V2 ⟨rfl, rfl⟩)
    | (go_at_call 60; refine (HN.out _ K1.out).mono ?_; clear HN; rintro e V3 ⟨rfl, hk⟩; have K3 := Lib.hid hk; clear hk)
    | (go_at_call 90; refine (HA.out _ K3.out).mono ?_; clear HA; rintro e V4 ⟨⟨err, rfl⟩, hk⟩; have K4 := Lib.hid hk; clear hk)
    | fail)
  go_ret
  exact ⟨rfl, K4.out⟩
end Go.Proofs.YtkfhipkcnocokaaDoor.Fo
