/-
  Layer 6 (tzif): the document's number and head.
-/
import Derived.Test.YtljkcnoicdhchaaTzW
namespace Go.Proofs.Ytljkcnoicdhchaa.Tz
open Go.RowKit

set_option maxRecDepth 100000 in
/-- So many zeros are put behind bytes that have no room behind them. -/
theorem plain_append_zeros_new {ops : Array Oper} {rest : List Oper} {o : Oper} {a : Act} {w : World} {Q : Exit → Act → World → Prop} (s x : Operand) (tn : TypeId) (hn : Try.prog.underlying tn = some (.int .i64)) (hgd : o.guard = none)
    (ho : o.op = .call { callee := .builtin .append, args := #[s, x], argTypes := #[33, tn] }) (base g cap : Nat) (xs : List Int) (k : Nat) (h0 : 0 < k)
    (hs : a.eval s = .slice (some ⟨g, 0, none⟩) xs.length cap) (hx : a.eval x = .int .i64 k) (hc : ∀ j u, xs[j]? = some u → w.cell? ((⟨g, 0, none⟩ : Addr).add j) = some (by8 u)) (hroom : cap < xs.length + k) (hlen : xs.length + k ≤ 10000000) (hbase : base ≤ w.heap.size)
    (h : ∀ v' w', Own w' base v' (xs ++ zerosB k) → Below w.heap.size w w' → wpList Try.prog ops Q rest (a.put o.dst v') w') : wpList Try.prog ops Q (o :: rest) a w := by
  refine wpList_plain hgd fun K hK => ?_
  obtain ⟨i, hi, hz0, hz1, hz2⟩ := info_parts u8_info
  have hzl : (zerosB k).length = k := by unfold zerosB; simp
  have hr := Lib.run_append_grow_zeros (P := Try.prog) w 33 tn o.type 5 i (.int .u8 0) .i64 .i64 Try.underlying33 hn hi hz0 (some ⟨g, 0, none⟩) xs.length cap (xs.map by8) (run_firstCells_some w.drew i.size xs.length ⟨g, 0, none⟩ xs.length cap (xs.map by8) (by rw [hz1]; simp) (by
    intro j u hu
    rw [List.getElem?_map] at hu
    cases hj : xs[j]? with
    | none => rw [hj] at hu; cases hu
    | some z => rw [hj] at hu; injection hu with hu; rw [← hu]; exact hc j z hj)) k h0 (by omega) (by omega) (by omega) (by rw [hz2]; omega) (by rw [hz2]; exact growslice_fits (by omega) (by omega))
  have hge := grownCap_ge w (xs.length + k) cap 5
  have hcm : grownCap w (xs.length + k) cap 5 ≤ maxLen := grownCap_le_maxLen w (xs.length + k) cap 5 (by unfold maxLen; omega)
  unfold Oper.wp execOp
  simp only [ho, resolve, invoke, builtin, Sem.run_bind, Sem.run_pure, Result.andThen_ok, List.map_toArray, List.map_cons, List.map_nil, hs, hx, hr]
  refine hK _ _ (h _ _ ?_ ?_)
  · rw [zeroCells_by8, zeroCells_by8]
    refine ⟨by simp, .inr ⟨w.heap.size, _, _, by rw [List.length_append, hzl], hbase, heap_alloc_new w.drew _, by rw [List.length_append, hzl]; exact hge, hcm, ?_, ?_⟩⟩
    · simp [zerosB]; omega
    · rw [Nat.mul_one, Array.toList_append, Array.toList_append, ← List.map_append, show (xs ++ zerosB k).length = ((xs ++ zerosB k).map by8).length by simp]
      exact List.take_left
  · exact ((Below.refl w.heap.size w).drew).alloc (Nat.le_refl _) _
set_option maxRecDepth 100000 in
set_option maxHeartbeats 1000000 in
theorem rnumber_any (n : Int) (N width : Nat) (hN : IntKind.u64.wrap n = N) (hw : width ≤ 8) (w : World) :
    Calls Try.prog 31 #[.int .i64 n, .int .i64 width] w fun e w' => ∃ v, e = .returned v ∧ Own w' w.heap.size v (digs N width) ∧ Below w.heap.size w w' := by
  have hwi : (width : Int) ≤ 8 := by omega
  go_enter Try.func31, Try.ntmps31
  go_wp2_with fail
  go_loopw [5, 6] (fun u i wr => ∃ (j : Nat) (acc : List Int), j ≤ width ∧ i = .int .i64 ((j : Int) - 1) ∧ acc ++ digs N j = digs N width ∧ Own wr w.heap.size u acc ∧ Below w.heap.size w wr) (fun _ i _ => (intOf i + 1).toNat)
  case atStart => exact ⟨width, [], Nat.le_refl _, rfl, rfl, Own.nil _ _, Below.refl _ _⟩
  case round =>
    obtain ⟨j, acc, hj, rfl, ha, ho, hb1⟩ := hrel
    match j, hj, ha with
    | 0, hj, ha =>
      rw [show digs N 0 = [] from rfl, List.append_nil] at ha
      have HE : Hid (Own wr w.heap.size _ (digs N width)) := Lib.hid (ha ▸ ho)
      have HB := Lib.hid hb1
      clear ha ho hb1
      go_wp2_with fail
      go_ret
      exact ⟨_, rfl, HE.out, HB.out⟩
    | j + 1, hj, ha =>
      have hj0 : (0 : Int) ≤ (j : Int) := by omega
      have hj8 : (j : Int) < 8 := by omega
      have HA := Lib.hid ha; have HO2 := Lib.hid ho; have HB := Lib.hid hb1
      clear ha ho hb1
      rw [show ((j + 1 : Nat) : Int) - 1 = (j : Int) by omega]
      have hal : acc.length ≤ 8 := by
        have h1 := congrArg List.length HA.out
        rw [List.length_append, digs_len, digs_len] at h1
        omega
      have HAL := Lib.hid hal
      clear hal
      go_wp2_with (first
        | (at_builtin; refine plain_append_bytes (.tmp 13) (.tmp 20) rfl rfl w.heap.size _ acc [(N : Int) / 2 ^ (8 * j) % 256] ⟨wr.heap.size, 0, none⟩ 1 1 rfl rfl rfl (HO2.out.alloc _) (one_cell (new_cell _ _ rfl _ _)) (by have := HAL.out; omega) (by have := HB.out.size; simp; omega) ?_; intro v' w' hown hgr; have HO3 := Lib.hid hown; have HB3 : Hid (Below w.heap.size w w') := Lib.hid (HB.out.trans (grew_below HO2.out hgr.ahead (Nat.le_refl _) HB.out.size)); clear hown hgr)
        | fail)
      refine ⟨⟨j, acc ++ [(N : Int) / 2 ^ (8 * j) % 256], by omega, rfl, ?_, HO3.out, HB3.out⟩, by simp [intOf]⟩
      have h1 := HA.out
      rw [show digs N (j + 1) = ((N / 2 ^ (8 * j) % 256 : Nat) : Int) :: digs N j from rfl] at h1
      rw [← h1, List.append_assoc, List.singleton_append]
      congr 2
theorem cell_mark (W : World) (C : Array Value) (t : TypeId) (fr : Nat × Nat) (i : Nat) (u : Value) (h : C[i]? = some u) : (W.alloc (.cells C t fr)).cell? ⟨W.heap.size, i, none⟩ = some u := (cell_of_row _ _ i C t fr (heap_alloc_new _ _)).trans h
theorem magic_cells (W : World) (t : TypeId) (fr : Nat × Nat) : ∀ j u, ([84, 90, 105, 102, 50] : List Int)[j]? = some u → (W.alloc (.cells #[.int .u8 84, .int .u8 90, .int .u8 105, .int .u8 102, .int .u8 50] t fr)).cell? ((⟨W.heap.size, 0, none⟩ : Addr).add j) = some (by8 u) := by
  intro j u hu
  rw [Own_add]
  refine cell_mark W _ t fr j _ ?_
  match j, hu with
  | 0, hu => simp at hu; subst hu; rfl
  | 1, hu => simp at hu; subst hu; rfl
  | 2, hu => simp at hu; subst hu; rfl
  | 3, hu => simp at hu; subst hu; rfl
  | 4, hu => simp at hu; subst hu; rfl
theorem u64_of_nat (c : Nat) (h : c ≤ 1000000) : IntKind.u64.wrap (c : Int) = (c : Int) := by rw [IntKind.wrap_u64]; omega
def castI (l : List Nat) : List Int := l.map fun (n : Nat) => (n : Int)
set_option maxRecDepth 100000 in
set_option maxHeartbeats 2000000 in
theorem rhead_any (v : Value) (ns : List Nat) (B : Nat) (w : World) (h : Sl w B 1 v ((castI ns).map intCells)) (hl : ns.length ≤ 100) (hn : ∀ n ∈ ns, n ≤ 1000000) (hB : B ≤ w.heap.size) :
    Calls Try.prog 30 #[v] w fun e w' => ∃ v', e = .returned v' ∧ Own w' w.heap.size v' (magicB ++ ([50] ++ (zerosB 15 ++ ns.flatMap (fun n => digs n 4)))) ∧ Below w.heap.size w w' := by
  have H := Lib.hid h; have HN := Lib.hid hn
  have hcl : (castI ns).length = ns.length := by unfold castI; simp
  obtain ⟨A, c, rfl⟩ := h.len
  rw [hcl]
  rw [hcl] at H
  clear h hn hcl
  have kc := fun (w : World) (C : Array Value) (n c : Nat) => Lib.run_convert_bytes_const (P := Try.prog) w 33 5 C n c Try.underlying33 Try.underlying5
  go_enter Try.func30, Try.ntmps30
  go_wp2_with (first
    | (at_builtin; refine plain_append_zeros_new (.tmp 7) (.const (.int .i64 15)) 3 Try.underlying3 rfl rfl w.heap.size w.heap.size 5 [84, 90, 105, 102, 50] 15 (by omega) rfl rfl (magic_cells w _ _) (by decide) (by decide) (by simp) ?_; intro v1 w1 hO hb; have HO1 := Lib.hid hO; have HB1 : Hid (Below w.heap.size w w1) := Lib.hid (((Below.refl w.heap.size w).alloc (Nat.le_refl _) _).trans (hb.mono (by simp))); clear hO hb)
    | fail)
  go_loopw [3, 4] (fun u i wr => ∃ (k : Nat) (acc : List Int), k ≤ ns.length ∧ i = .int .i64 k ∧ acc = (([84, 90, 105, 102, 50] : List Int) ++ zerosB 15) ++ (ns.take k).flatMap (fun n => digs n 4) ∧ acc.length ≤ 20 + 4 * k ∧ Own wr w.heap.size u acc ∧ Below w.heap.size w wr) (fun _ i _ => ns.length - (intOf i).toNat)
  case atStart => exact ⟨0, _, by omega, rfl, by simp, by simp [zerosB], HO1.out, HB1.out⟩
  case round =>
    obtain ⟨k, acc, hk, rfl, hacc, hal, ho, hg⟩ := hrel
    have HA := Lib.hid hacc; have HAL := Lib.hid hal; have HO4 := Lib.hid ho; have HB4 := Lib.hid hg
    clear hacc hal ho hg HO1 HB1
    by_cases hlt : k < ns.length
    · obtain ⟨x, hx⟩ : ∃ x, ns[k]? = some x := ⟨_, List.getElem?_eq_getElem hlt⟩
      obtain ⟨g, off, c', hv, hg, c0⟩ := H.out.one (k := k) (x := (x : Int)) (by unfold castI; rw [List.getElem?_map, hx]; rfl)
      injection hv with e1 e2 e3
      subst e1; subst e3
      clear e2
      have k0 := cells_at g HB4.out (Nat.lt_of_lt_of_le hg hB) c0
      have hk0 : (0 : Int) ≤ (k : Int) := by omega
      have hk1 : (k : Int) < (ns.length : Int) := by omega
      have HNU : Hid (∀ V, Calls Try.prog 31 #[.int .i64 (x : Int), .int .i64 4] V fun e w' => ∃ g2 c2, e = .returned (.slice (some ⟨g2, 0, none⟩) 4 c2) ∧ (∀ j u, (digs x 4)[j]? = some u → w'.cell? ((⟨g2, 0, none⟩ : Addr).add j) = some (by8 u)) ∧ Below V.heap.size V w') := Lib.hid fun V => by
        refine (rnumber_any (x : Int) x 4 (u64_of_nat x (HN.out x (List.mem_of_getElem? hx))) (by omega) V).mono ?_
        rintro e V' ⟨v, he, h1, h2⟩
        obtain ⟨g2, c2, e4, _, _, m4⟩ := h1.open_ (by rw [digs_len]; omega)
        rw [digs_len] at e4
        subst e4
        exact ⟨g2, c2, he, m4, h2⟩
      have HX := Lib.hid hx
      clear hx c0 hg
      go_wp2_with (first
        | (go_at_call 31; refine (HNU.out _).mono ?_; clear HNU; rintro e V ⟨g2, c2, rfl, hc, hb⟩; have HC := Lib.hid hc; have HO5 := Lib.hid (HO4.out.keep hb); have HB5 := Lib.hid (HB4.out.trans (hb.mono HB4.out.size)); clear hc hb)
        | (at_builtin; refine plain_append_bytes (.tmp 15) (.tmp 20) rfl rfl w.heap.size _ acc (digs x 4) ⟨g2, 0, none⟩ 4 c2 rfl rfl (digs_len x 4) HO5.out HC.out (by have := HAL.out; omega) HB5.out.size ?_; intro v6 w6 hO hG; have HO6 := Lib.hid hO; have HB6 := Lib.hid (HB5.out.trans (grew_below HO5.out hG (Nat.le_refl _) HB5.out.size)); clear hO hG)
        | fail)
      exact ⟨⟨k + 1, _, by omega, by go_num, by rw [HA.out, take_one HX.out, List.flatMap_append, List.append_assoc]; simp, by have := HAL.out; rw [List.length_append, digs_len]; omega, HO6.out, HB6.out⟩, by simp [intOf]; omega⟩
    · obtain rfl : k = ns.length := by omega
      have hfin : acc = magicB ++ ([50] ++ (zerosB 15 ++ ns.flatMap (fun n => digs n 4))) := by
        rw [HA.out, List.take_of_length_le (Nat.le_refl _)]
        unfold magicB
        simp
      have HF := Lib.hid hfin
      have hk1 : ¬ (ns.length : Int) < (ns.length : Int) := by omega
      clear hfin
      go_wp2_with fail
      go_ret
      exact ⟨_, rfl, HF.out ▸ HO4.out, HB4.out⟩
end Go.Proofs.Ytljkcnoicdhchaa.Tz
