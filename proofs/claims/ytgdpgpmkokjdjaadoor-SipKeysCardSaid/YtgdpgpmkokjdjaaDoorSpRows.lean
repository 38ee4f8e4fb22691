/-
  A whole array read out of a variable: in a region that draws its order, quiet or still.
-/
import Derived.Test.YtgdpgpmkokjdjaaDoorSpHSum
import Derived.Lib.QuietBelow
namespace Go.Proofs.YtgdpgpmkokjdjaaDoor.Sp
open Go.RowKit

theorem run_load_arr {P : Program} {o : Oper} {a : Act} {w : World} {ty t e : TypeId} {n : Nat} {x : Operand} {g : Nat} {cs : List Value} (ho : o.op = .load ty x) (hx : a.eval x = .pointer (some ⟨g, 0, none⟩))
    (hu : P.underlying ty = some (.array n e)) (hi : (P.info? ty).map (·.size) = some cs.length) (hg : Hold w g t cs) : (execOp a.eval o).run P w = .ok (.value (.agg cs.toArray)) w := by
  unfold execOp
  simp only [ho, hx, Instr.loadAt, Instr.sureAddr, Sem.run_bind, Sem.run_pure, Result.andThen_ok, run_loadVar_row w g t ty cs.toArray (0, 0) _ hg hu rfl (by simpa using hi)]
theorem quiet_load_arr {P : Program} {ops : Array Oper} {C : World → Prop} {Q : Act → Prop} {a : Act} {o : Oper} {rest : List Oper} (ty t e : TypeId) (n : Nat) (x : Operand) (g : Nat) (cs : List Value) (hgd : o.guard = none) (ho : o.op = .load ty x) (hx : a.eval x = .pointer (some ⟨g, 0, none⟩))
    (hu : P.underlying ty = some (.array n e)) (hi : (P.info? ty).map (·.size) = some cs.length) (hg : ∀ w, C w → Hold w g t cs) (h : wpQuiet P ops C Q rest (a.put o.dst (.agg cs.toArray))) : wpQuiet P ops C Q (o :: rest) a := by
  unfold wpQuiet
  rw [if_pos (by simp [Region.wanted, hgd])]
  refine ⟨_, fun w hw => ?_, h⟩
  unfold Oper.quietAt
  rw [run_load_arr ho hx hu hi (hg w hw)]
  exact ⟨rfl, rfl⟩
theorem still_load_arr {P : Program} {ops : Array Oper} {w : World} {Q : Act → Prop} {a : Act} {o : Oper} {rest : List Oper} (ty t e : TypeId) (n : Nat) (x : Operand) (g : Nat) (cs : List Value) (hgd : o.guard = none) (ho : o.op = .load ty x) (hx : a.eval x = .pointer (some ⟨g, 0, none⟩))
    (hu : P.underlying ty = some (.array n e)) (hi : (P.info? ty).map (·.size) = some cs.length) (hg : Hold w g t cs) (h : wpStill P ops w Q rest (a.put o.dst (.agg cs.toArray))) : wpStill P ops w Q (o :: rest) a := by
  unfold wpStill
  rw [if_pos (by simp [Region.wanted, hgd])]
  unfold Oper.still
  rw [run_load_arr ho hx hu hi hg]
  exact ⟨rfl, h⟩
theorem plain_load_arr {P : Program} {ops : Array Oper} {rest : List Oper} {o : Oper} {a : Act} {w : World} {Q : Exit → Act → World → Prop} (ty t e : TypeId) (n : Nat) (x : Operand) (g : Nat) (cs : List Value) (hgd : o.guard = none) (ho : o.op = .load ty x) (hx : a.eval x = .pointer (some ⟨g, 0, none⟩))
    (hu : P.underlying ty = some (.array n e)) (hi : (P.info? ty).map (·.size) = some cs.length) (hg : Hold w g t cs) (h : wpList P ops Q rest (a.put o.dst (.agg cs.toArray)) w) : wpList P ops Q (o :: rest) a w :=
  wpList_load_row hgd ty x ho g hx t cs.toArray (0, 0) _ hg hu rfl (by simpa using hi) h
theorem key_size : (Tryd.prog.info? 23).map (·.size) = some 16 := by kernel_rfl
theorem arr_size : (Tryd.prog.info? 22).map (·.size) = some 16 := by kernel_rfl
theorem key_info {k : List Int} (h : k.length = 16) : (Tryd.prog.info? 23).map (·.size) = some (k.map by8).length := by rw [List.length_map, h]; exact key_size
theorem arr_info {k : List Int} (h : k.length = 16) : (Tryd.prog.info? 22).map (·.size) = some (k.map by8).length := by rw [List.length_map, h]; exact arr_size

set_option maxHeartbeats 1000000 in
theorem sum_any (B n c : Nat) (A : Option Addr) (k bs : List Int) (v : Int) (w : World) (hk : k.length = 16) (hkb : Bytes k) (hr : Row w B A n bs) (hb : Bytes bs) (hB : B ≤ w.heap.size) (hc : n ≤ c) (hm : n ≤ 4294967296) (hv : hash k bs = v) :
    Calls Tryd.prog 9 #[kval k, .slice A n c] w fun e w' => e = .returned (.int .u64 v) ∧ Below w.heap.size w w' := by
  have HV := Lib.hid hv; clear hv
  have HK := Lib.hid hk; clear hk
  unfold kval
  go_enter Tryd.func9, Tryd.ntmps9
  go_wp2_with (first | (with_reducible refine plain_load_arr 23 23 5 16 (.tmp 2) w.heap.size (k.map by8) rfl rfl rfl Tryd.underlying23 (key_info HK.out) (Hold.new _ _ _) ?_) | fail)
  refine (new_any k _ HK.out hkb).mono ?_
  rintro e w1 ⟨g, rfl, hn1, hb1, hg1⟩
  have hwg : w.heap.size ≤ g := by simp at hg1; omega
  have hbw : Below w.heap.size w w1 := ((Below.refl _ _).alloc (Nat.le_refl _) _).trans (hb1.mono (by simp))
  have hr1 : Row w1 B A n bs := hr.below' hbw hB
  clear hb1 hg1
  have HN := Lib.hid hn1; clear hn1
  go_wp2_with fail
  refine (add_any g B n c A k [] bs _ (Has.new HN.out) hr1 hb (by omega) hc hm).mono ?_
  rintro e w2 ⟨rfl, hh2, hb2⟩
  have hbw2 : Below w.heap.size w w2 := hbw.trans (hb2.mono hwg)
  have HH2 := Lib.hid hh2; clear hh2 hb2
  go_wp2_with fail
  refine (hsum_any g k bs v _ (by simpa using HH2.out) hb HV.out).mono ?_
  rintro e w3 ⟨rfl, hb3⟩
  go_wp2_with fail
  go_ret
  exact ⟨rfl, hbw2.trans (hb3.mono hbw2.size)⟩
end Go.Proofs.YtgdpgpmkokjdjaaDoor.Sp
