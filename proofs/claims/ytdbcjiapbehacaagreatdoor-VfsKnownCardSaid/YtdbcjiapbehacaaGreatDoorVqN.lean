/-
  Layer 5: calls of a nil file system; rows of calls that a law makes itself.
-/
import Derived.Test.YtdbcjiapbehacaaGreatDoorVqZ
import Derived.Test.YtdbcjiapbehacaaGreatDoorVfsPlaysWalk
import Derived.Test.YtdbcjiapbehacaaGreatDoorVfsKeepsWalk
namespace Go.Proofs.YtdbcjiapbehacaaGreatDoor.Vp
open Go.RowKit Go.Maps
open Go.Proofs.YtdbcjiapbehacaaGreatDoor.Vf (Hold OwnR Reads Reads.at_ Reads.len OwnR.reads)

theorem begin_nil (v u : Value) (w : World) : Calls Tryz.prog 42 #[.pointer none, v, u] w fun e w' => e = .returned (.int .i64 1) ∧ w = w' := by
  go_enter Tryz.func42, Tryz.ntmps42
  go_wp2_with fail
  go_ret
  exact ⟨rfl, rfl⟩
theorem find_nil (path : ByteArray) (w : World) : Calls Tryz.prog 48 #[.pointer none, .string path] w fun e w' => e = .returned (.tuple #[.pointer none, .int .i64 1]) ∧ Below w.heap.size w w' := by
  go_enter Tryz.func48, Tryz.ntmps48
  go_wp2_with (first
    | (go_at_call 42; refine (begin_nil _ _ _).mono ?_; rintro e w1 ⟨rfl, rfl⟩)
    | fail)
  go_ret2
  exact ⟨rfl, (Below.refl _ _).alloc (Nat.le_refl _) _⟩
theorem read_nil (path : ByteArray) (w : World) : Calls Tryz.prog 20 #[.pointer none, .string path] w fun e w' => e = .returned (.tuple #[.slice none 0 0, .int .i64 1]) ∧ Below w.heap.size w w' := by
  go_enter Tryz.func20, Tryz.ntmps20
  go_wp2_with (first
    | (go_at_call 48; refine (find_nil _ _).mono ?_; rintro e w1 ⟨rfl, hb⟩; have HB := Lib.hid hb; clear hb)
    | fail)
  go_ret2
  exact ⟨rfl, HB.out⟩
theorem mkdir_nil (path : ByteArray) (w : World) : Calls Tryz.prog 23 #[.pointer none, .string path] w fun e w' => e = .returned (.int .i64 1) ∧ Below w.heap.size w w' := by
  go_enter Tryz.func23, Tryz.ntmps23
  go_wp2_with (first
    | (go_at_call 42; refine (begin_nil _ _ _).mono ?_; rintro e w1 ⟨rfl, rfl⟩)
    | fail)
  go_ret
  exact ⟨rfl, (Below.refl _ _).alloc (Nat.le_refl _) _⟩
theorem crashAt_nil (n : Int) (w : World) : Calls Tryz.prog 15 #[.pointer none, .int .i64 n] w fun e w' => (∃ r, e = .returned r) ∧ w = w' := by
  go_enter Tryz.func15, Tryz.ntmps15
  go_wp2_with fail
  go_end0
  exact ⟨⟨_, rfl⟩, rfl⟩
set_option maxRecDepth 100000 in
set_option maxHeartbeats 2000000 in
theorem reboot_nil (n : Int) (w : World) : Calls Tryz.prog 19 #[.pointer none, .int .i64 n] w fun e w' => (∃ r, e = .returned r) ∧ Below w.heap.size w w' := by
  go_enter Tryz.func19, Tryz.ntmps19
  go_wp2_with fail
  (try simp only [Exit.inBlock, Exit.then])
  refine bodyPost_ret (results_none rfl _ _ _) rfl ?_
  exact ⟨⟨_, rfl⟩, Below.refl _ _⟩
theorem down_nil (w : World) : Calls Tryz.prog 24 #[.pointer none] w fun e w' => e = .returned (.bool false) ∧ w = w' := by
  go_enter Tryz.func24, Tryz.ntmps24
  go_wp2_with fail
  go_ret
  exact ⟨rfl, rfl⟩
theorem used_nil (w : World) : Calls Tryz.prog 22 #[.pointer none] w fun e w' => e = .returned (.int .i64 0) ∧ w = w' := by
  go_enter Tryz.func22, Tryz.ntmps22
  go_wp2_with fail
  go_ret
  exact ⟨rfl, rfl⟩
set_option maxRecDepth 100000 in
set_option maxHeartbeats 2000000 in
theorem copy_nil (w : World) : Calls Tryz.prog 25 #[.pointer none] w fun e w' => e = .returned (.pointer none) ∧ w = w' := by
  go_enter Tryz.func25, Tryz.ntmps25
  go_wp2_with fail
  go_ret
  exact ⟨rfl, rfl⟩

/-! ### Rows of calls -/
theorem op_info : (Tryz.prog.info? 32).map (fun i => (i.zero, i.size, i.bytes)) = some (some (.agg #[.int .u8 0, .string ⟨#[]⟩, .string ⟨#[]⟩, .int .i64 0]), 4, 48) := by kernel_rfl
theorem op_cells_one (l : List Op) : (∀ y ∈ l.map opCells, y.length = 4) ∧ ∀ y ∈ l.map opCells, ∀ u ∈ y, u.oneCell' = true := by
  constructor
  · intro y hy; obtain ⟨x, _, rfl⟩ := List.mem_map.1 hy; rfl
  · intro y hy u hu; obtain ⟨x, _, rfl⟩ := List.mem_map.1 hy; simp [opCells] at hu; rcases hu with rfl | rfl | rfl | rfl <;> rfl
theorem ops_lit (w : World) (base : Nat) (os : List Op) (cs : Array Value) (hb : base ≤ w.heap.size) (hcs : cs.toList = (os.map opCells).flatten) (hn : os.length ≤ 1000) : OwnR (w.alloc (.cells cs 32)) base 32 4 (.slice (some ⟨w.heap.size, 0, none⟩) os.length os.length) (os.map opCells) := by
  have hs : cs.size = os.length * 4 := by
    have h1 : ∀ l : List Op, (l.map opCells).flatten.length = l.length * 4 := fun l => by
      induction l with
      | nil => rfl
      | cons a l ih => rw [List.map_cons, List.flatten_cons, List.length_append, ih, List.length_cons]; show 4 + _ = _; omega
    rw [← Array.length_toList, hcs, h1]
  have h := World.ownsRow_lit (base := base) (e := 32) (size := 4) w cs os.length hb (by unfold maxLen; omega) hs
  rw [hcs] at h
  exact ⟨by rw [List.length_map]; exact h, (op_cells_one os).1⟩
theorem own_ops {W : World} {base n c : Nat} {A : Option Addr} {os : List Op} (h : OwnR W base 32 4 (.slice A n c) (os.map opCells)) (hok : ∀ o ∈ os, o.Ok) : Ops W W.heap.size A n os := by
  obtain ⟨A', c', e⟩ := h.reads.len
  injection e with _ e2 _
  rw [List.length_map] at e2
  refine ⟨e2.symm, fun j o ho => ⟨hok o (List.mem_of_getElem? ho), ?_⟩⟩
  obtain ⟨g, cap, e3, _, hc⟩ := h.reads.at_ (k := j) (cs := opCells o) (by rw [List.getElem?_map, ho]; rfl)
  injection e3 with e4 _ _
  subst e4
  have h0 := hc 0 _ rfl
  have h1 := hc 1 _ rfl
  have h2 := hc 2 _ rfl
  have h3 := hc 3 _ rfl
  refine ⟨g, 0, rfl, (h.lt g rfl).2, ?_, ?_, ?_, ?_⟩
  · rw [Nat.zero_add]; exact h0
  · rw [Nat.zero_add]; exact h1
  · rw [Nat.zero_add]; exact h2
  · rw [Nat.zero_add]; exact h3
theorem own_ops_from {W : World} {base g n c : Nat} {os : List Op} (h : OwnR W base 32 4 (.slice (some ⟨g, 0, none⟩) n c) (os.map opCells)) (hok : ∀ o ∈ os, o.Ok) (m : Nat) : Ops W W.heap.size (some ⟨g, m * 4, none⟩) (n - m) (os.drop m) := by
  have h1 := own_ops h hok
  refine ⟨by rw [List.length_drop, h1.len], fun j o ho => ?_⟩
  rw [List.getElem?_drop] at ho
  obtain ⟨a, g', off, e, b, c0, c1, c2, c3⟩ := h1.at_ (m + j) o ho
  injection e with e
  injection e with e1 e2 _
  subst e1; subst e2
  have e4 : m * 4 + j * 4 = 0 + (m + j) * 4 := by omega
  exact ⟨a, g, m * 4, rfl, b, by rw [e4]; exact c0, by rw [e4]; exact c1, by rw [e4]; exact c2, by rw [e4]; exact c3⟩
end Go.Proofs.YtdbcjiapbehacaaGreatDoor.Vp
