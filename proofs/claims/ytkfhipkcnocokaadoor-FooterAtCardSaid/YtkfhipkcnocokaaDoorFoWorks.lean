/-
  Layer 7 (footer): the chapter's examples hold.
-/
import Derived.Test.YtkfhipkcnocokaaDoorFoParse
namespace Go.Proofs.YtkfhipkcnocokaaDoor.Fo
open Go.RowKit

def rA : Rl := ⟨⟨#[85, 84, 67]⟩, ⟨#[]⟩, 0, 0, dy0, dy0⟩
def rB : Rl := ⟨⟨#[67, 69, 84]⟩, ⟨#[67, 69, 83, 84]⟩, 3600, 7200, ⟨3, 3, 5, 0, 7200⟩, ⟨3, 10, 5, 0, 10800⟩⟩
def rC : Rl := ⟨⟨#[45, 48, 51]⟩, ⟨#[]⟩, -10800, 0, dy0, dy0⟩
set_option maxRecDepth 100000 in
theorem parse_1 : parseE ⟨#[85, 84, 67, 48]⟩ = .tuple #[rlV rA, .int .i64 0] := by kernel_rfl
set_option maxRecDepth 100000 in
theorem parse_2 : parseE ⟨#[67, 69, 84, 45, 49, 67, 69, 83, 84, 44, 77, 51, 46, 53, 46, 48, 44, 77, 49, 48, 46, 53, 46, 48, 47, 51]⟩ = .tuple #[rlV rB, .int .i64 0] := by kernel_rfl
set_option maxRecDepth 100000 in
theorem parse_3 : parseE ⟨#[60, 45, 48, 51, 62, 51]⟩ = .tuple #[rlV rC, .int .i64 0] := by kernel_rfl
set_option maxRecDepth 100000 in
theorem parse_4 : parseE ⟨#[69, 83, 84, 53, 69, 68, 84]⟩ = .tuple #[rlV rl0, .int .i64 70] := by kernel_rfl
theorem RlAt.alloc {V : World} {B : Nat} {r : Rl} (h : RlAt V B r) (o : Obj) : RlAt (V.alloc o) B r := h.below ((Below.refl V.heap.size V).alloc (Nat.le_refl _) o) h.lt
theorem Er.alloc {V : World} (h : Er V) (o : Obj) : Er (V.alloc o) := h.below ((Below.refl V.heap.size V).alloc (Nat.le_refl _) o) h.hi
theorem below_alloc {w V : World} (h : Below w.heap.size w V) (o : Obj) : Below w.heap.size w (V.alloc o) := h.trans (((Below.refl V.heap.size V).alloc (Nat.le_refl _) o).mono h.size)
set_option maxRecDepth 100000 in
set_option maxHeartbeats 4000000 in
theorem works_any (w : World) (her : Er w) : Calls Tryd.prog 9 #[] w fun e w' => e = .returned (.bool true) ∧ Below w.heap.size w w' := by
  have H1 : Hid (∀ V, Er V → Calls Tryd.prog 15 #[.string ⟨#[85, 84, 67, 48]⟩] V fun e w' => e = .returned (.tuple #[rlV rA, .int .i64 0]) ∧ Below V.heap.size V w') := Lib.hid fun V hV => by have := parse_any ⟨#[85, 84, 67, 48]⟩ V hV; rwa [parse_1] at this
  have H2 : Hid (∀ V, Er V → Calls Tryd.prog 15 #[.string ⟨#[67, 69, 84, 45, 49, 67, 69, 83, 84, 44, 77, 51, 46, 53, 46, 48, 44, 77, 49, 48, 46, 53, 46, 48, 47, 51]⟩] V fun e w' => e = .returned (.tuple #[rlV rB, .int .i64 0]) ∧ Below V.heap.size V w') := Lib.hid fun V hV => by have := parse_any ⟨#[67, 69, 84, 45, 49, 67, 69, 83, 84, 44, 77, 51, 46, 53, 46, 48, 44, 77, 49, 48, 46, 53, 46, 48, 47, 51]⟩ V hV; rwa [parse_2] at this
  have H3 : Hid (∀ V, Er V → Calls Tryd.prog 15 #[.string ⟨#[60, 45, 48, 51, 62, 51]⟩] V fun e w' => e = .returned (.tuple #[rlV rC, .int .i64 0]) ∧ Below V.heap.size V w') := Lib.hid fun V hV => by have := parse_any ⟨#[60, 45, 48, 51, 62, 51]⟩ V hV; rwa [parse_3] at this
  have H4 : Hid (∀ V, Er V → Calls Tryd.prog 15 #[.string ⟨#[69, 83, 84, 53, 69, 68, 84]⟩] V fun e w' => e = .returned (.tuple #[rlV rl0, .int .i64 70]) ∧ Below V.heap.size V w') := Lib.hid fun V hV => by have := parse_any ⟨#[69, 83, 84, 53, 69, 68, 84]⟩ V hV; rwa [parse_4] at this
  have E0 := Lib.hid her
  clear her
  go_enter Tryd.func9, Tryd.ntmps9
  go_wp2_with (first
    | (go_at_call 15; refine (H1.out _ E0.out).mono ?_; clear H1; rintro e V1 ⟨rfl, hb⟩; have B1 : Hid (∀ o, Below w.heap.size w (V1.alloc o)) := Lib.hid (fun o => below_alloc hb o); have E1 : Hid (∀ o, Er (V1.alloc o)) := Lib.hid (fun o => (E0.out.below hb E0.out.hi).alloc o); have A1 := Lib.hid (RlAt.new V1 rA 25); clear hb)
    | (go_at_call 15; refine (H2.out _ (E1.out _)).mono ?_; clear H2; rintro e V2 ⟨rfl, hb⟩; have B2 : Hid (∀ o, Below w.heap.size w (V2.alloc o)) := Lib.hid (fun o => below_alloc ((B1.out _).trans (hb.mono (B1.out _).size)) o); have E2 : Hid (∀ o, Er (V2.alloc o)) := Lib.hid (fun o => ((E1.out _).below hb (E1.out _).hi).alloc o); have A2 : Hid (∀ o, RlAt (V2.alloc o) V1.heap.size rA) := Lib.hid (fun o => (A1.out.below hb A1.out.lt).alloc o); have C2 := Lib.hid (RlAt.new V2 rB 25); clear hb)
    | (go_at_call 15; refine (H3.out _ (E2.out _)).mono ?_; clear H3; rintro e V3 ⟨rfl, hb⟩; have B3 : Hid (∀ o, Below w.heap.size w (V3.alloc o)) := Lib.hid (fun o => below_alloc ((B2.out _).trans (hb.mono (B2.out _).size)) o); have E3 : Hid (∀ o, Er (V3.alloc o)) := Lib.hid (fun o => ((E2.out _).below hb (E2.out _).hi).alloc o); have A3 : Hid (∀ o, RlAt (V3.alloc o) V1.heap.size rA) := Lib.hid (fun o => ((A2.out _).below hb (A2.out _).lt).alloc o); have C3 : Hid (∀ o, RlAt (V3.alloc o) V2.heap.size rB) := Lib.hid (fun o => (C2.out.below hb C2.out.lt).alloc o); have D3 := Lib.hid (RlAt.new V3 rC 25); clear hb)
    | (go_at_call 15; refine (H4.out _ (E3.out _)).mono ?_; clear H4; rintro e V4 ⟨rfl, hb⟩; have B4 : Hid (∀ o, Below w.heap.size w (V4.alloc o)) := Lib.hid (fun o => below_alloc ((B3.out _).trans (hb.mono (B3.out _).size)) o); have E4 : Hid (∀ o, Er (V4.alloc o)) := Lib.hid (fun o => ((E3.out _).below hb (E3.out _).hi).alloc o); have A4 : Hid (∀ o, RlAt (V4.alloc o) V1.heap.size rA) := Lib.hid (fun o => ((A3.out _).below hb (A3.out _).lt).alloc o); have C4 : Hid (∀ o, RlAt (V4.alloc o) V2.heap.size rB) := Lib.hid (fun o => ((C3.out _).below hb (C3.out _).lt).alloc o); have D4 : Hid (∀ o, RlAt (V4.alloc o) V3.heap.size rC) := Lib.hid (fun o => (D3.out.below hb D3.out.lt).alloc o); have a0 : ∀ o, (V4.alloc o).cell? ⟨V1.heap.size, 0, none⟩ = some (.string ⟨#[85, 84, 67]⟩) := (fun o => (A4.out o).c0); have a1 : ∀ o, (V4.alloc o).cell? ⟨V1.heap.size, 1, none⟩ = some (.string ⟨#[]⟩) := (fun o => (A4.out o).c1); have a2 : ∀ o, (V4.alloc o).cell? ⟨V1.heap.size, 2, none⟩ = some (.int .i64 0) := (fun o => (A4.out o).c2); have a3 : ∀ o, (V4.alloc o).cell? ⟨V1.heap.size, 3, none⟩ = some (.int .i64 0) := (fun o => (A4.out o).c3); have a4 : ∀ o, (V4.alloc o).cell? ⟨V1.heap.size, 4, none⟩ = some (.int .u8 0) := (fun o => (A4.out o).c4); have a5 : ∀ o, (V4.alloc o).cell? ⟨V1.heap.size, 5, none⟩ = some (.int .i64 0) := (fun o => (A4.out o).c5); have a6 : ∀ o, (V4.alloc o).cell? ⟨V1.heap.size, 6, none⟩ = some (.int .i64 0) := (fun o => (A4.out o).c6); have a7 : ∀ o, (V4.alloc o).cell? ⟨V1.heap.size, 7, none⟩ = some (.int .i64 0) := (fun o => (A4.out o).c7); have a8 : ∀ o, (V4.alloc o).cell? ⟨V1.heap.size, 8, none⟩ = some (.int .i64 0) := (fun o => (A4.out o).c8); have a9 : ∀ o, (V4.alloc o).cell? ⟨V1.heap.size, 9, none⟩ = some (.int .u8 0) := (fun o => (A4.out o).c9); have a10 : ∀ o, (V4.alloc o).cell? ⟨V1.heap.size, 10, none⟩ = some (.int .i64 0) := (fun o => (A4.out o).c10); have a11 : ∀ o, (V4.alloc o).cell? ⟨V1.heap.size, 11, none⟩ = some (.int .i64 0) := (fun o => (A4.out o).c11); have a12 : ∀ o, (V4.alloc o).cell? ⟨V1.heap.size, 12, none⟩ = some (.int .i64 0) := (fun o => (A4.out o).c12); have a13 : ∀ o, (V4.alloc o).cell? ⟨V1.heap.size, 13, none⟩ = some (.int .i64 0) := (fun o => (A4.out o).c13); have b2 : ∀ o, (V4.alloc o).cell? ⟨V2.heap.size, 2, none⟩ = some (.int .i64 3600) := (fun o => (C4.out o).c2); have b3 : ∀ o, (V4.alloc o).cell? ⟨V2.heap.size, 3, none⟩ = some (.int .i64 7200) := (fun o => (C4.out o).c3); have b8 : ∀ o, (V4.alloc o).cell? ⟨V2.heap.size, 8, none⟩ = some (.int .i64 7200) := (fun o => (C4.out o).c8); have b13 : ∀ o, (V4.alloc o).cell? ⟨V2.heap.size, 13, none⟩ = some (.int .i64 10800) := (fun o => (C4.out o).c13); have d0 : ∀ o, (V4.alloc o).cell? ⟨V3.heap.size, 0, none⟩ = some (.string ⟨#[45, 48, 51]⟩) := (fun o => (D4.out o).c0); have d2 : ∀ o, (V4.alloc o).cell? ⟨V3.heap.size, 2, none⟩ = some (.int .i64 (-10800)) := (fun o => (D4.out o).c2); clear hb)
    | fail)
  go_ret
  exact ⟨rfl, B4.out _⟩
end Go.Proofs.YtkfhipkcnocokaaDoor.Fo
