/-
  Layer 6 (tzif): a file of two blocks, read.
-/
import Derived.Test.YtljkcnoicdhchaaTzBq
namespace Go.Proofs.Ytljkcnoicdhchaa.Tz
open Go.RowKit

/-- A head in a block of memory. -/
structure HdBox (U : World) (Q : Nat) (h : Hd) : Prop where
  d0 : U.cell? ⟨Q, 0, none⟩ = some (.int .u8 h.version)
  d1 : U.cell? ⟨Q, 1, none⟩ = some (.int .i64 h.uts)
  d2 : U.cell? ⟨Q, 2, none⟩ = some (.int .i64 h.stds)
  d3 : U.cell? ⟨Q, 3, none⟩ = some (.int .i64 h.leaps)
  d4 : U.cell? ⟨Q, 4, none⟩ = some (.int .i64 h.times)
  d5 : U.cell? ⟨Q, 5, none⟩ = some (.int .i64 h.types)
  d6 : U.cell? ⟨Q, 6, none⟩ = some (.int .i64 h.letters)
  lt : Q < U.heap.size
section
variable {U V : World} {Q : Nat} {h : Hd}
theorem HdBox.below (k : HdBox U Q h) {C : Nat} (hb : Below C U V) (hC : Q < C) : HdBox V Q h :=
  ⟨cells_at _ hb hC k.d0, cells_at _ hb hC k.d1, cells_at _ hb hC k.d2, cells_at _ hb hC k.d3, cells_at _ hb hC k.d4, cells_at _ hb hC k.d5, cells_at _ hb hC k.d6, Nat.lt_of_lt_of_le k.lt hb.size⟩
theorem HdBox.gb (k : HdBox U Q h) {g : Nat} (hg : U.grownBy V (some g)) (hn : Q ≠ g) : HdBox V Q h :=
  ⟨gb_cell hg k.lt hn k.d0, gb_cell hg k.lt hn k.d1, gb_cell hg k.lt hn k.d2, gb_cell hg k.lt hn k.d3, gb_cell hg k.lt hn k.d4, gb_cell hg k.lt hn k.d5, gb_cell hg k.lt hn k.d6, Nat.lt_of_lt_of_le k.lt hg.size⟩
theorem HdBox.new (W : World) (h : Hd) : HdBox (W.alloc (.cells #[.int .u8 h.version, .int .i64 h.uts, .int .i64 h.stds, .int .i64 h.leaps, .int .i64 h.times, .int .i64 h.types, .int .i64 h.letters] 60)) W.heap.size h :=
  have hq : ∀ i u, (#[.int .u8 h.version, .int .i64 h.uts, .int .i64 h.stds, .int .i64 h.leaps, .int .i64 h.times, .int .i64 h.types, .int .i64 h.letters] : Array Value)[i]? = some u → (W.alloc (.cells #[.int .u8 h.version, .int .i64 h.uts, .int .i64 h.stds, .int .i64 h.leaps, .int .i64 h.times, .int .i64 h.types, .int .i64 h.letters] 60)).cell? ⟨W.heap.size, i, none⟩ = some u := fun i u hu => cell_new W _ _ _ i u rfl hu
  ⟨hq 0 _ rfl, hq 1 _ rfl, hq 2 _ rfl, hq 3 _ rfl, hq 4 _ rfl, hq 5 _ rfl, hq 6 _ rfl, by simp⟩
end
/-- What parse keeps: the reader, its result's variable, the global. -/
structure Pk (w U : World) (B g : Nat) (m : Int) (l : List Nat) : Prop where
  rd : Rd U B g l
  rb : ZnBox U w.heap.size (.slice none 0 0) (.slice none 0 0) (.slice none 0 0) (.string ⟨#[]⟩)
  gl : U.cell? ⟨0, 0, none⟩ = some (.int .i64 m)
  gb : w.grownBy U (some g)
  lt : g < w.heap.size
section
variable {w U V : World} {B g : Nat} {m : Int} {l : List Nat}
theorem Pk.step (k : Pk w U B g m l) {C : Nat} (hb : Below C U V) (hC : w.heap.size + 1 ≤ C) : Pk w V B g m l :=
  ⟨k.rd.below hb (by have := k.lt; omega), k.rb.below hb (by omega), cells_at _ hb (by omega) k.gl, gb_below k.gb (hb.mono (by omega)), k.lt⟩
theorem Pk.read (k : Pk w U B g m l) {l' : List Nat} (hg : U.grownBy V (some g)) (hr : Rd V B g l') (hB : 0 < B) : Pk w V B g m l' :=
  ⟨hr, k.rb.gb hg (by have := k.lt; omega), gb_cell hg (by have := k.rb.lt; omega) (by have := k.rd.lo; omega) k.gl, k.gb.trans hg, k.lt⟩
theorem Pk.alloc (k : Pk w U B g m l) (o : Obj) : Pk w (U.alloc o) B g m l := k.step ((Below.refl U.heap.size U).alloc (Nat.le_refl _) o) k.rb.lt
theorem Pk.start (hr : Rd w B g l) (hm : w.cell? ⟨0, 0, none⟩ = some (.int .i64 m)) : Pk w (w.alloc (.cells #[.slice none 0 0, .slice none 0 0, .slice none 0 0, .string ⟨#[]⟩] 26)) B g m l := by
  have hb : Below w.heap.size w (w.alloc (.cells #[.slice none 0 0, .slice none 0 0, .slice none 0 0, .string ⟨#[]⟩] 26)) := (Below.refl _ _).alloc (Nat.le_refl _) _
  exact ⟨hr.below hb hr.lt, ZnBox.new _ _ rfl _ _ _ _ _, cells_at 0 hb (by have := hr.lt; omega) hm, gb_below (World.grownBy.refl _ _) hb, hr.lt⟩
end
set_option maxRecDepth 100000 in
set_option maxHeartbeats 1000000 in
/-- The second block is refused. -/
theorem parse_d (l l4 : List Nat) (B g : Nat) (m : Int) (w : World) (h : Rd w B g l) (hB : 0 < B) (h0 : w.cell? ⟨0, 0, none⟩ = some (.int .i64 m)) (hb : ∀ b ∈ l, b < 256) (hq : hdGood l = true) (hv : l.getD 4 0 ≠ 0) (ho : HdOk (hdOf l)) (hl : longN (hdOf l) 4 ≤ (l.drop 44).length) (hq2 : hdGood ((l.drop 44).drop (longN (hdOf l) 4)) = true)
    (hv2 : (hdOf ((l.drop 44).drop (longN (hdOf l) 4))).version = (hdOf l).version) (e4 : ((l.drop 44).drop (longN (hdOf l) 4)).drop 44 = l4)
    (hblk : ∀ V, Rd V B g l4 → V.cell? ⟨0, 0, none⟩ = some (.int .i64 m) → Calls Try.prog 45 #[.pointer (some ⟨g, 0, none⟩), hdVal (hdOf ((l.drop 44).drop (longN (hdOf l) 4))), .int .i64 8] V fun e w' => e = .returned (.tuple #[noZone, .bool false]) ∧ V.grownBy w' (some g)) :
    Calls Try.prog 39 #[.pointer (some ⟨g, 0, none⟩)] w fun e w' => e = .returned (.tuple #[noZone, .bool false]) ∧ w.grownBy w' (some g) := by
  have K0 := Lib.hid (Pk.start h h0)
  obtain ⟨X, hX⟩ : ∃ X, w.alloc (.cells #[.slice none 0 0, .slice none 0 0, .slice none 0 0, .string ⟨#[]⟩] 26) = X := ⟨_, rfl⟩
  rw [hX] at K0
  have HH : Hid (Calls Try.prog 44 #[.pointer (some ⟨g, 0, none⟩)] X fun e w' => e = .returned (.tuple #[hdVal (hdOf l), .bool true]) ∧ Rd w' B g (l.drop 44) ∧ X.grownBy w' (some g)) := Lib.hid (head_yes l B g X K0.out.rd hb hq)
  have HL : Hid (∀ V, Calls Try.prog 23 #[hdVal (hdOf l), .int .i64 4] V fun e w' => e = .returned (.int .i64 (longN (hdOf l) 4)) ∧ Below V.heap.size V w') := Lib.hid fun V => blockLong_any (hdOf l) 4 (.inl rfl) ho V
  have hver : (hdOf l).version = l.getD 4 0 := rfl
  rw [← hver] at hv
  obtain ⟨h1, e1⟩ : ∃ h1, hdOf l = h1 := ⟨_, rfl⟩
  obtain ⟨l2, e2⟩ : ∃ l2, l.drop 44 = l2 := ⟨_, rfl⟩
  have hb2 : ∀ b ∈ l2, b < 256 := fun b hx => hb b (by rw [← e2] at hx; exact List.mem_of_mem_drop hx)
  rw [e1, e2] at HH
  rw [e1] at HL hv
  rw [e1, e2] at hl hq2 hv2 hblk e4
  obtain ⟨Nn, hN⟩ : ∃ Nn, longN h1 4 = Nn := ⟨_, rfl⟩
  rw [hN] at HL hl hq2 hv2 hblk e4
  obtain ⟨l3, e3⟩ : ∃ l3, l2.drop Nn = l3 := ⟨_, rfl⟩
  rw [e3] at hq2 hv2 hblk e4
  obtain ⟨h2, e5⟩ : ∃ h2, hdOf l3 = h2 := ⟨_, rfl⟩
  have hb3 : ∀ b ∈ l3, b < 256 := fun b hx => hb2 b (by rw [← e3] at hx; exact List.mem_of_mem_drop hx)
  have HN : Hid (∀ V, Rd V B g l2 → Calls Try.prog 46 #[.pointer (some ⟨g, 0, none⟩), .int .i64 Nn] V fun e w' => e = .returned (.bool true) ∧ V = w') := Lib.hid fun V hr => by
    have := has_any l2 B g Nn V hr
    rwa [show decide ((Nn : Int) ≤ (l2.length : Int)) = true by simp; omega] at this
  have HL2 := HL
  have HT : Hid (∀ V, Rd V B g l2 → Calls Try.prog 47 #[.pointer (some ⟨g, 0, none⟩), .int .i64 Nn] V fun e w' => (∃ A c, e = .returned (.slice A Nn c)) ∧ Rd w' B g l3 ∧ V.grownBy w' (some g)) := Lib.hid fun V hr => by
    refine (take_any l2 B g Nn V hr hl).mono ?_
    rintro e w' ⟨A, c, he, _, h1, h2⟩
    rw [e3] at h1
    exact ⟨⟨A, c, he⟩, h1, h2⟩
  have HH2 : Hid (∀ V, Rd V B g l3 → Calls Try.prog 44 #[.pointer (some ⟨g, 0, none⟩)] V fun e w' => e = .returned (.tuple #[hdVal h2, .bool true]) ∧ Rd w' B g l4 ∧ V.grownBy w' (some g)) := Lib.hid fun V hr => by
    have := head_yes l3 B g V hr hb3 hq2
    rwa [e4, e5] at this
  rw [e5] at hv2 hblk
  have HBK := Lib.hid hblk
  have HB := Lib.hid hB
  clear hq hq2 hb hb2 hb3 hl hN e1 e2 e3 e4 e5 hblk hB ho h h0 hver
  have v0 : decide ((h1.version : Int) = 0) = false := by simp; omega
  have v1 : ((h1.version : Int) == 0) = false := by simp; omega
  clear hv
  obtain ⟨version, uts, stds, leaps, times, types, letters⟩ := h1
  obtain ⟨version2, uts2, stds2, leaps2, times2, types2, letters2⟩ := h2
  simp only at hv2 v0 v1
  subst hv2
  unfold hdVal at HH HL HL2 HH2 HBK
  unfold noZone at HBK
  simp only at HH HL HL2 HH2 HBK
  go_enter Try.func39, Try.ntmps39
  go_wp2_with (first
    | (go_at_call 44; (try rw [hX]); refine HH.out.mono ?_; clear HH; rintro e V1 ⟨rfl, hr, hg⟩; have K1 := Lib.hid (K0.out.read hg hr HB.out); have B2 := Lib.hid (HdBox.new V1 ⟨version2, uts, stds, leaps, times, types, letters⟩); clear hr hg hX)
    | (go_at_call 23; refine (HL.out _).mono ?_; clear HL; rintro e V2 ⟨rfl, hb⟩; have K2 := Lib.hid ((K1.out.alloc _).step hb (by have := K1.out.rb.lt; simp; omega)); have B3 := Lib.hid (B2.out.below hb (by simp)); have hP1 := Lib.hid K1.out.rb.lt; clear hb; have q0 : V2.cell? ⟨V1.heap.size, 0, none⟩ = some (.int .u8 version2) := B3.out.d0; have q1 : V2.cell? ⟨V1.heap.size, 1, none⟩ = some (.int .i64 uts) := B3.out.d1; have q2 : V2.cell? ⟨V1.heap.size, 2, none⟩ = some (.int .i64 stds) := B3.out.d2; have q3 : V2.cell? ⟨V1.heap.size, 3, none⟩ = some (.int .i64 leaps) := B3.out.d3; have q4 : V2.cell? ⟨V1.heap.size, 4, none⟩ = some (.int .i64 times) := B3.out.d4; have q5 : V2.cell? ⟨V1.heap.size, 5, none⟩ = some (.int .i64 types) := B3.out.d5; have q6 : V2.cell? ⟨V1.heap.size, 6, none⟩ = some (.int .i64 letters) := B3.out.d6)
    | (go_at_call 46; refine (HN.out _ K2.out.rd).mono ?_; clear HN; rintro e V3 ⟨rfl, rfl⟩)
    | (go_at_call 23; refine (HL2.out _).mono ?_; clear HL2; rintro e V3 ⟨rfl, hb⟩; have K3 := Lib.hid (K2.out.step hb K2.out.rb.lt); have B4 := Lib.hid (B3.out.below hb B3.out.lt); clear hb q0 q1 q2 q3 q4 q5 q6)
    | (go_at_call 47; refine (HT.out _ K3.out.rd).mono ?_; clear HT; rintro e V4 ⟨⟨A4, c4, rfl⟩, hr, hg⟩; have K4 := Lib.hid (K3.out.read hg hr HB.out); have B5 := Lib.hid (B4.out.gb hg (by have := K3.out.lt; have := hP1.out; omega)); clear hr hg)
    | (go_at_call 44; refine (HH2.out _ K4.out.rd).mono ?_; clear HH2; rintro e V5 ⟨rfl, hr, hg⟩; have K5 := Lib.hid (K4.out.read hg hr HB.out); have B6 := Lib.hid (B5.out.gb hg (by have := K3.out.lt; have := hP1.out; omega)); have C5 := Lib.hid (HdBox.new V5 ⟨version2, uts2, stds2, leaps2, times2, types2, letters2⟩); clear hr hg; have q0 : ∀ o, (V5.alloc o).cell? ⟨V1.heap.size, 0, none⟩ = some (.int .u8 version2) := (fun o => cell_old V5 o _ _ _ B6.out.lt B6.out.d0))
    | (go_at_call 45; refine (HBK.out _ (K5.out.alloc _).rd (K5.out.alloc _).gl).mono ?_; clear HBK; rintro e V6 ⟨rfl, hg⟩; clear q0; have HG6 := Lib.hid ((K5.out.alloc _).gb.trans hg); have ZR := Lib.hid ((K5.out.alloc _).rb.gb hg (by have := K5.out.lt; omega)); clear hg; have k0 := ZR.out.c0; have k1 := ZR.out.c1; have k2 := ZR.out.c2; have k3 := ZR.out.c3; have f0 := ZR.out.fr 0; have f1 := ZR.out.fr 1; have f2 := ZR.out.fr 2; have f3 := ZR.out.fr 3; have HS1 := ZR.out.lt)
    | fail)
  exact bodyPost_ret (v := .tuple #[noZone, .bool false]) (by simp [results, Try.results39, go_sem, noZone, k0, k1, k2, k3, HS1]) rfl ⟨rfl, gb_below HG6.out ((((((Below.refl w.heap.size V6).setCell (Nat.le_refl _) _).setCell (Nat.le_refl _) _).setCell (Nat.le_refl _) _).setCell (Nat.le_refl _) _).alloc (by have := Nat.le_of_lt HS1; simpa using this) _)⟩
end Go.Proofs.Ytljkcnoicdhchaa.Tz
