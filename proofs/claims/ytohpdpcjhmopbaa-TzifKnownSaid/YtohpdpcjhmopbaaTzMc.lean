/-
  TzP, TzQ, TzR, TzS, one behind the other.
-/
import Derived.Test.YtohpdpcjhmopbaaTzMb
import Derived.Handy
import Derived.Lib.SlBytesConst
/-! Layer 6 (tzif): the program's Put. -/
namespace Go.Proofs.Ytohpdpcjhmopbaa.Tz
open Go.RowKit

def timesB (l : List Int) : List Int := l.flatMap fun t => digs (IntKind.u64.wrap t).toNat 8
def indexB (l : List Int) : List Int := l.map fun i => i % 256
def hd1 : Hd := ⟨50, 0, 0, 0, 0, 1, 1⟩
def hd2 (z : Zn) : Hd := ⟨50, 0, 0, 0, z.times.length, z.types.length, letters z.types⟩
/-- The bytes ahead of the times. -/
def topB (z : Zn) : List Int := headB hd1 ++ zerosB 7 ++ headB (hd2 z)
def putB (z : Zn) : List Int := topB z ++ timesB z.times ++ indexB z.index ++ typesB z.types 0 ++ lettersB z.types ++ [10] ++ bytesOf z.footer ++ [10]
theorem headB_len (h : Hd) : (headB h).length = 44 := by
  unfold headB magicB zerosB Hd.counts
  simp [digs_len]
theorem timesB_len (l : List Int) : (timesB l).length = 8 * l.length := by
  unfold timesB
  induction l with
  | nil => rfl
  | cons a l ih => rw [List.flatMap_cons, List.length_append, digs_len, ih, List.length_cons]; omega
theorem right_all {z : Zn} (h : rightZ z = true) : z.types.length ≤ 255 ∧ 1 ≤ z.types.length ∧ z.times.length ≤ 4000 ∧ z.index.length = z.times.length ∧ letters z.types ≤ 256 ∧ z.footer.size ≤ 100 ∧ (∀ t ∈ z.types, t.abbr.size ≤ 15 ∧ -89999 ≤ t.off ∧ t.off ≤ 93599) ∧ (∀ i ∈ z.index, 0 ≤ i ∧ i ≤ 254) := by
  unfold rightZ rightTms rightTys rightIdx at h
  simp only [Bool.and_eq_true, decide_eq_true_eq, List.all_eq_true, inI] at h
  obtain ⟨⟨⟨⟨⟨⟨⟨h1, h2⟩, h3⟩, h4, _⟩, h5⟩, h6⟩, h7⟩, _⟩ := h
  refine ⟨by omega, by omega, h4, h5, h3, h7, fun t ht => ?_, fun i hi => ?_⟩
  · have := h2 t ht
    unfold rightTy inI at this
    simp only [Bool.and_eq_true, decide_eq_true_eq] at this
    omega
  · have := h6 i hi
    omega
set_option maxRecDepth 100000 in
set_option maxHeartbeats 1000000 in
theorem put_no (z : Zn) (vt vs vi : Value) (B : Nat) (w : World) (h : ZnAt w B z vt vs vi) (ho : ZnOk z) (hB : B ≤ w.heap.size) (hr : rightZ z = false) :
    Calls Try.prog 11 #[.agg #[vt, vs, vi, .string z.footer]] w fun e w' => e = .returned (.tuple #[.slice none 0 0, .int .i64 2]) ∧ Below w.heap.size w w' := by
  obtain ⟨At, ct, rfl⟩ := h.types.len
  obtain ⟨As, cs, rfl⟩ := h.times.len
  obtain ⟨Ai, ci, rfl⟩ := h.index.len
  have HRT : Hid (∀ V, Below w.heap.size w V → Calls Try.prog 13 #[.agg #[.slice At z.types.length ct, .slice As z.times.length cs, .slice Ai z.index.length ci, .string z.footer]] V fun e V' => e = .returned (.bool false) ∧ Below V.heap.size V V') := Lib.hid fun V hb => by
    have := right_any z _ _ _ B V (h.below hb hB) ho (Nat.le_trans hB hb.size)
    rwa [hr] at this
  have HB0 : Hid (Below w.heap.size w (w.alloc (.cells #[.slice At z.types.length ct, .slice As z.times.length cs, .slice Ai z.index.length ci, .string z.footer] 26))) := Lib.hid ((Below.refl _ _).alloc (Nat.le_refl _) _)
  clear h hB hr
  go_enter Try.func11, Try.ntmps11
  go_wp2_with (first
    | (go_at_call 13; refine (HRT.out _ HB0.out).mono ?_; clear HRT; rintro e V ⟨rfl, hb⟩; have HV := Lib.hid (HB0.out.trans (hb.mono HB0.out.size)); clear hb)
    | fail)
  go_ret2
  exact ⟨rfl, HV.out⟩
theorem Own.open_ {w : World} {base : Nat} {v : Value} {xs : List Int} (h : Own w base v xs) (h0 : 0 < xs.length) : ∃ g c, v = .slice (some ⟨g, 0, none⟩) xs.length c ∧ base ≤ g ∧ g < w.heap.size ∧ ∀ j u, xs[j]? = some u → w.cell? ((⟨g, 0, none⟩ : Addr).add j) = some (by8 u) := by
  rcases h.2 with ⟨rfl, h1⟩ | ⟨g, cap, cur, rfl, hbg, hg, _⟩
  · simp at h1; subst h1; simp at h0
  · refine ⟨g, cap, rfl, hbg, (Array.getElem?_eq_some_iff.1 hg).1, fun j u hu => ?_⟩
    exact World.ownsRow.cells h (g := g) rfl j (by8 u) (by rw [List.getElem?_map, hu]; rfl)
theorem Own.lower {w : World} {b c : Nat} {v : Value} {xs : List Int} (h : Own w b v xs) (hc : c ≤ b) : Own w c v xs := by
  refine ⟨h.1, ?_⟩
  rcases h.2 with h0 | ⟨g, cap, cur, e, hbg, h⟩
  · exact .inl h0
  · exact .inr ⟨g, cap, cur, e, Nat.le_trans hc hbg, h⟩
theorem letters_pos {l : List Ty} (h : 1 ≤ l.length) : 0 < letters l := by
  cases l with
  | nil => simp at h
  | cons t l => unfold letters; simp; omega
theorem Own_add (g j : Nat) : (⟨g, 0, none⟩ : Addr).add j = ⟨g, j, none⟩ := by
  unfold Addr.add; split <;> simp_all
theorem u64_nat (x : Int) : ∃ n : Nat, IntKind.u64.wrap x = (n : Int) := by
  have : 0 ≤ IntKind.u64.wrap x := by rw [IntKind.wrap_u64]; omega
  exact ⟨(IntKind.u64.wrap x).toNat, by omega⟩
theorem cells_at (g : Nat) {w V : World} {G : Nat} (h : Below G w V) (hg : g < G) {i : Nat} {u : Value} (hc : w.cell? ⟨g, i, none⟩ = some u) : V.cell? ⟨g, i, none⟩ = some u := (h.cell (p := ⟨g, i, none⟩) hg).trans hc
set_option maxRecDepth 100000 in
set_option maxHeartbeats 4000000 in
theorem put_yes (z : Zn) (vt vs vi : Value) (B : Nat) (w : World) (h : ZnAt w B z vt vs vi) (ho : ZnOk z) (hB : B ≤ w.heap.size) (hr : rightZ z = true) :
    Calls Try.prog 11 #[.agg #[vt, vs, vi, .string z.footer]] w fun e w' => ∃ v, e = .returned (.tuple #[v, .int .i64 0]) ∧ Own w' w.heap.size v (putB z) ∧ Below w.heap.size w w' := by
  obtain ⟨b1, b2, b3, b4, b5, b6, b7, b8⟩ := right_all hr
  obtain ⟨At, ct, rfl⟩ := h.types.len
  obtain ⟨As, cs, rfl⟩ := h.times.len
  obtain ⟨Ai, ci, rfl⟩ := h.index.len
  have HRT : Hid (∀ V, Below w.heap.size w V → Calls Try.prog 13 #[.agg #[.slice At z.types.length ct, .slice As z.times.length cs, .slice Ai z.index.length ci, .string z.footer]] V fun e V' => e = .returned (.bool true) ∧ Below V.heap.size V V') := Lib.hid fun V hb => by
    have := right_any z _ _ _ B V (h.below hb hB) ho (Nat.le_trans hB hb.size)
    rwa [hr] at this
  have hn5 : (lettersB z.types).length = letters z.types := lettersB_len _
  obtain ⟨n4, hn4⟩ : ∃ n, (typesB z.types 0).length = n := ⟨_, rfl⟩
  obtain ⟨n5, hn6⟩ : ∃ n, letters z.types = n := ⟨_, rfl⟩
  have hb4 : n4 ≤ 1530 := by rw [← hn4, typesB_len]; omega
  have hp4 : 0 < n4 := by rw [← hn4, typesB_len]; omega
  have hp5 : 0 < n5 := by rw [← hn6]; exact letters_pos b2
  have HPT : Hid (∀ V, Below w.heap.size w V → Calls Try.prog 21 #[.slice At z.types.length ct] V fun e w' => ∃ g4 c4 g5 c5, e = .returned (.tuple #[.slice (some ⟨g4, 0, none⟩) n4 c4, .slice (some ⟨g5, 0, none⟩) n5 c5]) ∧ (g4 < w'.heap.size ∧ ∀ j u, (typesB z.types 0)[j]? = some u → w'.cell? ((⟨g4, 0, none⟩ : Addr).add j) = some (by8 u)) ∧ (g5 < w'.heap.size ∧ ∀ j u, (lettersB z.types)[j]? = some u → w'.cell? ((⟨g5, 0, none⟩ : Addr).add j) = some (by8 u)) ∧ Below V.heap.size V w') := Lib.hid fun V hb => by
    refine (putTypes_any _ z.types B V (h.types.below hb hB) (Nat.le_trans hB hb.size) (by omega) (fun t ht => (b7 t ht).1)).mono ?_
    rintro e V' ⟨u1, u2, he, h1, h2, h3, h4⟩
    obtain ⟨g4, c4, e4, _, k4, m4⟩ := h1.open_ (by omega)
    obtain ⟨g5, c5, e5, _, k5, m5⟩ := h2.open_ (by omega)
    rw [hn4] at e4
    rw [hn5, hn6] at e5
    subst e4; subst e5
    exact ⟨g4, c4, g5, c5, he, ⟨k4, m4⟩, ⟨k5, m5⟩, h4⟩
  have HN4 := Lib.hid hn4; have HN5 := Lib.hid (hn5.trans hn6); have HN6 := Lib.hid hn6
  rw [hn6] at b5
  have HEQ := Lib.hid b4; have HTY := Lib.hid b7; have HIX := Lib.hid b8
  clear hn4 hn5 hn6 b4 b7 b8
  have H := Lib.hid h
  have HB0 : Hid (Below w.heap.size w (w.alloc (.cells #[.slice At z.types.length ct, .slice As z.times.length cs, .slice Ai z.index.length ci, .string z.footer] 26))) := Lib.hid ((Below.refl _ _).alloc (Nat.le_refl _) _)
  have HLT : Hid (w.heap.size < (w.alloc (.cells #[.slice At z.types.length ct, .slice As z.times.length cs, .slice Ai z.index.length ci, .string z.footer] 26)).heap.size) := Lib.hid (by simp)
  have z0 := World.cell?_alloc_mark w #[.slice At z.types.length ct, .slice As z.times.length cs, .slice Ai z.index.length ci, .string z.footer] 26 (0, 0) 0
  have z1 := World.cell?_alloc_mark w #[.slice At z.types.length ct, .slice As z.times.length cs, .slice Ai z.index.length ci, .string z.footer] 26 (0, 0) 1
  have z2 := World.cell?_alloc_mark w #[.slice At z.types.length ct, .slice As z.times.length cs, .slice Ai z.index.length ci, .string z.footer] 26 (0, 0) 2
  have z3 := World.cell?_alloc_mark w #[.slice At z.types.length ct, .slice As z.times.length cs, .slice Ai z.index.length ci, .string z.footer] 26 (0, 0) 3
  simp only [List.getElem?_toArray, List.getElem?_cons_zero, List.getElem?_cons_succ] at z0 z1 z2 z3
  clear h hr ho
  go_enter Try.func11, Try.ntmps11
  go_wp2_with (first
    | (go_at_call 13; refine (HRT.out _ HB0.out).mono ?_; clear HRT; rintro e V1 ⟨rfl, hb⟩; have HB1 := Lib.hid (HB0.out.trans (hb.mono HB0.out.size)); have k0 := cells_at w.heap.size hb HLT.out z0; have k1 := cells_at w.heap.size hb HLT.out z1; have k2 := cells_at w.heap.size hb HLT.out z2; have k3 := cells_at w.heap.size hb HLT.out z3; have HLT1 := Lib.hid (Nat.lt_of_lt_of_le HLT.out hb.size); clear hb z0 z1 z2 z3 HLT HB0)
    | (go_at_call 21; refine (HPT.out _ HB1.out).mono ?_; clear HPT; rintro e V2 ⟨g4, c4, g5, c5, rfl, hO4, hO5, hb⟩; have HO4 := Lib.hid hO4; have HO5 := Lib.hid hO5; have HB2 := Lib.hid (HB1.out.trans (hb.mono HB1.out.size)); have m0 := cells_at w.heap.size hb HLT1.out k0; have m1 := cells_at w.heap.size hb HLT1.out k1; have m2 := cells_at w.heap.size hb HLT1.out k2; have m3 := cells_at w.heap.size hb HLT1.out k3; have HLT2 := Lib.hid (Nat.lt_of_lt_of_le HLT1.out hb.size); have n0 : ∀ o, (V2.alloc o).cell? ⟨w.heap.size, 0, none⟩ = some (.slice At z.types.length ct) := (fun o => cells_at w.heap.size ((Below.refl V2.heap.size V2).alloc (Nat.le_refl _) o) HLT2.out m0); have n1 : ∀ o, (V2.alloc o).cell? ⟨w.heap.size, 1, none⟩ = some (.slice As z.times.length cs) := (fun o => cells_at w.heap.size ((Below.refl V2.heap.size V2).alloc (Nat.le_refl _) o) HLT2.out m1); have M1 := Lib.hid m1; have M2 := Lib.hid m2; have M3 := Lib.hid m3; clear k0 k1 k2 k3 m0 m1 m2 m3 hO4 hO5 hb HB1 HLT1)
    | fail)
  obtain ⟨X, hX⟩ : ∃ X, (V2.alloc (.cells #[.int .u8 50, .int .i64 0, .int .i64 0, .int .i64 0, .int .i64 0, .int .i64 1, .int .i64 1] 60)).alloc (.cells #[.int .u8 50, .int .i64 0, .int .i64 0, .int .i64 0, .int .i64 z.times.length, .int .i64 z.types.length, .int .i64 n5] 60) = X := ⟨_, rfl⟩
  rw [hX]
  have HBX : Hid (Below V2.heap.size V2 X) := Lib.hid (by rw [← hX]; exact ((Below.refl _ _).alloc (Nat.le_refl _) _).alloc (by simp) _)
  have HSX : Hid (X.heap.size = V2.heap.size + 2) := Lib.hid (by rw [← hX]; simp)
  have HX6 : Hid (∀ i, X.cell? ⟨V2.heap.size, i, none⟩ = (#[.int .u8 50, .int .i64 0, .int .i64 0, .int .i64 0, .int .i64 0, .int .i64 1, .int .i64 1] : Array Value)[i]?) := Lib.hid fun i => by
    rw [← hX]
    have h1 : Below (V2.heap.size + 1) (V2.alloc (.cells #[.int .u8 50, .int .i64 0, .int .i64 0, .int .i64 0, .int .i64 0, .int .i64 1, .int .i64 1] 60)) ((V2.alloc (.cells #[.int .u8 50, .int .i64 0, .int .i64 0, .int .i64 0, .int .i64 0, .int .i64 1, .int .i64 1] 60)).alloc (.cells #[.int .u8 50, .int .i64 0, .int .i64 0, .int .i64 0, .int .i64 z.times.length, .int .i64 z.types.length, .int .i64 n5] 60)) := (Below.refl _ _).alloc (by simp) _
    exact (h1.cell (p := ⟨V2.heap.size, i, none⟩) (Nat.lt_succ_self _)).trans (World.cell?_alloc_mark V2 _ _ (0, 0) i)
  have HX7 : Hid (∀ i, X.cell? ⟨V2.heap.size + 1, i, none⟩ = (#[.int .u8 50, .int .i64 0, .int .i64 0, .int .i64 0, .int .i64 z.times.length, .int .i64 z.types.length, .int .i64 n5] : Array Value)[i]?) := Lib.hid fun i => by
    rw [← hX]
    have e : V2.heap.size + 1 = (V2.alloc (.cells #[.int .u8 50, .int .i64 0, .int .i64 0, .int .i64 0, .int .i64 0, .int .i64 1, .int .i64 1] 60)).heap.size := by simp
    rw [e]
    exact World.cell?_alloc_mark _ _ _ (0, 0) i
  have HZ1 := Lib.hid (cells_at w.heap.size HBX.out HLT2.out M1.out)
  have HZ2 := Lib.hid (cells_at w.heap.size HBX.out HLT2.out M2.out)
  have HZ3 := Lib.hid (cells_at w.heap.size HBX.out HLT2.out M3.out)
  have HWX : Hid (Below w.heap.size w X) := Lib.hid (HB2.out.trans (HBX.out.mono HB2.out.size))
  have HGX : Hid (w.heap.size < X.heap.size) := Lib.hid (Nat.lt_of_lt_of_le HLT2.out HBX.out.size)
  have HG6 : Hid (V2.heap.size < X.heap.size) := Lib.hid (by rw [HSX.out]; omega)
  have HG7 : Hid (V2.heap.size + 1 < X.heap.size) := Lib.hid (by rw [HSX.out]; omega)
  have HT4 : Hid (g4 < X.heap.size ∧ ∀ j u, (typesB z.types 0)[j]? = some u → X.cell? ((⟨g4, 0, none⟩ : Addr).add j) = some (by8 u)) := Lib.hid ⟨Nat.lt_of_lt_of_le HO4.out.1 HBX.out.size, fun j u hu => by
    have := HO4.out.2 j u hu
    rw [Own_add] at this ⊢
    exact cells_at g4 HBX.out HO4.out.1 this⟩
  have HT5 : Hid (g5 < X.heap.size ∧ ∀ j u, (lettersB z.types)[j]? = some u → X.cell? ((⟨g5, 0, none⟩ : Addr).add j) = some (by8 u)) := Lib.hid ⟨Nat.lt_of_lt_of_le HO5.out.1 HBX.out.size, fun j u hu => by
    have := HO5.out.2 j u hu
    rw [Own_add] at this ⊢
    exact cells_at g5 HBX.out HO5.out.1 this⟩
  have HP1 : Hid (Calls Try.prog 22 #[.agg #[.int .u8 50, .int .i64 0, .int .i64 0, .int .i64 0, .int .i64 0, .int .i64 1, .int .i64 1], .slice none 0 0] X fun e w' => ∃ v', e = .returned v' ∧ Own w' X.heap.size v' (headB hd1) ∧ Below X.heap.size X w') := Lib.hid (by
    refine (headPut_any hd1 (.slice none 0 0) [] X.heap.size X (Own.nil _ _) (by simp) (Nat.le_refl _) (by decide)).mono ?_
    rintro e w' ⟨v', he, h1, h2⟩
    exact ⟨v', he, h1, grew_below (Own.nil X X.heap.size) h2 (Nat.le_refl _) (Nat.le_refl _)⟩)
  clear hX n0 n1 M1 M2 M3 HO4 HO5 HB2 HLT2 HBX
  refine HP1.out.mono ?_
  clear HP1
  rintro e X1 ⟨v1, rfl, hO, hb⟩
  have HO1 := Lib.hid hO; have HB1 := Lib.hid hb
  have p0 := cells_at V2.heap.size hb HG6.out (HX6.out 0); have p1 := cells_at V2.heap.size hb HG6.out (HX6.out 1); have p2 := cells_at V2.heap.size hb HG6.out (HX6.out 2); have p3 := cells_at V2.heap.size hb HG6.out (HX6.out 3); have p4 := cells_at V2.heap.size hb HG6.out (HX6.out 4); have p5 := cells_at V2.heap.size hb HG6.out (HX6.out 5); have p6 := cells_at V2.heap.size hb HG6.out (HX6.out 6)
  have HL1 : Hid (Calls Try.prog 23 #[.agg #[.int .u8 50, .int .i64 0, .int .i64 0, .int .i64 0, .int .i64 0, .int .i64 1, .int .i64 1], .int .i64 4] X1 fun e w' => e = .returned (.int .i64 7) ∧ Below X1.heap.size X1 w') := Lib.hid (blockLong_any hd1 4 (.inl rfl) ⟨by decide, by decide, by decide, by decide, by decide, by decide⟩ X1)
  clear hO hb
  go_wp2_with (first
    | (go_at_call 23; refine HL1.out.mono ?_; clear HL1; rintro e X2 ⟨rfl, hb⟩; have HO2 := Lib.hid (HO1.out.keep hb); have HB2 := Lib.hid (HB1.out.trans (hb.mono HB1.out.size)); clear hb p0 p1 p2 p3 p4 p5 p6 HO1 HB1)
    | (at_builtin; refine plain_append_zeros (.tmp 34) (.tmp 36) 2 Try.underlying2 rfl rfl X.heap.size _ (headB hd1) 7 (by omega) rfl rfl HO2.out (by rw [headB_len]; omega) HB2.out.size ?_; intro v3 X3 hO hG; have HO3 := Lib.hid hO; have HB3 := Lib.hid (HB2.out.trans (grew_below HO2.out hG (Nat.le_refl _) HB2.out.size)); clear hO hG HO2 HB2; have p0 := cells_at (V2.heap.size + 1) HB3.out HG7.out (HX7.out 0); have p1 := cells_at (V2.heap.size + 1) HB3.out HG7.out (HX7.out 1); have p2 := cells_at (V2.heap.size + 1) HB3.out HG7.out (HX7.out 2); have p3 := cells_at (V2.heap.size + 1) HB3.out HG7.out (HX7.out 3); have p4 := cells_at (V2.heap.size + 1) HB3.out HG7.out (HX7.out 4); have p5 := cells_at (V2.heap.size + 1) HB3.out HG7.out (HX7.out 5); have p6 := cells_at (V2.heap.size + 1) HB3.out HG7.out (HX7.out 6))
    | fail)
  have HP2 : Hid (Calls Try.prog 22 #[.agg #[.int .u8 50, .int .i64 0, .int .i64 0, .int .i64 0, .int .i64 z.times.length, .int .i64 z.types.length, .int .i64 n5], v3] X3 fun e w' => ∃ v', e = .returned v' ∧ Own w' X.heap.size v' (topB z) ∧ Below X.heap.size X w') := Lib.hid (by
    have hn := HN6.out
    subst hn
    refine (headPut_any (hd2 z) v3 (headB hd1 ++ zerosB 7) X.heap.size X3 HO3.out (by rw [List.length_append, headB_len]; unfold zerosB; simp) HB3.out.size (by intro n hn; simp [hd2, Hd.counts] at hn; omega)).mono ?_
    rintro e w' ⟨v', he, h1, h2⟩
    exact ⟨v', he, h1, HB3.out.trans (grew_below HO3.out h2 (Nat.le_refl _) HB3.out.size)⟩)
  clear p0 p1 p2 p3 p4 p5 p6 HX6 HX7 HG6 HG7
  refine HP2.out.mono ?_
  clear HP2 HO3 HB3
  rintro e X4 ⟨v4, rfl, hO, hb⟩
  have HO4 := Lib.hid hO; have HB4 := Lib.hid hb
  have k1 := cells_at w.heap.size hb HGX.out HZ1.out
  clear hO hb
  have HTL : Hid ((topB z).length = 95) := Lib.hid (by unfold topB; rw [List.length_append, List.length_append, headB_len, headB_len]; unfold zerosB; simp)
  go_wp2_with fail
  clear k1
  go_loopw [8, 44] (fun u i wr => ∃ (k : Nat) (acc : List Int), k ≤ z.times.length ∧ i = .int .i64 k ∧ acc = topB z ++ timesB (z.times.take k) ∧ acc.length ≤ 95 + 8 * k ∧ Own wr X.heap.size u acc ∧ Below X.heap.size X wr) (fun _ i _ => z.times.length - (intOf i).toNat)
  case atStart => exact ⟨0, topB z, by omega, rfl, by simp [timesB], by rw [HTL.out]; omega, HO4.out, HB4.out⟩
  case round =>
    obtain ⟨k, acc, hk, rfl, hacc, hal, ho, hg⟩ := hrel
    have HAC := Lib.hid hacc; have HAL := Lib.hid hal; have HO5 := Lib.hid ho; have HB5 := Lib.hid hg
    clear hacc hal ho hg HO4 HB4
    by_cases hlt : k < z.times.length
    · have hk0 : (0 : Int) ≤ (k : Int) := by omega
      have hk1 : (k : Int) < (z.times.length : Int) := by omega
      obtain ⟨x, hx⟩ : ∃ x, z.times[k]? = some x := ⟨_, List.getElem?_eq_getElem hlt⟩
      obtain ⟨g, off, c', hv, hg, c0⟩ := H.out.times.one hx
      injection hv with e1 _ e3
      subst e1; subst e3
      have k0 := cells_at g HB5.out (Nat.lt_of_lt_of_le (Nat.lt_of_lt_of_le hg hB) HWX.out.size) (cells_at g HWX.out (Nat.lt_of_lt_of_le hg hB) c0)
      obtain ⟨n, hn⟩ := u64_nat x
      have HNX : Hid ((IntKind.u64.wrap x).toNat = n) := Lib.hid (by rw [hn]; simp)
      have HXX := Lib.hid hx
      have HP : Hid (∀ V, V = wr → Calls Try.prog 24 #[_, .int .i64 8, .int .u64 n] V fun e w' => ∃ v', e = .returned v' ∧ Own w' X.heap.size v' (acc ++ digs n 8) ∧ Below X.heap.size X w') := Lib.hid fun V hV => by
        subst hV
        refine (putNumber_any _ acc 8 n X.heap.size _ HO5.out (by have := HAL.out; omega) (by omega) HB5.out.size).mono ?_
        rintro e w' ⟨v', he, h1, h2⟩
        exact ⟨v', he, h1, HB5.out.trans (grew_below HO5.out h2 (Nat.le_refl _) HB5.out.size)⟩
      clear hx c0 hg
      go_wp2_with (first
        | (go_at_call 24; refine (HP.out _ rfl).mono ?_; clear HP; rintro e X6 ⟨v6, rfl, hO6, hB6⟩; have HO6 := Lib.hid hO6; have HB6 := Lib.hid hB6; clear hO6 hB6)
        | fail)
      exact ⟨⟨k + 1, _, by omega, by go_num, by rw [HAC.out, take_one HXX.out, timesB, timesB, List.flatMap_append, List.append_assoc]; simp [HNX.out], by have := HAL.out; rw [List.length_append, digs_len]; omega, HO6.out, HB6.out⟩, by simp [intOf]; omega⟩
    · obtain rfl : k = z.times.length := by omega
      have hacc : acc = topB z ++ timesB z.times := by rw [HAC.out, List.take_of_length_le (Nat.le_refl _)]
      have HAC2 := Lib.hid hacc
      clear hacc HAC
      have k2 := cells_at w.heap.size HB5.out HGX.out HZ2.out
      have hk1 : ¬ (z.times.length : Int) < (z.times.length : Int) := by omega
      go_wp2_with fail
      clear k2
      obtain ⟨wA, rfl⟩ : ∃ wo : World, wo = wr := ⟨_, rfl⟩
      go_loopw [8, 56] (fun u i wr => ∃ (k : Nat) (ac2 : List Int), k ≤ z.index.length ∧ i = .int .i64 k ∧ ac2 = acc ++ indexB (z.index.take k) ∧ ac2.length ≤ 32095 + k ∧ Own wr X.heap.size u ac2 ∧ Below X.heap.size X wr) (fun _ i _ => z.index.length - (intOf i).toNat)
      case atStart => exact ⟨0, acc, by omega, rfl, by simp [indexB], by have := HAL.out; omega, HO5.out, HB5.out⟩
      case round =>
        obtain ⟨k, ac2, hk, rfl, hacc, hal, ho, hg⟩ := hrel
        have HAC := Lib.hid hacc; have HAL := Lib.hid hal; have HO6 := Lib.hid ho; have HB6 := Lib.hid hg
        clear hacc hal ho hg HO5 HB5
        have hki : k ≤ 4000 := by have := HEQ.out; omega
        by_cases hlt : k < z.index.length
        · have hk0 : (0 : Int) ≤ (k : Int) := by omega
          have hk1 : (k : Int) < (z.index.length : Int) := by omega
          obtain ⟨x, hx⟩ : ∃ x, z.index[k]? = some x := ⟨_, List.getElem?_eq_getElem hlt⟩
          obtain ⟨g, off, c', hv, hg, c0⟩ := H.out.index.one hx
          injection hv with e1 _ e3
          subst e1; subst e3
          have k0 := cells_at g HB6.out (Nat.lt_of_lt_of_le (Nat.lt_of_lt_of_le hg hB) HWX.out.size) (cells_at g HWX.out (Nat.lt_of_lt_of_le hg hB) c0)
          have HXX := Lib.hid hx
          clear hx c0 hg
          go_wp2_with (first
            | (at_builtin; refine plain_append_bytes (.tmp 60) (.tmp 63) rfl rfl X.heap.size _ ac2 [x % 256] ⟨wr.heap.size, 0, none⟩ 1 1 rfl rfl rfl (HO6.out.alloc _) (one_cell (new_cell _ _ rfl _ _)) (by have := HAL.out; omega) (by have := HB6.out.size; simp; omega) ?_; intro v' w' hown hgr; have HO7 := Lib.hid hown; have HB7 := Lib.hid (HB6.out.trans (grew_below HO6.out hgr.ahead (Nat.le_refl _) HB6.out.size)); clear hown hgr)
            | fail)
          exact ⟨⟨k + 1, _, by omega, by go_num, by rw [HAC.out, take_one HXX.out, indexB, indexB, List.map_append, List.append_assoc]; rfl, by have := HAL.out; rw [List.length_append]; show _ + 1 ≤ _; omega, HO7.out, HB7.out⟩, by simp [intOf]; omega⟩
        · have hk1 : ¬ (k : Int) < (z.index.length : Int) := by omega
          have hacc : ac2 = topB z ++ timesB z.times ++ indexB z.index := by rw [HAC.out, List.take_of_length_le (by omega), HAC2.out]
          have HAC3 := Lib.hid hacc
          clear hacc HAC HAC2
          go_wp2_with (first
            | (at_builtin; refine plain_append_bytes (.tmp 66) (.tmp 67) rfl rfl X.heap.size _ ac2 (typesB z.types 0) ⟨g4, 0, none⟩ n4 c4 rfl rfl HN4.out HO6.out (fun j u hu => by have h1 := HT4.out.2 j u hu; rw [Own_add] at h1 ⊢; exact cells_at g4 HB6.out HT4.out.1 h1) (by have := HAL.out; omega) HB6.out.size ?_; intro v7 V7 hown hgr; have HO7 := Lib.hid hown; have HB7 := Lib.hid (HB6.out.trans (grew_below HO6.out hgr (Nat.le_refl _) HB6.out.size)); clear hown hgr)
            | (at_builtin; refine plain_append_bytes (.tmp 68) (.tmp 69) rfl rfl X.heap.size _ (ac2 ++ typesB z.types 0) (lettersB z.types) ⟨g5, 0, none⟩ n5 c5 rfl rfl HN5.out HO7.out (fun j u hu => by have h1 := HT5.out.2 j u hu; rw [Own_add] at h1 ⊢; exact cells_at g5 HB7.out HT5.out.1 h1) (by have := HAL.out; have := HN4.out; rw [List.length_append]; omega) HB7.out.size ?_; intro v8 V8 hown hgr; have HO8 := Lib.hid hown; have HB8 := Lib.hid (HB7.out.trans (grew_below HO7.out hgr (Nat.le_refl _) HB7.out.size)); clear hown hgr)
            | fail)
          obtain ⟨L, hL⟩ : ∃ L, ac2 ++ typesB z.types 0 ++ lettersB z.types = L := ⟨_, rfl⟩
          have HL8 : Hid (L.length ≤ 40000) := Lib.hid (by rw [← hL, List.length_append, List.length_append]; have := HAL.out; have := HN4.out; have := HN5.out; omega)
          have HPUT : Hid (putB z = L ++ [10] ++ bytesOf z.footer ++ [10]) := Lib.hid (by rw [← hL, HAC3.out]; rfl)
          rw [hL] at HO8
          clear hL HO6 HB6 HO7 HB7
          have k3 := cells_at w.heap.size HB8.out HGX.out HZ3.out
          have K3 := Lib.hid k3
          have HG8 := Lib.hid (Nat.lt_of_lt_of_le HGX.out HB8.out.size)
          have kA : ∀ o, (V8.alloc o).cell? ⟨w.heap.size, 3, none⟩ = some (.string z.footer) := fun o => cells_at w.heap.size ((Below.refl V8.heap.size V8).alloc (Nat.le_refl _) o) HG8.out k3
          go_cut [8] (fun u wx => Own wx X.heap.size u ((L ++ [10]) ++ bytesOf z.footer) ∧ Below X.heap.size X wx)
          case first =>
            go_region_law (first
              | (refine step_append_bytes (.tmp 71) (.tmp 72) rfl rfl X.heap.size _ L [10] ⟨V8.heap.size, 0, none⟩ 1 1 rfl rfl rfl (by first | exact HO8.out.drew.alloc _ | exact HO8.out.alloc _) (one_cell (by first | exact new_cell _ _ rfl _ _ | simp)) (by have := HL8.out; omega) (by have := HB8.out.size; simp; omega) ?_; intro v9 w9 hO hG; have HO9 := Lib.hid hO; have HB9 : Hid (Below X.heap.size X w9) := Lib.hid (HB8.out.trans (grew_below HO8.out (show Grew V8 w9 _ _ from by first | exact hG.ahead.ofDrew | exact hG.ofDrew.ahead | exact hG.ahead) (Nat.le_refl _) HB8.out.size)); have k9 := cells_at w.heap.size HB9.out HGX.out HZ3.out; clear hO hG)
              | (refine step_append_text (.tmp 73) (.tmp 75) rfl rfl X.heap.size _ (L ++ [10]) z.footer rfl rfl HO9.out (by have := HL8.out; rw [List.length_append]; show _ + 1 + _ ≤ _; omega) HB9.out.size ?_; intro v10 w10 hO hG; have HO10 := Lib.hid hO; have HB10 := Lib.hid (HB9.out.trans (grew_below HO9.out hG (Nat.le_refl _) HB9.out.size)); clear hO hG))
            all_goals (go_wp2_with fail)
            all_goals go_meet
            all_goals exact ⟨HO10.out, HB10.out⟩
          case rest =>
            obtain ⟨hO, hG⟩ := hcut
            have HO := Lib.hid hO; have HG := Lib.hid hG
            clear hO hG kA k3
            go_wp2_with (first
              | (at_builtin; refine plain_append_bytes (.tmp 77) (.tmp 78) rfl rfl X.heap.size _ ((L ++ [10]) ++ bytesOf z.footer) [10] ⟨_, 0, none⟩ 1 1 rfl rfl rfl (HO.out.alloc _) (one_cell (new_cell _ _ rfl _ _)) (by have := HL8.out; rw [List.length_append, List.length_append, bytesOf_len]; show _ + 1 + _ + 1 ≤ _; omega) (by have := HG.out.size; simp; omega) ?_; intro v' w' hown hgr; have HO11 := Lib.hid hown; have HB11 := Lib.hid (HG.out.trans (grew_below HO.out hgr.ahead (Nat.le_refl _) HG.out.size)); clear hown hgr)
              | fail)
            go_ret2
            exact ⟨_, rfl, by rw [HPUT.out]; exact HO11.out.lower HWX.out.size, HWX.out.trans (HB11.out.mono HWX.out.size)⟩
end Go.Proofs.Ytohpdpcjhmopbaa.Tz

/-! Layer 6 (tzif): Parse of bytes that are too few for a head. -/
namespace Go.Proofs.Ytohpdpcjhmopbaa.Tz
open Go.RowKit

def noZone : Value := .agg #[.slice none 0 0, .slice none 0 0, .slice none 0 0, .string ⟨#[]⟩]
def noHead : Value := .agg #[.int .u8 0, .int .i64 0, .int .i64 0, .int .i64 0, .int .i64 0, .int .i64 0, .int .i64 0]
set_option maxRecDepth 100000 in
theorem has_yes (g : Nat) (A : Option Addr) (n c : Nat) (m : Int) (w : World) (hc : w.cell? ⟨g, 0, none⟩ = some (.slice A n c)) (hm : m ≤ n) :
    Calls Try.prog 46 #[.pointer (some ⟨g, 0, none⟩), .int .i64 m] w fun e w' => e = .returned (.bool true) ∧ w = w' := by
  go_enter Try.func46, Try.ntmps46
  go_wp2_with fail
  go_ret
  exact ⟨rfl, rfl⟩
set_option maxRecDepth 100000 in
theorem has_no (g : Nat) (A : Option Addr) (n c : Nat) (m : Int) (w : World) (hc : w.cell? ⟨g, 0, none⟩ = some (.slice A n c)) (hm : ¬ m ≤ n) :
    Calls Try.prog 46 #[.pointer (some ⟨g, 0, none⟩), .int .i64 m] w fun e w' => e = .returned (.bool false) ∧ w = w' := by
  go_enter Try.func46, Try.ntmps46
  go_wp2_with fail
  go_ret
  exact ⟨rfl, rfl⟩
set_option maxRecDepth 100000 in
set_option maxHeartbeats 1000000 in
theorem head_short (g : Nat) (A : Option Addr) (n c : Nat) (w : World) (hc : w.cell? ⟨g, 0, none⟩ = some (.slice A n c)) (hg : g < w.heap.size) (hn : n < 44) :
    Calls Try.prog 44 #[.pointer (some ⟨g, 0, none⟩)] w fun e w' => e = .returned (.tuple #[noHead, .bool false]) ∧ Below w.heap.size w w' := by
  have HH : Hid (∀ V, Below w.heap.size w V → Calls Try.prog 46 #[.pointer (some ⟨g, 0, none⟩), .int .i64 44] V fun e w' => e = .returned (.bool false) ∧ V = w') := Lib.hid fun V hb => has_no g A n c 44 V (cells_at g hb hg hc) (by omega)
  have HB0 : Hid (Below w.heap.size w (w.alloc (.cells #[.int .u8 0, .int .i64 0, .int .i64 0, .int .i64 0, .int .i64 0, .int .i64 0, .int .i64 0] 60))) := Lib.hid ((Below.refl _ _).alloc (Nat.le_refl _) _)
  clear hc hn hg
  go_enter Try.func44, Try.ntmps44
  go_wp2_with (first
    | (go_at_call 46; refine (HH.out _ HB0.out).mono ?_; clear HH; rintro e V ⟨rfl, rfl⟩)
    | fail)
  exact bodyPost_ret (v := .tuple #[noHead, .bool false]) (by simp [results, Try.results44, go_sem, noHead]) rfl ⟨rfl, HB0.out⟩
set_option maxRecDepth 100000 in
set_option maxHeartbeats 1000000 in
theorem parse_short (g : Nat) (A : Option Addr) (n c : Nat) (w : World) (hc : w.cell? ⟨g, 0, none⟩ = some (.slice A n c)) (hg : g < w.heap.size) (hn : n < 44) :
    Calls Try.prog 39 #[.pointer (some ⟨g, 0, none⟩)] w fun e w' => e = .returned (.tuple #[noZone, .bool false]) ∧ Below w.heap.size w w' := by
  have HH : Hid (∀ V, Below w.heap.size w V → Calls Try.prog 44 #[.pointer (some ⟨g, 0, none⟩)] V fun e w' => e = .returned (.tuple #[noHead, .bool false]) ∧ Below V.heap.size V w') := Lib.hid fun V hb => head_short g A n c V (cells_at g hb hg hc) (Nat.lt_of_lt_of_le hg hb.size) hn
  obtain ⟨X, hX⟩ : ∃ X, w.alloc (.cells #[.slice none 0 0, .slice none 0 0, .slice none 0 0, .string ⟨#[]⟩] 26) = X := ⟨_, rfl⟩
  have HB0 : Hid (Below w.heap.size w X) := Lib.hid (by rw [← hX]; exact (Below.refl _ _).alloc (Nat.le_refl _) _)
  have HS : Hid (w.heap.size < X.heap.size) := Lib.hid (by rw [← hX]; simp)
  clear hc hn hg
  unfold noHead at HH
  go_enter Try.func39, Try.ntmps39
  go_wp2_with (first
    | (go_at_call 44; refine (HH.out _ HB0.out).mono ?_; clear HH; rintro e V ⟨rfl, hb⟩; have HB1 := Lib.hid (HB0.out.trans (hb.mono HB0.out.size)); have k0 := cells_at w.heap.size hb HS.out (show X.cell? ⟨w.heap.size, 0, none⟩ = some (.slice none 0 0) by rw [← hX]; exact World.cell?_alloc_mark w _ _ (0, 0) 0); have k1 := cells_at w.heap.size hb HS.out (show X.cell? ⟨w.heap.size, 1, none⟩ = some (.slice none 0 0) by rw [← hX]; exact World.cell?_alloc_mark w _ _ (0, 0) 1); have k2 := cells_at w.heap.size hb HS.out (show X.cell? ⟨w.heap.size, 2, none⟩ = some (.slice none 0 0) by rw [← hX]; exact World.cell?_alloc_mark w _ _ (0, 0) 2); have k3 := cells_at w.heap.size hb HS.out (show X.cell? ⟨w.heap.size, 3, none⟩ = some (.string ⟨#[]⟩) by rw [← hX]; exact World.cell?_alloc_mark w _ _ (0, 0) 3); have HS1 := (Nat.lt_of_lt_of_le HS.out hb.size); have hf : ∀ o, V.frozen? ⟨w.heap.size, o, none⟩ = false := (fun o => by rw [hb.frozen (p := ⟨w.heap.size, o, none⟩) HS.out, ← hX]; simp [go_sem]); have f0 := hf 0; have f1 := hf 1; have f2 := hf 2; have f3 := hf 3; clear hb hX hf)
    | fail)
  exact bodyPost_ret (v := .tuple #[noZone, .bool false]) (by simp [results, Try.results39, go_sem, noZone, k0, k1, k2, k3, HS1]) rfl ⟨rfl, ((((HB1.out.setCell (Nat.le_refl _) _).setCell (Nat.le_refl _) _).setCell (Nat.le_refl _) _).setCell (Nat.le_refl _) _).alloc (by have := HB1.out.size; simpa using this) _⟩
set_option maxRecDepth 100000 in
set_option maxHeartbeats 1000000 in
theorem Parse_short (A : Option Addr) (n c : Nat) (w : World) (hn : n < 44) :
    Calls Try.prog 19 #[.slice A n c] w fun e w' => e = .returned (.tuple #[noZone, .int .i64 60]) ∧ Below w.heap.size w w' := by
  obtain ⟨X, hX⟩ : ∃ X, (w.alloc (.cells #[.slice none 0 0, .slice none 0 0, .slice none 0 0, .string ⟨#[]⟩] 26)).alloc (.cells #[.slice A n c] 83) = X := ⟨_, rfl⟩
  have hsx : X.heap.size = w.heap.size + 1 + 1 := by rw [← hX]; simp
  have HSX := Lib.hid hsx
  have HX1 : Hid (X.cell? ⟨w.heap.size + 1, 0, none⟩ = some (.slice A n c)) := Lib.hid (by rw [← hX]; simp [go_sem])
  have HPS : Hid (Calls Try.prog 39 #[.pointer (some ⟨w.heap.size + 1, 0, none⟩)] X fun e w' => e = .returned (.tuple #[noZone, .bool false]) ∧ Below X.heap.size X w') := Lib.hid (parse_short (w.heap.size + 1) A n c X HX1.out (by rw [hsx]; omega) hn)
  have HB0 : Hid (Below w.heap.size w X) := Lib.hid (by rw [← hX]; exact ((Below.refl _ _).alloc (Nat.le_refl _) _).alloc (by simp) _)
  have HZ : Hid (∀ i, X.cell? ⟨w.heap.size, i, none⟩ = (#[.slice none 0 0, .slice none 0 0, .slice none 0 0, .string ⟨#[]⟩] : Array Value)[i]?) := Lib.hid fun i => by
    rw [← hX]
    have h1 : Below (w.heap.size + 1) (w.alloc (.cells #[.slice none 0 0, .slice none 0 0, .slice none 0 0, .string ⟨#[]⟩] 26)) ((w.alloc (.cells #[.slice none 0 0, .slice none 0 0, .slice none 0 0, .string ⟨#[]⟩] 26)).alloc (.cells #[.slice A n c] 83)) := (Below.refl _ _).alloc (by simp) _
    exact (h1.cell (p := ⟨w.heap.size, i, none⟩) (Nat.lt_succ_self _)).trans (World.cell?_alloc_mark w _ _ (0, 0) i)
  have HF : Hid (∀ i, X.frozen? ⟨w.heap.size, i, none⟩ = false) := Lib.hid fun i => by rw [← hX]; simp [go_sem]
  clear hsx hn
  unfold noZone at HPS
  go_enter Try.func19, Try.ntmps19
  go_wp2_with (first
    | (go_at_call 39; refine HPS.out.mono ?_; clear HPS; rintro e V ⟨rfl, hb⟩; have HS := Lib.hid (show w.heap.size < X.heap.size by rw [HSX.out]; omega); have HB1 := Lib.hid (HB0.out.trans (hb.mono HB0.out.size)); have k0 := cells_at w.heap.size hb HS.out (HZ.out 0); have k1 := cells_at w.heap.size hb HS.out (HZ.out 1); have k2 := cells_at w.heap.size hb HS.out (HZ.out 2); have k3 := cells_at w.heap.size hb HS.out (HZ.out 3); have HS1 := (Nat.lt_of_lt_of_le HS.out hb.size); have hf : ∀ o, V.frozen? ⟨w.heap.size, o, none⟩ = false := (fun o => by rw [hb.frozen (p := ⟨w.heap.size, o, none⟩) HS.out]; exact HF.out o); have f0 := hf 0; have f1 := hf 1; have f2 := hf 2; have f3 := hf 3; clear hb hX hf)
    | fail)
  exact bodyPost_ret (v := .tuple #[noZone, .int .i64 60]) (by simp [results, Try.results19, go_sem, noZone, k0, k1, k2, k3, HS1]) rfl ⟨rfl, ((((HB1.out.setCell (Nat.le_refl _) _).setCell (Nat.le_refl _) _).setCell (Nat.le_refl _) _).setCell (Nat.le_refl _) _).alloc (by have := HB1.out.size; simpa using this) _⟩
end Go.Proofs.Ytohpdpcjhmopbaa.Tz

/-! Layer 6 (tzif): the law's works. -/
namespace Go.Proofs.Ytohpdpcjhmopbaa.Tz
open Go.RowKit

def zUtc : Zn := ⟨[⟨0, false, ⟨#[85, 84, 67]⟩⟩], [], [], ⟨#[]⟩⟩
def zAB : Zn := ⟨[⟨0, false, ⟨#[65]⟩⟩, ⟨0, true, ⟨#[66]⟩⟩], [100], [1], ⟨#[]⟩⟩
theorem zUtc_right : rightZ zUtc = true := by decide +kernel
theorem zUtc_len : (putB zUtc).length = 107 := by decide +kernel
theorem zAB_99 : atZ zAB 99 = 0 := by decide +kernel
theorem zAB_100 : atZ zAB 100 = 1 := by decide +kernel
theorem zUtc_ok : ZnOk zUtc := ⟨by decide, by decide, by decide, by intro t ht; simp [zUtc] at ht; subst ht; show (3 : Nat) ≤ _; decide, by show (0 : Nat) ≤ _; decide⟩
theorem zAB_ok : ZnOk zAB := ⟨by decide, by decide, by decide, by intro t ht; simp [zAB] at ht; rcases ht with rfl | rfl <;> (show (1 : Nat) ≤ _; decide), by show (0 : Nat) ≤ _; decide⟩
/-- Cells of a new block, as a row of rows. -/
theorem Sl.new {w : World} {B sz g : Nat} {rows : List (List Value)} {c : Nat} (hg : g < B) (h : ∀ (j : Nat) (row : List Value), rows[j]? = some row → ∀ (k : Nat) (u : Value), row[k]? = some u → w.cell? ⟨g, j * sz + k, none⟩ = some u) : Sl w B sz (.slice (some ⟨g, 0, none⟩) rows.length c) rows :=
  ⟨⟨_, _, rfl⟩, fun j row hj => ⟨g, 0, c, rfl, hg, fun k u hu => by rw [Nat.zero_add]; exact h j row hj k u hu⟩⟩
theorem Sl.none_ (w : World) (B sz : Nat) : Sl w B sz (.slice none 0 0) [] := ⟨⟨none, 0, rfl⟩, fun j row hj => by simp at hj⟩
theorem cell_new (W : World) (C : Array Value) (t : TypeId) (g i : Nat) (u : Value) (hg : W.heap.size = g) (h : C[i]? = some u) : (W.alloc (.cells C t)).cell? ⟨g, i, none⟩ = some u := by
  subst hg; exact (World.cell?_alloc_mark W C t (0, 0) i).trans h
theorem cell_old (W : World) (o : Obj) (g i : Nat) (u : Value) (hg : g < W.heap.size) (h : W.cell? ⟨g, i, none⟩ = some u) : (W.alloc o).cell? ⟨g, i, none⟩ = some u := cells_at g ((Below.refl W.heap.size W).alloc (Nat.le_refl _) o) hg h
set_option maxRecDepth 100000 in
set_option maxHeartbeats 2000000 in
theorem works_any (w : World) : Calls Try.prog 9 #[] w fun e w' => e = .returned (.bool true) ∧ Below w.heap.size w w' := by
  obtain ⟨X, hX⟩ : ∃ X, w.alloc (.cells #[.int .i64 0, .bool false, .string ⟨#[85, 84, 67]⟩] 54) = X := ⟨_, rfl⟩
  have HBX : Hid (Below w.heap.size w X) := Lib.hid (by rw [← hX]; exact (Below.refl _ _).alloc (Nat.le_refl _) _)
  have hsx : X.heap.size = w.heap.size + 1 := by rw [← hX]; simp
  have HPU : Hid (Calls Try.prog 11 #[.agg #[.slice (some ⟨w.heap.size, 0, none⟩) 1 1, .slice none 0 0, .slice none 0 0, .string ⟨#[]⟩]] X fun e w' => ∃ A c, e = .returned (.tuple #[.slice A 107 c, .int .i64 0]) ∧ Below X.heap.size X w') := Lib.hid (by
    refine (put_yes zUtc (.slice (some ⟨w.heap.size, 0, none⟩) 1 1) (.slice none 0 0) (.slice none 0 0) X.heap.size X ⟨?_, Sl.none_ _ _ _, Sl.none_ _ _ _⟩ zUtc_ok (Nat.le_refl _) zUtc_right).mono ?_
    · refine Sl.new (rows := zUtc.types.map tyCells) (by omega) ?_
      intro j row hj k u hu
      match j, hj with
      | 0, hj =>
        have e : row = tyCells ⟨0, false, ⟨#[85, 84, 67]⟩⟩ := by simpa [zUtc] using hj.symm
        subst e
        rw [← hX, Nat.zero_mul, Nat.zero_add]
        exact (World.cell?_alloc_mark w _ _ (0, 0) k).trans (by rw [List.getElem?_toArray]; exact hu)
    · rintro e w' ⟨v, he, hO, hb⟩
      obtain ⟨A, c, rfl⟩ := hO.form
      rw [zUtc_len] at he
      exact ⟨A, c, he, hb⟩)
  have HPA : Hid (∀ V A c, Calls Try.prog 19 #[.slice A 4 c] V fun e w' => e = .returned (.tuple #[.agg #[.slice none 0 0, .slice none 0 0, .slice none 0 0, .string ⟨#[]⟩], .int .i64 60]) ∧ Below V.heap.size V w') := Lib.hid fun V A c => Parse_short A 4 c V (by omega)
  clear hsx
  have kc := fun (w : World) (C : Array Value) (n c : Nat) => Lib.run_convert_bytes_const (P := Try.prog) w 33 5 C n c Try.underlying33 Try.underlying5
  go_enter Try.func9, Try.ntmps9
  go_wp2_with (first
    | (go_at_call 11; refine HPU.out.mono ?_; clear HPU; rintro e V1 ⟨A1, c1, rfl, hb⟩; have HB1 := Lib.hid (HBX.out.trans (hb.mono HBX.out.size)); clear hb hX)
    | (go_at_call 19; refine (HPA.out _ _ _).mono ?_; clear HPA; rintro e V2 ⟨rfl, hb⟩; have HB2 := Lib.hid ((HB1.out.alloc HB1.out.size _).trans (hb.mono (HB1.out.alloc HB1.out.size _).size)); clear hb)
    | fail)
  obtain ⟨Y, hY⟩ : ∃ Y, ((((V2.alloc (.cells #[.slice none 0 0, .slice none 0 0, .slice none 0 0, .string ⟨#[]⟩] 26)).alloc (.cells #[.int .i64 0, .bool false, .string ⟨#[65]⟩, .int .i64 0, .bool true, .string ⟨#[66]⟩] 54)).alloc (.cells #[.int .i64 100] 2)).alloc (.cells #[.int .i64 1] 3)).alloc (.cells #[.slice (some ⟨V2.heap.size + 1, 0, none⟩) 2 2, .slice (some ⟨V2.heap.size + 1 + 1, 0, none⟩) 1 1, .slice (some ⟨V2.heap.size + 1 + 1 + 1, 0, none⟩) 1 1, .string ⟨#[]⟩] 26) = Y := ⟨_, rfl⟩
  rw [hY]
  have hsy : Y.heap.size = V2.heap.size + 5 := by rw [← hY]; simp
  have HSY := Lib.hid hsy
  have HBY : Hid (Below w.heap.size w Y) := Lib.hid (HB2.out.trans ((by rw [← hY]; exact ((((((Below.refl _ _).alloc (Nat.le_refl _) _).alloc (by simp) _).alloc (by simp; omega) _).alloc (by simp; omega) _).alloc (by simp; omega) _) : Below V2.heap.size V2 Y).mono HB2.out.size))
  have y1 : ∀ i u, (#[.int .i64 0, .bool false, .string ⟨#[65]⟩, .int .i64 0, .bool true, .string ⟨#[66]⟩] : Array Value)[i]? = some u → Y.cell? ⟨V2.heap.size + 1, i, none⟩ = some u := fun i u h => by rw [← hY]; exact cell_old _ _ _ i u (by simp; try omega) (cell_old _ _ _ i u (by simp; try omega) (cell_old _ _ _ i u (by simp; try omega) (cell_new _ _ _ _ i u (by simp) h)))
  have y2 : ∀ i u, (#[.int .i64 100] : Array Value)[i]? = some u → Y.cell? ⟨V2.heap.size + 1 + 1, i, none⟩ = some u := fun i u h => by rw [← hY]; exact cell_old _ _ _ i u (by simp; try omega) (cell_old _ _ _ i u (by simp; try omega) (cell_new _ _ _ _ i u (by simp) h))
  have y3 : ∀ i u, (#[.int .i64 1] : Array Value)[i]? = some u → Y.cell? ⟨V2.heap.size + 1 + 1 + 1, i, none⟩ = some u := fun i u h => by rw [← hY]; exact cell_old _ _ _ i u (by simp; try omega) (cell_new _ _ _ _ i u (by simp) h)
  have y4 : ∀ i u, (#[.slice (some ⟨V2.heap.size + 1, 0, none⟩) 2 2, .slice (some ⟨V2.heap.size + 1 + 1, 0, none⟩) 1 1, .slice (some ⟨V2.heap.size + 1 + 1 + 1, 0, none⟩) 1 1, .string ⟨#[]⟩] : Array Value)[i]? = some u → Y.cell? ⟨V2.heap.size + 1 + 1 + 1 + 1, i, none⟩ = some u := fun i u h => by rw [← hY]; exact cell_new _ _ _ _ i u (by simp) h
  have HZ : Hid (ZnAt Y Y.heap.size zAB (.slice (some ⟨V2.heap.size + 1, 0, none⟩) 2 2) (.slice (some ⟨V2.heap.size + 1 + 1, 0, none⟩) 1 1) (.slice (some ⟨V2.heap.size + 1 + 1 + 1, 0, none⟩) 1 1)) := Lib.hid ⟨Sl.new (rows := zAB.types.map tyCells) (by omega) (fun j row hj k u hu => by
      match j, hj with
      | 0, hj =>
        have e : row = tyCells ⟨0, false, ⟨#[65]⟩⟩ := by simpa [zAB] using hj.symm
        subst e
        refine y1 _ _ ?_
        match k, hu with
        | 0, hu => exact hu
        | 1, hu => exact hu
        | 2, hu => exact hu
      | 1, hj =>
        have e : row = tyCells ⟨0, true, ⟨#[66]⟩⟩ := by simpa [zAB] using hj.symm
        subst e
        refine y1 _ _ ?_
        match k, hu with
        | 0, hu => exact hu
        | 1, hu => exact hu
        | 2, hu => exact hu), Sl.new (rows := zAB.times.map intCells) (by omega) (fun j row hj k u hu => by
      match j, hj with
      | 0, hj =>
        have e : row = intCells 100 := by simpa [zAB] using hj.symm
        subst e
        refine y2 _ _ ?_
        match k, hu with
        | 0, hu => exact hu), Sl.new (rows := zAB.index.map intCells) (by omega) (fun j row hj k u hu => by
      match j, hj with
      | 0, hj =>
        have e : row = intCells 1 := by simpa [zAB] using hj.symm
        subst e
        refine y3 _ _ ?_
        match k, hu with
        | 0, hu => exact hu)⟩
  have HY4 := Lib.hid y4
  have HA1 : Hid (Calls Try.prog 15 #[.agg #[.slice (some ⟨V2.heap.size + 1, 0, none⟩) 2 2, .slice (some ⟨V2.heap.size + 1 + 1, 0, none⟩) 1 1, .slice (some ⟨V2.heap.size + 1 + 1 + 1, 0, none⟩) 1 1, .string ⟨#[]⟩], .int .i64 99] Y fun e w' => e = .returned (.int .i64 0) ∧ Below Y.heap.size Y w') := Lib.hid (by
    have := at_any zAB _ _ _ Y.heap.size 99 Y HZ.out zAB_ok (Nat.le_refl _)
    rwa [zAB_99] at this)
  have HA2 : Hid (∀ V, Below Y.heap.size Y V → Calls Try.prog 15 #[.agg #[.slice (some ⟨V2.heap.size + 1, 0, none⟩) 2 2, .slice (some ⟨V2.heap.size + 1 + 1, 0, none⟩) 1 1, .slice (some ⟨V2.heap.size + 1 + 1 + 1, 0, none⟩) 1 1, .string ⟨#[]⟩], .int .i64 100] V fun e w' => e = .returned (.int .i64 1) ∧ Below V.heap.size V w') := Lib.hid fun V hb => by
    have := at_any zAB _ _ _ Y.heap.size 100 V (HZ.out.below hb (Nat.le_refl _)) zAB_ok hb.size
    rwa [zAB_100] at this
  clear hY hsy y1 y2 y3 y4
  refine HA1.out.mono ?_
  clear HA1
  rintro e V3 ⟨rfl, hb⟩
  have HB3 := Lib.hid hb
  have hlt : V2.heap.size + 1 + 1 + 1 + 1 < Y.heap.size := by rw [HSY.out]; omega
  have k0 := cells_at (V2.heap.size + 1 + 1 + 1 + 1) hb hlt (HY4.out 0 _ rfl); have k1 := cells_at (V2.heap.size + 1 + 1 + 1 + 1) hb hlt (HY4.out 1 _ rfl); have k2 := cells_at (V2.heap.size + 1 + 1 + 1 + 1) hb hlt (HY4.out 2 _ rfl); have k3 := cells_at (V2.heap.size + 1 + 1 + 1 + 1) hb hlt (HY4.out 3 _ rfl)
  clear hb hlt
  go_wp2_with (first
    | (go_at_call 15; refine (HA2.out _ HB3.out).mono ?_; clear HA2; rintro e V4 ⟨rfl, hb⟩; have HB4 := Lib.hid (HB3.out.trans (hb.mono HB3.out.size)); clear hb)
    | fail)
  go_ret
  exact ⟨rfl, HBY.out.trans (HB4.out.mono HBY.out.size)⟩
end Go.Proofs.Ytohpdpcjhmopbaa.Tz

/-! Layer 6 (tzif): rows of numbers of the call's own; a zone with one time more. -/
namespace Go.Proofs.Ytohpdpcjhmopbaa.Tz
open Go.RowKit

/-- A slice of the call's own, that holds these numbers (of the type te). -/
def OwnI (w : World) (base : Nat) (te : TypeId) (v : Value) (xs : List Int) : Prop := w.ownsRow base te 1 v xs.length (xs.map (Value.int .i64))
section
variable {w w' : World} {base : Nat} {te : TypeId} {v : Value} {xs : List Int}
theorem OwnI.keep (h : OwnI w base te v xs) (hb : Below w.heap.size w w') : OwnI w' base te v xs :=
  World.ownsRow.kept h (row := none) ⟨hb.os, hb.tape, hb.output, hb.size, fun k hk _ => hb.block k hk⟩ (by cases hv : v.ownBlock <;> simp)
theorem OwnI.alloc (h : OwnI w base te v xs) (o : Obj) : OwnI (w.alloc o) base te v xs := World.ownsRow.alloc h o
theorem OwnI.lt (h : OwnI w base te v xs) (k : Nat) (hk : v.ownBlock = some k) : base ≤ k ∧ k < w.heap.size := World.ownsRow.lt h k hk
theorem OwnI.form (h : OwnI w base te v xs) : ∃ A c, v = .slice A xs.length c := by
  rcases h.2 with ⟨rfl, h0⟩ | ⟨g, cap, cur, rfl, _⟩
  · exact ⟨none, 0, by rw [h0]⟩
  · exact ⟨_, _, rfl⟩
theorem OwnI.sl (h : OwnI w base te v xs) {B : Nat} (hB : w.heap.size ≤ B) : Sl w B 1 v (xs.map intCells) := by
  refine ⟨?_, fun j row hj => ?_⟩
  · obtain ⟨A, c, e⟩ := h.form
    exact ⟨A, c, by rw [List.length_map]; exact e⟩
  · rw [List.getElem?_map] at hj
    cases hx : xs[j]? with
    | none => rw [hx] at hj; cases hj
    | some x =>
      rw [hx] at hj
      have e : row = [.int .i64 x] := by injection hj with hj; exact hj.symm
      subst e
      have hlt : j < xs.length := by
        rcases Nat.lt_or_ge j xs.length with b | b
        · exact b
        · rw [List.getElem?_eq_none b] at hx; cases hx
      obtain ⟨g, cap, cur, rfl, _, hg, _⟩ : ∃ g cap cur, v = .slice (some ⟨g, 0, none⟩) xs.length cap ∧ base ≤ g ∧ w.heap[g]? = some (.cells cur te (0, 0)) ∧ True := by
        rcases h.2 with ⟨_, h0⟩ | ⟨g, cap, cur, e, hbg, hg, _⟩
        · omega
        · exact ⟨g, cap, cur, e, hbg, hg, trivial⟩
      have hgl := (Array.getElem?_eq_some_iff.1 hg).1
      refine ⟨g, 0, cap, by rw [List.length_map], by omega, fun k u hu => ?_⟩
      match k, hu with
      | 0, hu =>
        have hu : u = .int .i64 x := by simpa using hu.symm
        subst hu
        have := World.ownsRow.cells h (g := g) rfl j (.int .i64 x) (by rw [List.getElem?_map, hx]; rfl)
        rw [Own_add] at this
        rw [Nat.zero_add, Nat.mul_one, Nat.add_zero]; exact this
theorem OwnI.empty (w : World) (te : TypeId) (base : Nat) (hb : base ≤ w.heap.size) : OwnI (w.alloc (.cells #[] te)) base te (.slice (some ⟨w.heap.size, 0, none⟩) 0 0) [] :=
  World.ownsRow_lit w #[] 0 hb (by unfold maxLen; omega) (by simp)
theorem growI_below {v' : Value} (h : OwnI w base te v xs) (hg : Grew w w' v v') {B : Nat} (hB : B ≤ base) (hS : B ≤ w.heap.size) : Below B w w' :=
  ⟨hg.gr.os, hg.gr.tape, hg.gr.output, hg.gr.size, fun k hk => hg.gr.block k (by omega) (fun e => by have := (h.lt k e.symm).1; omega)⟩
end
theorem i64_info : (Try.prog.info? 2).map (fun i => (i.zero, i.size, i.bytes)) = some (some (.int .i64 0), 1, 8) := by kernel_rfl
theorem int_info : (Try.prog.info? 3).map (fun i => (i.zero, i.size, i.bytes)) = some (some (.int .i64 0), 1, 8) := by kernel_rfl
set_option maxRecDepth 100000 in
/-- Numbers that a slice reads are put behind. -/
theorem plain_append_ints {ops : Array Oper} {rest : List Oper} {o : Oper} {a : Act} {w : World} {Q : Exit → Act → World → Prop} (s x : Operand) (ts te : TypeId) (hT : Try.prog.underlying ts = some (.slice te)) (hI : (Try.prog.info? te).map (fun i => (i.zero, i.size, i.bytes)) = some (some (.int .i64 0), 1, 8)) (hgd : o.guard = none)
    (ho : o.op = .call { callee := .builtin .append, args := #[s, x], argTypes := #[ts, ts] }) (base B : Nat) (v u : Value) (xs zs : List Int)
    (hs : a.eval s = v) (hx : a.eval x = u) (hown : OwnI w base te v xs) (hz : Sl w B 1 u (zs.map intCells)) (hlen : xs.length + zs.length ≤ 10000000) (hbase : base ≤ w.heap.size)
    (h : ∀ v' w', OwnI w' base te v' (xs ++ zs) → Grew w w' v v' → wpList Try.prog ops Q rest (a.put o.dst v') w') : wpList Try.prog ops Q (o :: rest) a w := by
  obtain ⟨i, hi, hz0, hz1, hz2⟩ := info_parts hI
  obtain ⟨A, c, rfl⟩ := hz.len
  cases A with
  | some ad =>
    refine wpList_append_own_at w hgd s x ts ho base te i _ 1 8 hT hi hz0 hz1 hz2 rfl (by decide) v xs.length (xs.map (Value.int .i64)) hs hown ad zs.length c (zs.map (Value.int .i64)) hx (by simp) ?_ (fun u hu => by obtain ⟨z, _, rfl⟩ := List.mem_map.1 hu; rfl) (by unfold maxLen; omega) (by omega) hbase ?_
    · intro j u hu
      rw [List.getElem?_map] at hu
      cases hj : zs[j]? with
      | none => rw [hj] at hu; cases hu
      | some z =>
        rw [hj] at hu; injection hu with hu; subst hu
        obtain ⟨g, off, c', hv, _, hc⟩ := hz.one hj
        injection hv with e1 _ _
        injection e1 with e1; subst e1
        have hadd : (⟨g, off, none⟩ : Addr).add j = ⟨g, off + j, none⟩ := by unfold Addr.add; split <;> simp_all
        rw [hadd]; exact hc
    · intro v' w' hown' hgr _ hat
      exact h v' w' (by unfold OwnI; rw [List.map_append, List.length_append]; exact hown') ⟨hgr, hat.imp id fun e => ⟨_, e, Nat.le_refl _⟩⟩
  | none =>
    have hz0' : zs = [] := by
      cases zs with
      | nil => rfl
      | cons z zs =>
        obtain ⟨g, off, c', hv, _⟩ := hz.one (k := 0) (x := z) rfl
        injection hv with e1 _ _; cases e1
    subst hz0'
    refine wpList_plain hgd fun K hK => ?_
    have hr : (Builtin.append_ #[ts, ts] o.type #[v, .slice none 0 c]).run Try.prog w = .ok v w := by
      rcases hown.2 with ⟨rfl, _⟩ | ⟨g, cap, cur, rfl, _, hg, hnc, _⟩
      · simp [Builtin.append_, run_underlying hT, sizeOf, typeInfo, hi, Builtin.lenOf, Builtin.firstCells]
      · simp [Builtin.append_, run_underlying hT, sizeOf, typeInfo, hi, Builtin.lenOf, Builtin.firstCells, hnc, storeCells]
    unfold Oper.wp execOp
    simp only [ho, resolve, invoke, builtin, Sem.run_bind, Sem.run_pure, Result.andThen_ok, List.map_toArray, List.map_cons, List.map_nil, hs, hx, List.length_nil, hr]
    exact hK _ _ (h v w (by rw [List.append_nil]; exact hown) (Grew.refl _ _))

theorem plain_append_ints_n {ops : Array Oper} {rest : List Oper} {o : Oper} {a : Act} {w : World} {Q : Exit → Act → World → Prop} (s x : Operand) (ts te : TypeId) (hT : Try.prog.underlying ts = some (.slice te)) (hI : (Try.prog.info? te).map (fun i => (i.zero, i.size, i.bytes)) = some (some (.int .i64 0), 1, 8)) (hgd : o.guard = none)
    (ho : o.op = .call { callee := .builtin .append, args := #[s, x], argTypes := #[ts, ts] }) (base B n : Nat) (v u : Value) (xs zs : List Int)
    (hs : a.eval s = v) (hx : a.eval x = u) (hown : OwnI w base te v xs) (hz : Sl w B 1 u (zs.map intCells)) (hlen : xs.length + zs.length ≤ 10000000) (hbase : base ≤ w.heap.size) (hn : (xs ++ zs).length = n)
    (h : ∀ A c w', OwnI w' base te (.slice A n c) (xs ++ zs) → Grew w w' v (.slice A n c) → wpList Try.prog ops Q rest (a.put o.dst (.slice A n c)) w') : wpList Try.prog ops Q (o :: rest) a w := by
  refine plain_append_ints s x ts te hT hI hgd ho base B v u xs zs hs hx hown hz hlen hbase ?_
  intro v' w' h1 h2
  obtain ⟨A, c, e⟩ := h1.form
  rw [hn] at e
  subst e
  exact h A c w' h1 h2

/-! ### A zone's variable -/
structure ZnBox (U : World) (P : Nat) (a b c d : Value) : Prop where
  c0 : U.cell? ⟨P, 0, none⟩ = some a
  c1 : U.cell? ⟨P, 1, none⟩ = some b
  c2 : U.cell? ⟨P, 2, none⟩ = some c
  c3 : U.cell? ⟨P, 3, none⟩ = some d
  fr : ∀ i, U.frozen? ⟨P, i, none⟩ = false
  lt : P < U.heap.size
section
variable {U V : World} {P G : Nat} {a b c d : Value}
theorem ZnBox.below (h : ZnBox U P a b c d) (hb : Below G U V) (hP : P < G) : ZnBox V P a b c d :=
  ⟨cells_at P hb hP h.c0, cells_at P hb hP h.c1, cells_at P hb hP h.c2, cells_at P hb hP h.c3, fun i => (hb.frozen (p := ⟨P, i, none⟩) hP).trans (h.fr i), Nat.lt_of_lt_of_le h.lt hb.size⟩
theorem set_other {W : World} {g i j : Nat} {u : Value} (hij : i ≠ j) : (W.setCell ⟨g, i, none⟩ u).cell? ⟨g, j, none⟩ = W.cell? ⟨g, j, none⟩ := World.cell?_setCell_other _ _ _ _ (by rintro ⟨⟩; exact hij rfl)
theorem ZnBox.set1 (h : ZnBox U P a b c d) (x : Value) : ZnBox (U.setCell ⟨P, 1, none⟩ x) P a x c d :=
  ⟨(set_other (by decide)).trans h.c0, World.cell?_setCell_same _ _ _ h.c1, (set_other (by decide)).trans h.c2, (set_other (by decide)).trans h.c3, fun i => by rw [World.frozen?_setCell]; exact h.fr i, by simpa using h.lt⟩
theorem ZnBox.set2 (h : ZnBox U P a b c d) (x : Value) : ZnBox (U.setCell ⟨P, 2, none⟩ x) P a b x d :=
  ⟨(set_other (by decide)).trans h.c0, (set_other (by decide)).trans h.c1, World.cell?_setCell_same _ _ _ h.c2, (set_other (by decide)).trans h.c3, fun i => by rw [World.frozen?_setCell]; exact h.fr i, by simpa using h.lt⟩
theorem ZnBox.set3 (h : ZnBox U P a b c d) (x : Value) : ZnBox (U.setCell ⟨P, 3, none⟩ x) P a b c x :=
  ⟨(set_other (by decide)).trans h.c0, (set_other (by decide)).trans h.c1, (set_other (by decide)).trans h.c2, World.cell?_setCell_same _ _ _ h.c3, fun i => by rw [World.frozen?_setCell]; exact h.fr i, by simpa using h.lt⟩
theorem ZnBox.new (W : World) (P : Nat) (hP : W.heap.size = P) (a b c d : Value) (t : TypeId) : ZnBox (W.alloc (.cells #[a, b, c, d] t)) P a b c d :=
  ⟨cell_new W _ t P 0 a hP rfl, cell_new W _ t P 1 b hP rfl, cell_new W _ t P 2 c hP rfl, cell_new W _ t P 3 d hP rfl, fun i => by subst hP; exact frozen_of_row _ _ i _ t (heap_alloc_new _ _), by subst hP; simp⟩
end
theorem grown_set (W : World) (g i : Nat) (u : Value) : W.grownBy (W.setCell ⟨g, i, none⟩ u) (some g) :=
  ⟨rfl, rfl, rfl, by simp, fun k _ hne => by simp only [World.setCell, Array.getElem?_modify]; rw [if_neg (fun e => hne (by rw [← e]))]⟩
theorem OwnI.set {W : World} {base : Nat} {te : TypeId} {v : Value} {xs : List Int} (h : OwnI W base te v xs) {g : Nat} (hg : g < base) (i : Nat) (u : Value) : OwnI (W.setCell ⟨g, i, none⟩ u) base te v xs :=
  World.ownsRow.kept h (grown_set W g i u) (by
    cases hv : v.ownBlock with
    | none => exact .inl rfl
    | some k => exact .inr (fun e => by injection e with e; have := (h.lt k hv).1; omega))

/-! ### One time more -/
def moreZ (z : Zn) (at_ idx : Int) : Zn := { z with times := z.times ++ [at_], index := z.index ++ [idx] }
theorem rises_snoc : ∀ {l : List Int} {x : Int}, rises l = true → (∀ y ∈ l, y < x) → rises (l ++ [x]) = true
  | [], _, _, _ => rfl
  | [a], x, _, h => by simp [rises]; exact h a (by simp)
  | a :: b :: l, x, hr, h => by
    unfold rises at hr
    simp only [Bool.and_eq_true] at hr
    show (decide (a < b) && rises (b :: l ++ [x])) = true
    rw [hr.1, rises_snoc hr.2 (fun y hy => h y (by simp [hy]))]; rfl
theorem rises_last : ∀ {l : List Int}, rises l = true → ∀ y ∈ l, ∀ z, l.getLast? = some z → y ≤ z
  | [], _, y, hy, _, _ => by simp at hy
  | [a], _, y, hy, z, hz => by simp at hy hz; omega
  | a :: b :: l, hr, y, hy, z, hz => by
    unfold rises at hr
    simp only [Bool.and_eq_true, decide_eq_true_eq] at hr
    have hz2 : (b :: l).getLast? = some z := by rw [← hz]; rfl
    rcases List.mem_cons.1 hy with rfl | hy
    · have := rises_last hr.2 b (by simp) z hz2; omega
    · exact rises_last hr.2 y hy z hz2
theorem more_right {z : Zn} {at_ idx : Int} (h : rightZ z = true) (hl : z.times.length < 499) (hat : ∀ y ∈ z.times, y < at_) (h0 : 0 ≤ idx) (h1 : idx < z.types.length) : rightZ (moreZ z at_ idx) = true := by
  unfold rightZ rightTms rightIdx at *
  simp only [Bool.and_eq_true, decide_eq_true_eq, moreZ, List.length_append, List.length_cons, List.length_nil] at h ⊢
  obtain ⟨⟨⟨⟨⟨a1, a2, a3⟩, a4⟩, a5⟩, a6⟩, a7⟩ := h
  refine ⟨⟨⟨⟨⟨a1, by omega, rises_snoc a3 hat⟩, by omega⟩, ?_⟩, decide_eq_true a6⟩, a7⟩
  rw [List.all_append, a5]
  simp [inI, h0]; omega
theorem begun_snoc_lt {l : List Int} {x sec : Int} (h : sec < x) : begun (l ++ [x]) sec = begun l sec := by
  unfold begun
  induction l with
  | nil => simp [List.takeWhile_cons]; omega
  | cons a l ih =>
    rw [List.cons_append, List.takeWhile_cons, List.takeWhile_cons]
    split
    · simp [ih]
    · rfl
theorem begun_all {l : List Int} {sec : Int} (h : ∀ y ∈ l, y ≤ sec) : begun l sec = l.length := by
  unfold begun
  rw [show l.takeWhile (fun x => decide (x ≤ sec)) = l from by
    induction l with
    | nil => rfl
    | cons a l ih => rw [List.takeWhile_cons, if_pos (by simpa using h a (by simp)), ih (fun y hy => h y (by simp [hy]))]]
theorem begun_le (l : List Int) (sec : Int) : begun l sec ≤ l.length := by
  unfold begun; exact (List.takeWhile_sublist _).length_le
theorem more_at {z : Zn} {at_ idx sec : Int} (h : rightZ z = true) (hl : z.times.length < 499) (hat : ∀ y ∈ z.times, y < at_) (h0 : 0 ≤ idx) (h1 : idx < z.types.length) : atZ (moreZ z at_ idx) sec = if at_ ≤ sec then idx else atZ z sec := by
  have hr := more_right h hl hat h0 h1
  obtain ⟨_, hle⟩ := right_parts h
  unfold atZ
  rw [hr, if_pos rfl, h, if_pos rfl]
  show (if 0 < begun (z.times ++ [at_]) sec then ((z.index ++ [idx])[begun (z.times ++ [at_]) sec - 1]?).getD 0 else max (firstStd z.types) 0) = _
  by_cases hs : at_ ≤ sec
  · rw [if_pos hs, begun_all (l := z.times ++ [at_]) (sec := sec) (by
      intro y hy
      rcases List.mem_append.1 hy with hy | hy
      · have := hat y hy; omega
      · simp at hy; omega)]
    simp [← hle]
  · rw [if_neg hs, begun_snoc_lt (by omega)]
    have hb := begun_le z.times sec
    by_cases hk : 0 < begun z.times sec
    · rw [if_pos hk, if_pos hk, List.getElem?_append_left (by omega)]
    · rw [if_neg hk, if_neg hk]
end Go.Proofs.Ytohpdpcjhmopbaa.Tz
