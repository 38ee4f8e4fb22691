/-
  Layer 6 (tzif): the program's Put.
-/
import Derived.Test.YtljkcnoicdhchaaTzO
namespace Go.Proofs.Ytljkcnoicdhchaa.Tz
open Go.RowKit

def timesB (l : List Int) : List Int := l.flatMap fun t => digs (IntKind.u64.wrap t).toNat 8
def indexB (l : List Int) : List Int := l.map fun i => i % 256
def hd1 : Hd := ⟨50, 0, 0, 0, 0, 1, 1⟩
def hd2 (z : Zn) : Hd := ⟨50, 0, 0, 0, z.times.length, z.types.length, letters z.types⟩
/-- The bytes ahead of the times. -/
def topB (z : Zn) : List Int := headB hd1 ++ zerosB 7 ++ headB (hd2 z)
def putB (z : Zn) : List Int := topB z ++ timesB z.times ++ indexB z.index ++ typesB z.types 0 ++ lettersB z.types ++ [10] ++ bytesOf z.footer ++ [10]
theorem headB_len (h : Hd) : (headB h).length = 44 := by
  unfold headB magicB zerosB Hd.counts
  simp [digs_len]
theorem timesB_len (l : List Int) : (timesB l).length = 8 * l.length := by
  unfold timesB
  induction l with
  | nil => rfl
  | cons a l ih => rw [List.flatMap_cons, List.length_append, digs_len, ih, List.length_cons]; omega
theorem right_all {z : Zn} (h : rightZ z = true) : z.types.length ≤ 255 ∧ 1 ≤ z.types.length ∧ z.times.length ≤ 4000 ∧ z.index.length = z.times.length ∧ letters z.types ≤ 256 ∧ z.footer.size ≤ 100 ∧ (∀ t ∈ z.types, t.abbr.size ≤ 15 ∧ -89999 ≤ t.off ∧ t.off ≤ 93599) ∧ (∀ i ∈ z.index, 0 ≤ i ∧ i ≤ 254) := by
  unfold rightZ rightTms rightTys rightIdx at h
  simp only [Bool.and_eq_true, decide_eq_true_eq, List.all_eq_true, inI] at h
  obtain ⟨⟨⟨⟨⟨⟨⟨h1, h2⟩, h3⟩, h4, _⟩, h5⟩, h6⟩, h7⟩, _⟩ := h
  refine ⟨by omega, by omega, h4, h5, h3, h7, fun t ht => ?_, fun i hi => ?_⟩
  · have := h2 t ht
    unfold rightTy inI at this
    simp only [Bool.and_eq_true, decide_eq_true_eq] at this
    omega
  · have := h6 i hi
    omega
set_option maxRecDepth 100000 in
set_option maxHeartbeats 1000000 in
theorem put_no (z : Zn) (vt vs vi : Value) (B : Nat) (w : World) (h : ZnAt w B z vt vs vi) (ho : ZnOk z) (hB : B ≤ w.heap.size) (hr : rightZ z = false) :
    Calls Try.prog 11 #[.agg #[vt, vs, vi, .string z.footer]] w fun e w' => e = .returned (.tuple #[.slice none 0 0, .int .i64 2]) ∧ Below w.heap.size w w' := by
  obtain ⟨At, ct, rfl⟩ := h.types.len
  obtain ⟨As, cs, rfl⟩ := h.times.len
  obtain ⟨Ai, ci, rfl⟩ := h.index.len
  have HRT : Hid (∀ V, Below w.heap.size w V → Calls Try.prog 13 #[.agg #[.slice At z.types.length ct, .slice As z.times.length cs, .slice Ai z.index.length ci, .string z.footer]] V fun e V' => e = .returned (.bool false) ∧ Below V.heap.size V V') := Lib.hid fun V hb => by
    have := right_any z _ _ _ B V (h.below hb hB) ho (Nat.le_trans hB hb.size)
    rwa [hr] at this
  have HB0 : Hid (Below w.heap.size w (w.alloc (.cells #[.slice At z.types.length ct, .slice As z.times.length cs, .slice Ai z.index.length ci, .string z.footer] 26))) := Lib.hid ((Below.refl _ _).alloc (Nat.le_refl _) _)
  clear h hB hr
  go_enter Try.func11, Try.ntmps11
  go_wp2_with (first
    | (go_at_call 13; refine (HRT.out _ HB0.out).mono ?_; clear HRT; rintro e V ⟨rfl, hb⟩; have HV := Lib.hid (HB0.out.trans (hb.mono HB0.out.size)); clear hb)
    | fail)
  go_ret2
  exact ⟨rfl, HV.out⟩
theorem Own.open_ {w : World} {base : Nat} {v : Value} {xs : List Int} (h : Own w base v xs) (h0 : 0 < xs.length) : ∃ g c, v = .slice (some ⟨g, 0, none⟩) xs.length c ∧ base ≤ g ∧ g < w.heap.size ∧ ∀ j u, xs[j]? = some u → w.cell? ((⟨g, 0, none⟩ : Addr).add j) = some (by8 u) := by
  rcases h.2 with ⟨rfl, h1⟩ | ⟨g, cap, cur, rfl, hbg, hg, _⟩
  · simp at h1; subst h1; simp at h0
  · refine ⟨g, cap, rfl, hbg, (Array.getElem?_eq_some_iff.1 hg).1, fun j u hu => ?_⟩
    exact World.ownsRow.cells h (g := g) rfl j (by8 u) (by rw [List.getElem?_map, hu]; rfl)
theorem Own.lower {w : World} {b c : Nat} {v : Value} {xs : List Int} (h : Own w b v xs) (hc : c ≤ b) : Own w c v xs := by
  refine ⟨h.1, ?_⟩
  rcases h.2 with h0 | ⟨g, cap, cur, e, hbg, h⟩
  · exact .inl h0
  · exact .inr ⟨g, cap, cur, e, Nat.le_trans hc hbg, h⟩
theorem letters_pos {l : List Ty} (h : 1 ≤ l.length) : 0 < letters l := by
  cases l with
  | nil => simp at h
  | cons t l => unfold letters; simp; omega
theorem Own_add (g j : Nat) : (⟨g, 0, none⟩ : Addr).add j = ⟨g, j, none⟩ := by
  unfold Addr.add; split <;> simp_all
theorem u64_nat (x : Int) : ∃ n : Nat, IntKind.u64.wrap x = (n : Int) := by
  have : 0 ≤ IntKind.u64.wrap x := by rw [IntKind.wrap_u64]; omega
  exact ⟨(IntKind.u64.wrap x).toNat, by omega⟩
theorem cells_at (g : Nat) {w V : World} {G : Nat} (h : Below G w V) (hg : g < G) {i : Nat} {u : Value} (hc : w.cell? ⟨g, i, none⟩ = some u) : V.cell? ⟨g, i, none⟩ = some u := (h.cell (p := ⟨g, i, none⟩) hg).trans hc
set_option maxRecDepth 100000 in
set_option maxHeartbeats 4000000 in
theorem put_yes (z : Zn) (vt vs vi : Value) (B : Nat) (w : World) (h : ZnAt w B z vt vs vi) (ho : ZnOk z) (hB : B ≤ w.heap.size) (hr : rightZ z = true) :
    Calls Try.prog 11 #[.agg #[vt, vs, vi, .string z.footer]] w fun e w' => ∃ v, e = .returned (.tuple #[v, .int .i64 0]) ∧ Own w' w.heap.size v (putB z) ∧ Below w.heap.size w w' := by
  obtain ⟨b1, b2, b3, b4, b5, b6, b7, b8⟩ := right_all hr
  obtain ⟨At, ct, rfl⟩ := h.types.len
  obtain ⟨As, cs, rfl⟩ := h.times.len
  obtain ⟨Ai, ci, rfl⟩ := h.index.len
  have HRT : Hid (∀ V, Below w.heap.size w V → Calls Try.prog 13 #[.agg #[.slice At z.types.length ct, .slice As z.times.length cs, .slice Ai z.index.length ci, .string z.footer]] V fun e V' => e = .returned (.bool true) ∧ Below V.heap.size V V') := Lib.hid fun V hb => by
    have := right_any z _ _ _ B V (h.below hb hB) ho (Nat.le_trans hB hb.size)
    rwa [hr] at this
  have hn5 : (lettersB z.types).length = letters z.types := lettersB_len _
  obtain ⟨n4, hn4⟩ : ∃ n, (typesB z.types 0).length = n := ⟨_, rfl⟩
  obtain ⟨n5, hn6⟩ : ∃ n, letters z.types = n := ⟨_, rfl⟩
  have hb4 : n4 ≤ 1530 := by rw [← hn4, typesB_len]; omega
  have hp4 : 0 < n4 := by rw [← hn4, typesB_len]; omega
  have hp5 : 0 < n5 := by rw [← hn6]; exact letters_pos b2
  have HPT : Hid (∀ V, Below w.heap.size w V → Calls Try.prog 21 #[.slice At z.types.length ct] V fun e w' => ∃ g4 c4 g5 c5, e = .returned (.tuple #[.slice (some ⟨g4, 0, none⟩) n4 c4, .slice (some ⟨g5, 0, none⟩) n5 c5]) ∧ (g4 < w'.heap.size ∧ ∀ j u, (typesB z.types 0)[j]? = some u → w'.cell? ((⟨g4, 0, none⟩ : Addr).add j) = some (by8 u)) ∧ (g5 < w'.heap.size ∧ ∀ j u, (lettersB z.types)[j]? = some u → w'.cell? ((⟨g5, 0, none⟩ : Addr).add j) = some (by8 u)) ∧ Below V.heap.size V w') := Lib.hid fun V hb => by
    refine (putTypes_any _ z.types B V (h.types.below hb hB) (Nat.le_trans hB hb.size) (by omega) (fun t ht => (b7 t ht).1)).mono ?_
    rintro e V' ⟨u1, u2, he, h1, h2, h3, h4⟩
    obtain ⟨g4, c4, e4, _, k4, m4⟩ := h1.open_ (by omega)
    obtain ⟨g5, c5, e5, _, k5, m5⟩ := h2.open_ (by omega)
    rw [hn4] at e4
    rw [hn5, hn6] at e5
    subst e4; subst e5
    exact ⟨g4, c4, g5, c5, he, ⟨k4, m4⟩, ⟨k5, m5⟩, h4⟩
  have HN4 := Lib.hid hn4; have HN5 := Lib.hid (hn5.trans hn6); have HN6 := Lib.hid hn6
  rw [hn6] at b5
  have HEQ := Lib.hid b4; have HTY := Lib.hid b7; have HIX := Lib.hid b8
  clear hn4 hn5 hn6 b4 b7 b8
  have H := Lib.hid h
  have HB0 : Hid (Below w.heap.size w (w.alloc (.cells #[.slice At z.types.length ct, .slice As z.times.length cs, .slice Ai z.index.length ci, .string z.footer] 26))) := Lib.hid ((Below.refl _ _).alloc (Nat.le_refl _) _)
  have HLT : Hid (w.heap.size < (w.alloc (.cells #[.slice At z.types.length ct, .slice As z.times.length cs, .slice Ai z.index.length ci, .string z.footer] 26)).heap.size) := Lib.hid (by simp)
  have z0 := World.cell?_alloc_mark w #[.slice At z.types.length ct, .slice As z.times.length cs, .slice Ai z.index.length ci, .string z.footer] 26 (0, 0) 0
  have z1 := World.cell?_alloc_mark w #[.slice At z.types.length ct, .slice As z.times.length cs, .slice Ai z.index.length ci, .string z.footer] 26 (0, 0) 1
  have z2 := World.cell?_alloc_mark w #[.slice At z.types.length ct, .slice As z.times.length cs, .slice Ai z.index.length ci, .string z.footer] 26 (0, 0) 2
  have z3 := World.cell?_alloc_mark w #[.slice At z.types.length ct, .slice As z.times.length cs, .slice Ai z.index.length ci, .string z.footer] 26 (0, 0) 3
  simp only [List.getElem?_toArray, List.getElem?_cons_zero, List.getElem?_cons_succ] at z0 z1 z2 z3
  clear h hr ho
  go_enter Try.func11, Try.ntmps11
  go_wp2_with (first
    | (go_at_call 13; refine (HRT.out _ HB0.out).mono ?_; clear HRT; rintro e V1 ⟨rfl, hb⟩; have HB1 := Lib.hid (HB0.out.trans (hb.mono HB0.out.size)); have k0 := cells_at w.heap.size hb HLT.out z0; have k1 := cells_at w.heap.size hb HLT.out z1; have k2 := cells_at w.heap.size hb HLT.out z2; have k3 := cells_at w.heap.size hb HLT.out z3; have HLT1 := Lib.hid (Nat.lt_of_lt_of_le HLT.out hb.size); clear hb z0 z1 z2 z3 HLT HB0)
    | (go_at_call 21; refine (HPT.out _ HB1.out).mono ?_; clear HPT; rintro e V2 ⟨g4, c4, g5, c5, rfl, hO4, hO5, hb⟩; have HO4 := Lib.hid hO4; have HO5 := Lib.hid hO5; have HB2 := Lib.hid (HB1.out.trans (hb.mono HB1.out.size)); have m0 := cells_at w.heap.size hb HLT1.out k0; have m1 := cells_at w.heap.size hb HLT1.out k1; have m2 := cells_at w.heap.size hb HLT1.out k2; have m3 := cells_at w.heap.size hb HLT1.out k3; have HLT2 := Lib.hid (Nat.lt_of_lt_of_le HLT1.out hb.size); have n0 : ∀ o, (V2.alloc o).cell? ⟨w.heap.size, 0, none⟩ = some (.slice At z.types.length ct) := (fun o => cells_at w.heap.size ((Below.refl V2.heap.size V2).alloc (Nat.le_refl _) o) HLT2.out m0); have n1 : ∀ o, (V2.alloc o).cell? ⟨w.heap.size, 1, none⟩ = some (.slice As z.times.length cs) := (fun o => cells_at w.heap.size ((Below.refl V2.heap.size V2).alloc (Nat.le_refl _) o) HLT2.out m1); have M1 := Lib.hid m1; have M2 := Lib.hid m2; have M3 := Lib.hid m3; clear k0 k1 k2 k3 m0 m1 m2 m3 hO4 hO5 hb HB1 HLT1)
    | fail)
  obtain ⟨X, hX⟩ : ∃ X, (V2.alloc (.cells #[.int .u8 50, .int .i64 0, .int .i64 0, .int .i64 0, .int .i64 0, .int .i64 1, .int .i64 1] 60)).alloc (.cells #[.int .u8 50, .int .i64 0, .int .i64 0, .int .i64 0, .int .i64 z.times.length, .int .i64 z.types.length, .int .i64 n5] 60) = X := ⟨_, rfl⟩
  rw [hX]
  have HBX : Hid (Below V2.heap.size V2 X) := Lib.hid (by rw [← hX]; exact ((Below.refl _ _).alloc (Nat.le_refl _) _).alloc (by simp) _)
  have HSX : Hid (X.heap.size = V2.heap.size + 2) := Lib.hid (by rw [← hX]; simp)
  have HX6 : Hid (∀ i, X.cell? ⟨V2.heap.size, i, none⟩ = (#[.int .u8 50, .int .i64 0, .int .i64 0, .int .i64 0, .int .i64 0, .int .i64 1, .int .i64 1] : Array Value)[i]?) := Lib.hid fun i => by
    rw [← hX]
    have h1 : Below (V2.heap.size + 1) (V2.alloc (.cells #[.int .u8 50, .int .i64 0, .int .i64 0, .int .i64 0, .int .i64 0, .int .i64 1, .int .i64 1] 60)) ((V2.alloc (.cells #[.int .u8 50, .int .i64 0, .int .i64 0, .int .i64 0, .int .i64 0, .int .i64 1, .int .i64 1] 60)).alloc (.cells #[.int .u8 50, .int .i64 0, .int .i64 0, .int .i64 0, .int .i64 z.times.length, .int .i64 z.types.length, .int .i64 n5] 60)) := (Below.refl _ _).alloc (by simp) _
    exact (h1.cell (p := ⟨V2.heap.size, i, none⟩) (Nat.lt_succ_self _)).trans (World.cell?_alloc_mark V2 _ _ (0, 0) i)
  have HX7 : Hid (∀ i, X.cell? ⟨V2.heap.size + 1, i, none⟩ = (#[.int .u8 50, .int .i64 0, .int .i64 0, .int .i64 0, .int .i64 z.times.length, .int .i64 z.types.length, .int .i64 n5] : Array Value)[i]?) := Lib.hid fun i => by
    rw [← hX]
    have e : V2.heap.size + 1 = (V2.alloc (.cells #[.int .u8 50, .int .i64 0, .int .i64 0, .int .i64 0, .int .i64 0, .int .i64 1, .int .i64 1] 60)).heap.size := by simp
    rw [e]
    exact World.cell?_alloc_mark _ _ _ (0, 0) i
  have HZ1 := Lib.hid (cells_at w.heap.size HBX.out HLT2.out M1.out)
  have HZ2 := Lib.hid (cells_at w.heap.size HBX.out HLT2.out M2.out)
  have HZ3 := Lib.hid (cells_at w.heap.size HBX.out HLT2.out M3.out)
  have HWX : Hid (Below w.heap.size w X) := Lib.hid (HB2.out.trans (HBX.out.mono HB2.out.size))
  have HGX : Hid (w.heap.size < X.heap.size) := Lib.hid (Nat.lt_of_lt_of_le HLT2.out HBX.out.size)
  have HG6 : Hid (V2.heap.size < X.heap.size) := Lib.hid (by rw [HSX.out]; omega)
  have HG7 : Hid (V2.heap.size + 1 < X.heap.size) := Lib.hid (by rw [HSX.out]; omega)
  have HT4 : Hid (g4 < X.heap.size ∧ ∀ j u, (typesB z.types 0)[j]? = some u → X.cell? ((⟨g4, 0, none⟩ : Addr).add j) = some (by8 u)) := Lib.hid ⟨Nat.lt_of_lt_of_le HO4.out.1 HBX.out.size, fun j u hu => by
    have := HO4.out.2 j u hu
    rw [Own_add] at this ⊢
    exact cells_at g4 HBX.out HO4.out.1 this⟩
  have HT5 : Hid (g5 < X.heap.size ∧ ∀ j u, (lettersB z.types)[j]? = some u → X.cell? ((⟨g5, 0, none⟩ : Addr).add j) = some (by8 u)) := Lib.hid ⟨Nat.lt_of_lt_of_le HO5.out.1 HBX.out.size, fun j u hu => by
    have := HO5.out.2 j u hu
    rw [Own_add] at this ⊢
    exact cells_at g5 HBX.out HO5.out.1 this⟩
  have HP1 : Hid (Calls Try.prog 22 #[.agg #[.int .u8 50, .int .i64 0, .int .i64 0, .int .i64 0, .int .i64 0, .int .i64 1, .int .i64 1], .slice none 0 0] X fun e w' => ∃ v', e = .returned v' ∧ Own w' X.heap.size v' (headB hd1) ∧ Below X.heap.size X w') := Lib.hid (by
    refine (headPut_any hd1 (.slice none 0 0) [] X.heap.size X (Own.nil _ _) (by simp) (Nat.le_refl _) (by decide)).mono ?_
    rintro e w' ⟨v', he, h1, h2⟩
    exact ⟨v', he, h1, grew_below (Own.nil X X.heap.size) h2 (Nat.le_refl _) (Nat.le_refl _)⟩)
  clear hX n0 n1 M1 M2 M3 HO4 HO5 HB2 HLT2 HBX
  refine HP1.out.mono ?_
  clear HP1
  rintro e X1 ⟨v1, rfl, hO, hb⟩
  have HO1 := Lib.hid hO; have HB1 := Lib.hid hb
  have p0 := cells_at V2.heap.size hb HG6.out (HX6.out 0); have p1 := cells_at V2.heap.size hb HG6.out (HX6.out 1); have p2 := cells_at V2.heap.size hb HG6.out (HX6.out 2); have p3 := cells_at V2.heap.size hb HG6.out (HX6.out 3); have p4 := cells_at V2.heap.size hb HG6.out (HX6.out 4); have p5 := cells_at V2.heap.size hb HG6.out (HX6.out 5); have p6 := cells_at V2.heap.size hb HG6.out (HX6.out 6)
  have HL1 : Hid (Calls Try.prog 23 #[.agg #[.int .u8 50, .int .i64 0, .int .i64 0, .int .i64 0, .int .i64 0, .int .i64 1, .int .i64 1], .int .i64 4] X1 fun e w' => e = .returned (.int .i64 7) ∧ Below X1.heap.size X1 w') := Lib.hid (blockLong_any hd1 4 (.inl rfl) ⟨by decide, by decide, by decide, by decide, by decide, by decide⟩ X1)
  clear hO hb
  go_wp2_with (first
    | (go_at_call 23; refine HL1.out.mono ?_; clear HL1; rintro e X2 ⟨rfl, hb⟩; have HO2 := Lib.hid (HO1.out.keep hb); have HB2 := Lib.hid (HB1.out.trans (hb.mono HB1.out.size)); clear hb p0 p1 p2 p3 p4 p5 p6 HO1 HB1)
    | (at_builtin; refine plain_append_zeros (.tmp 34) (.tmp 36) 2 Try.underlying2 rfl rfl X.heap.size _ (headB hd1) 7 (by omega) rfl rfl HO2.out (by rw [headB_len]; omega) HB2.out.size ?_; intro v3 X3 hO hG; have HO3 := Lib.hid hO; have HB3 := Lib.hid (HB2.out.trans (grew_below HO2.out hG (Nat.le_refl _) HB2.out.size)); clear hO hG HO2 HB2; have p0 := cells_at (V2.heap.size + 1) HB3.out HG7.out (HX7.out 0); have p1 := cells_at (V2.heap.size + 1) HB3.out HG7.out (HX7.out 1); have p2 := cells_at (V2.heap.size + 1) HB3.out HG7.out (HX7.out 2); have p3 := cells_at (V2.heap.size + 1) HB3.out HG7.out (HX7.out 3); have p4 := cells_at (V2.heap.size + 1) HB3.out HG7.out (HX7.out 4); have p5 := cells_at (V2.heap.size + 1) HB3.out HG7.out (HX7.out 5); have p6 := cells_at (V2.heap.size + 1) HB3.out HG7.out (HX7.out 6))
    | fail)
  have HP2 : Hid (Calls Try.prog 22 #[.agg #[.int .u8 50, .int .i64 0, .int .i64 0, .int .i64 0, .int .i64 z.times.length, .int .i64 z.types.length, .int .i64 n5], v3] X3 fun e w' => ∃ v', e = .returned v' ∧ Own w' X.heap.size v' (topB z) ∧ Below X.heap.size X w') := Lib.hid (by
    have hn := HN6.out
    subst hn
    refine (headPut_any (hd2 z) v3 (headB hd1 ++ zerosB 7) X.heap.size X3 HO3.out (by rw [List.length_append, headB_len]; unfold zerosB; simp) HB3.out.size (by intro n hn; simp [hd2, Hd.counts] at hn; omega)).mono ?_
    rintro e w' ⟨v', he, h1, h2⟩
    exact ⟨v', he, h1, HB3.out.trans (grew_below HO3.out h2 (Nat.le_refl _) HB3.out.size)⟩)
  clear p0 p1 p2 p3 p4 p5 p6 HX6 HX7 HG6 HG7
  refine HP2.out.mono ?_
  clear HP2 HO3 HB3
  rintro e X4 ⟨v4, rfl, hO, hb⟩
  have HO4 := Lib.hid hO; have HB4 := Lib.hid hb
  have k1 := cells_at w.heap.size hb HGX.out HZ1.out
  clear hO hb
  have HTL : Hid ((topB z).length = 95) := Lib.hid (by unfold topB; rw [List.length_append, List.length_append, headB_len, headB_len]; unfold zerosB; simp)
  go_wp2_with fail
  clear k1
  go_loopw [8, 44] (fun u i wr => ∃ (k : Nat) (acc : List Int), k ≤ z.times.length ∧ i = .int .i64 k ∧ acc = topB z ++ timesB (z.times.take k) ∧ acc.length ≤ 95 + 8 * k ∧ Own wr X.heap.size u acc ∧ Below X.heap.size X wr) (fun _ i _ => z.times.length - (intOf i).toNat)
  case atStart => exact ⟨0, topB z, by omega, rfl, by simp [timesB], by rw [HTL.out]; omega, HO4.out, HB4.out⟩
  case round =>
    obtain ⟨k, acc, hk, rfl, hacc, hal, ho, hg⟩ := hrel
    have HAC := Lib.hid hacc; have HAL := Lib.hid hal; have HO5 := Lib.hid ho; have HB5 := Lib.hid hg
    clear hacc hal ho hg HO4 HB4
    by_cases hlt : k < z.times.length
    · have hk0 : (0 : Int) ≤ (k : Int) := by omega
      have hk1 : (k : Int) < (z.times.length : Int) := by omega
      obtain ⟨x, hx⟩ : ∃ x, z.times[k]? = some x := ⟨_, List.getElem?_eq_getElem hlt⟩
      obtain ⟨g, off, c', hv, hg, c0⟩ := H.out.times.one hx
      injection hv with e1 _ e3
      subst e1; subst e3
      have k0 := cells_at g HB5.out (Nat.lt_of_lt_of_le (Nat.lt_of_lt_of_le hg hB) HWX.out.size) (cells_at g HWX.out (Nat.lt_of_lt_of_le hg hB) c0)
      obtain ⟨n, hn⟩ := u64_nat x
      have HNX : Hid ((IntKind.u64.wrap x).toNat = n) := Lib.hid (by rw [hn]; simp)
      have HXX := Lib.hid hx
      have HP : Hid (∀ V, V = wr → Calls Try.prog 24 #[_, .int .i64 8, .int .u64 n] V fun e w' => ∃ v', e = .returned v' ∧ Own w' X.heap.size v' (acc ++ digs n 8) ∧ Below X.heap.size X w') := Lib.hid fun V hV => by
        subst hV
        refine (putNumber_any _ acc 8 n X.heap.size _ HO5.out (by have := HAL.out; omega) (by omega) HB5.out.size).mono ?_
        rintro e w' ⟨v', he, h1, h2⟩
        exact ⟨v', he, h1, HB5.out.trans (grew_below HO5.out h2 (Nat.le_refl _) HB5.out.size)⟩
      clear hx c0 hg
      go_wp2_with (first
        | (go_at_call 24; refine (HP.out _ rfl).mono ?_; clear HP; rintro e X6 ⟨v6, rfl, hO6, hB6⟩; have HO6 := Lib.hid hO6; have HB6 := Lib.hid hB6; clear hO6 hB6)
        | fail)
      exact ⟨⟨k + 1, _, by omega, by go_num, by rw [HAC.out, take_one HXX.out, timesB, timesB, List.flatMap_append, List.append_assoc]; simp [HNX.out], by have := HAL.out; rw [List.length_append, digs_len]; omega, HO6.out, HB6.out⟩, by simp [intOf]; omega⟩
    · obtain rfl : k = z.times.length := by omega
      have hacc : acc = topB z ++ timesB z.times := by rw [HAC.out, List.take_of_length_le (Nat.le_refl _)]
      have HAC2 := Lib.hid hacc
      clear hacc HAC
      have k2 := cells_at w.heap.size HB5.out HGX.out HZ2.out
      have hk1 : ¬ (z.times.length : Int) < (z.times.length : Int) := by omega
      go_wp2_with fail
      clear k2
      obtain ⟨wA, rfl⟩ : ∃ wo : World, wo = wr := ⟨_, rfl⟩
      go_loopw [8, 56] (fun u i wr => ∃ (k : Nat) (ac2 : List Int), k ≤ z.index.length ∧ i = .int .i64 k ∧ ac2 = acc ++ indexB (z.index.take k) ∧ ac2.length ≤ 32095 + k ∧ Own wr X.heap.size u ac2 ∧ Below X.heap.size X wr) (fun _ i _ => z.index.length - (intOf i).toNat)
      case atStart => exact ⟨0, acc, by omega, rfl, by simp [indexB], by have := HAL.out; omega, HO5.out, HB5.out⟩
      case round =>
        obtain ⟨k, ac2, hk, rfl, hacc, hal, ho, hg⟩ := hrel
        have HAC := Lib.hid hacc; have HAL := Lib.hid hal; have HO6 := Lib.hid ho; have HB6 := Lib.hid hg
        clear hacc hal ho hg HO5 HB5
        have hki : k ≤ 4000 := by have := HEQ.out; omega
        by_cases hlt : k < z.index.length
        · have hk0 : (0 : Int) ≤ (k : Int) := by omega
          have hk1 : (k : Int) < (z.index.length : Int) := by omega
          obtain ⟨x, hx⟩ : ∃ x, z.index[k]? = some x := ⟨_, List.getElem?_eq_getElem hlt⟩
          obtain ⟨g, off, c', hv, hg, c0⟩ := H.out.index.one hx
          injection hv with e1 _ e3
          subst e1; subst e3
          have k0 := cells_at g HB6.out (Nat.lt_of_lt_of_le (Nat.lt_of_lt_of_le hg hB) HWX.out.size) (cells_at g HWX.out (Nat.lt_of_lt_of_le hg hB) c0)
          have HXX := Lib.hid hx
          clear hx c0 hg
          go_wp2_with (first
            | (at_builtin; refine plain_append_bytes (.tmp 60) (.tmp 63) rfl rfl X.heap.size _ ac2 [x % 256] ⟨wr.heap.size, 0, none⟩ 1 1 rfl rfl rfl (HO6.out.alloc _) (one_cell (new_cell _ _ rfl _ _)) (by have := HAL.out; omega) (by have := HB6.out.size; simp; omega) ?_; intro v' w' hown hgr; have HO7 := Lib.hid hown; have HB7 := Lib.hid (HB6.out.trans (grew_below HO6.out hgr.ahead (Nat.le_refl _) HB6.out.size)); clear hown hgr)
            | fail)
          exact ⟨⟨k + 1, _, by omega, by go_num, by rw [HAC.out, take_one HXX.out, indexB, indexB, List.map_append, List.append_assoc]; rfl, by have := HAL.out; rw [List.length_append]; show _ + 1 ≤ _; omega, HO7.out, HB7.out⟩, by simp [intOf]; omega⟩
        · have hk1 : ¬ (k : Int) < (z.index.length : Int) := by omega
          have hacc : ac2 = topB z ++ timesB z.times ++ indexB z.index := by rw [HAC.out, List.take_of_length_le (by omega), HAC2.out]
          have HAC3 := Lib.hid hacc
          clear hacc HAC HAC2
          go_wp2_with (first
            | (at_builtin; refine plain_append_bytes (.tmp 66) (.tmp 67) rfl rfl X.heap.size _ ac2 (typesB z.types 0) ⟨g4, 0, none⟩ n4 c4 rfl rfl HN4.out HO6.out (fun j u hu => by have h1 := HT4.out.2 j u hu; rw [Own_add] at h1 ⊢; exact cells_at g4 HB6.out HT4.out.1 h1) (by have := HAL.out; omega) HB6.out.size ?_; intro v7 V7 hown hgr; have HO7 := Lib.hid hown; have HB7 := Lib.hid (HB6.out.trans (grew_below HO6.out hgr (Nat.le_refl _) HB6.out.size)); clear hown hgr)
            | (at_builtin; refine plain_append_bytes (.tmp 68) (.tmp 69) rfl rfl X.heap.size _ (ac2 ++ typesB z.types 0) (lettersB z.types) ⟨g5, 0, none⟩ n5 c5 rfl rfl HN5.out HO7.out (fun j u hu => by have h1 := HT5.out.2 j u hu; rw [Own_add] at h1 ⊢; exact cells_at g5 HB7.out HT5.out.1 h1) (by have := HAL.out; have := HN4.out; rw [List.length_append]; omega) HB7.out.size ?_; intro v8 V8 hown hgr; have HO8 := Lib.hid hown; have HB8 := Lib.hid (HB7.out.trans (grew_below HO7.out hgr (Nat.le_refl _) HB7.out.size)); clear hown hgr)
            | fail)
          obtain ⟨L, hL⟩ : ∃ L, ac2 ++ typesB z.types 0 ++ lettersB z.types = L := ⟨_, rfl⟩
          have HL8 : Hid (L.length ≤ 40000) := Lib.hid (by rw [← hL, List.length_append, List.length_append]; have := HAL.out; have := HN4.out; have := HN5.out; omega)
          have HPUT : Hid (putB z = L ++ [10] ++ bytesOf z.footer ++ [10]) := Lib.hid (by rw [← hL, HAC3.out]; rfl)
          rw [hL] at HO8
          clear hL HO6 HB6 HO7 HB7
          have k3 := cells_at w.heap.size HB8.out HGX.out HZ3.out
          have K3 := Lib.hid k3
          have HG8 := Lib.hid (Nat.lt_of_lt_of_le HGX.out HB8.out.size)
          have kA : ∀ o, (V8.alloc o).cell? ⟨w.heap.size, 3, none⟩ = some (.string z.footer) := fun o => cells_at w.heap.size ((Below.refl V8.heap.size V8).alloc (Nat.le_refl _) o) HG8.out k3
          go_cut [8] (fun u wx => Own wx X.heap.size u ((L ++ [10]) ++ bytesOf z.footer) ∧ Below X.heap.size X wx)
          case first =>
            go_region_law (first
              | (refine step_append_bytes (.tmp 71) (.tmp 72) rfl rfl X.heap.size _ L [10] ⟨V8.heap.size, 0, none⟩ 1 1 rfl rfl rfl (by first | exact HO8.out.drew.alloc _ | exact HO8.out.alloc _) (one_cell (by first | exact new_cell _ _ rfl _ _ | simp)) (by have := HL8.out; omega) (by have := HB8.out.size; simp; omega) ?_; intro v9 w9 hO hG; have HO9 := Lib.hid hO; have HB9 : Hid (Below X.heap.size X w9) := Lib.hid (HB8.out.trans (grew_below HO8.out (show Grew V8 w9 _ _ from by first | exact hG.ahead.ofDrew | exact hG.ofDrew.ahead | exact hG.ahead) (Nat.le_refl _) HB8.out.size)); have k9 := cells_at w.heap.size HB9.out HGX.out HZ3.out; clear hO hG)
              | (refine step_append_text (.tmp 73) (.tmp 75) rfl rfl X.heap.size _ (L ++ [10]) z.footer rfl rfl HO9.out (by have := HL8.out; rw [List.length_append]; show _ + 1 + _ ≤ _; omega) HB9.out.size ?_; intro v10 w10 hO hG; have HO10 := Lib.hid hO; have HB10 := Lib.hid (HB9.out.trans (grew_below HO9.out hG (Nat.le_refl _) HB9.out.size)); clear hO hG))
            all_goals (go_wp2_with fail)
            all_goals go_meet
            all_goals exact ⟨HO10.out, HB10.out⟩
          case rest =>
            obtain ⟨hO, hG⟩ := hcut
            have HO := Lib.hid hO; have HG := Lib.hid hG
            clear hO hG kA k3
            go_wp2_with (first
              | (at_builtin; refine plain_append_bytes (.tmp 77) (.tmp 78) rfl rfl X.heap.size _ ((L ++ [10]) ++ bytesOf z.footer) [10] ⟨_, 0, none⟩ 1 1 rfl rfl rfl (HO.out.alloc _) (one_cell (new_cell _ _ rfl _ _)) (by have := HL8.out; rw [List.length_append, List.length_append, bytesOf_len]; show _ + 1 + _ + 1 ≤ _; omega) (by have := HG.out.size; simp; omega) ?_; intro v' w' hown hgr; have HO11 := Lib.hid hown; have HB11 := Lib.hid (HG.out.trans (grew_below HO.out hgr.ahead (Nat.le_refl _) HG.out.size)); clear hown hgr)
              | fail)
            go_ret2
            exact ⟨_, rfl, by rw [HPUT.out]; exact HO11.out.lower HWX.out.size, HWX.out.trans (HB11.out.mono HWX.out.size)⟩
end Go.Proofs.Ytljkcnoicdhchaa.Tz
