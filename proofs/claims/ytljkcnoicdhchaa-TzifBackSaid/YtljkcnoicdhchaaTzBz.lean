/-
  Layer 6 (tzif): Parse of rows of the call's own.
-/
import Derived.Test.YtljkcnoicdhchaaTzBy
namespace Go.Proofs.Ytljkcnoicdhchaa.Tz
open Go.RowKit

theorem Sl.rise {w : World} {B C sz : Nat} {v : Value} {xs : List (List Value)} (h : Sl w B sz v xs) (hB : B ≤ C) : Sl w C sz v xs :=
  ⟨h.form, fun j row hj => by
    obtain ⟨g, off, c, hv, hg, hc⟩ := h.at_ j row hj
    exact ⟨g, off, c, hv, Nat.lt_of_lt_of_le hg hB, hc⟩⟩
theorem ZnAt.rise {w : World} {B C : Nat} {z : Zn} {vt vs vi : Value} (h : ZnAt w B z vt vs vi) (hB : B ≤ C) : ZnAt w C z vt vs vi := ⟨h.types.rise hB, h.times.rise hB, h.index.rise hB⟩
theorem eqL_self {α : Type} {e : α → α → Bool} (he : ∀ x, e x x = true) (l : List α) : eqL e l l = true := eqL_yes rfl fun k a b ha hb => by
  rw [ha] at hb; injection hb with hb; subst hb; exact he a
theorem same_self (z : Zn) : sameZ z z = true := by
  unfold sameZ
  rw [eqL_self (e := eqT) (fun t => by unfold eqT; simp), eqL_self (e := eqI) (fun t => by unfold eqI; simp), eqL_self (e := eqI) (fun t => by unfold eqI; simp)]
  simp
theorem few_ok {z : Zn} (ha : ∀ t ∈ z.types, t.abbr.size ≤ 9223372036854775807) (hft : z.footer.size ≤ 9223372036854775807) {n : Int} (hn : n ≤ 1000000) (h : fewZ z n = true) : ZnOk z := by
  unfold fewZ at h
  simp only [Bool.and_eq_true, decide_eq_true_eq] at h
  exact ⟨by omega, by omega, by omega, ha, hft⟩
theorem own_sb {w : World} {base : Nat} {v : Value} {xs : List Int} (h : Own w base v xs) (hx : Byt xs) : ∃ A c, v = .slice A xs.length c ∧ SB w w.heap.size A xs.length c (nats xs) := by
  rcases h.2 with ⟨rfl, h0⟩ | ⟨g, cap, cur, rfl, hbg, hg, hnc, hcm, _, _⟩
  · exact ⟨none, 0, by rw [h0], by rw [nats_len], by omega, by omega, .inl ⟨rfl, rfl⟩⟩
  · refine ⟨some ⟨g, 0, none⟩, cap, rfl, by rw [nats_len], hnc, by unfold maxLen at hcm; omega, .inr ⟨g, 0, rfl, (Array.getElem?_eq_some_iff.1 hg).1, fun j b hj => ?_⟩⟩
    unfold nats at hj
    rw [List.getElem?_map] at hj
    cases hxj : xs[j]? with
    | none => rw [hxj] at hj; cases hj
    | some x =>
      rw [hxj] at hj
      have e : x.toNat = b := by simpa using hj
      have hr := hx x (List.mem_of_getElem? hxj)
      have hc := World.ownsRow.cells h (g := g) rfl j (by8 x) (by rw [List.getElem?_map, hxj]; rfl)
      rw [Own_add] at hc
      rw [Nat.zero_add, hc, ← e]
      unfold by8
      congr 2
      omega
theorem own_open {w : World} {base : Nat} {v : Value} {xs : List Int} (h : Own w base v xs) (hx : Byt xs) (h0 : 0 < xs.length) : ∃ g c, v = .slice (some ⟨g, 0, none⟩) xs.length c ∧ xs.length ≤ c ∧ c ≤ 9223372036854775807 ∧ SB w w.heap.size (some ⟨g, 0, none⟩) xs.length c (nats xs) := by
  obtain ⟨A, c, e, hs⟩ := own_sb h hx
  rcases h.2 with ⟨e1, e2⟩ | ⟨g, cap, cur, e1, _⟩
  · simp at e2; subst e2; simp at h0
  · rw [e1] at e
    injection e with ea _ ec
    subst ea
    subst ec
    exact ⟨g, _, e1, hs.2.1, hs.2.2.1, hs⟩
theorem SB.up {w : World} {B C : Nat} {A : Option Addr} {n c : Nat} {l : List Nat} (h : SB w B A n c l) (hB : B ≤ C) : SB w C A n c l := by
  obtain ⟨h1, h2, h3, h4⟩ := h
  refine ⟨h1, h2, h3, h4.imp id ?_⟩
  rintro ⟨g, off, e, hg, hc⟩
  exact ⟨g, off, e, Nat.lt_of_lt_of_le hg hB, hc⟩
theorem sb_cells {w : World} {B n c g : Nat} {xs : List Int} (h : SB w B (some ⟨g, 0, none⟩) n c (nats xs)) (hx : Byt xs) : ∀ j u, xs[j]? = some u → w.cell? ((⟨g, 0, none⟩ : Addr).add j) = some (by8 u) := by
  intro j u hu
  have hr := hx u (List.mem_of_getElem? hu)
  have := h.cells j u.toNat (by unfold nats; rw [List.getElem?_map, hu]; rfl)
  rw [Own_add]
  rw [Nat.zero_add] at this
  rw [this]
  unfold by8
  congr 2
  omega
theorem Own.empty (w : World) (base : Nat) (hb : base ≤ w.heap.size) : Own (w.alloc (.cells #[] 5)) base (.slice (some ⟨w.heap.size, 0, none⟩) 0 0) [] :=
  World.ownsRow_lit w #[] 0 hb (by unfold maxLen; omega) (by simp)
theorem Own.empty2 (w : World) (g base : Nat) (hg : w.heap.size = g) (hb : base ≤ g) : Own (w.alloc (.cells #[] 5)) base (.slice (some ⟨g, 0, none⟩) 0 0) [] := by
  subst hg; exact Own.empty w base hb
theorem putB_byt (z : Zn) : Byt (putB z) := by
  have h2 : Byt (headB hd1) := by unfold Byt; decide
  have h3 : Byt (zerosB 7) := by unfold Byt; decide
  have a : Byt magicB := by unfold Byt; decide
  have b : Byt (zerosB 15) := by unfold Byt; decide
  have c : Byt ((hd2 z).counts.flatMap fun n => digs n 4) := by
    intro x hx
    obtain ⟨n, _, hn⟩ := List.mem_flatMap.1 hx
    exact digs_byt n 4 x hn
  have h4 : Byt (headB (hd2 z)) := a.app (Byt.app (by intro x hx; simp [hd2] at hx; omega) (b.app c))
  have h5 : Byt (timesB z.times) := by
    intro x hx
    obtain ⟨n, _, hn⟩ := List.mem_flatMap.1 hx
    exact digs_byt _ 8 x hn
  have h6 : Byt (indexB z.index) := by
    intro x hx
    obtain ⟨n, _, rfl⟩ := List.mem_map.1 hx
    omega
  have h7 : Byt [10] := by unfold Byt; decide
  unfold putB topB
  exact ((((((((h2.app h3).app h4).app h5).app h6).app (typesB_byt _ _)).app (lettersB_byt _)).app h7).app (bytesOf_byt _)).app h7
theorem putB_len {z : Zn} (hr : rightZ z = true) : 104 ≤ (putB z).length ∧ (putB z).length ≤ 100000 := by
  obtain ⟨b1, b2, b3, b4, b5, b6, b7, _⟩ := right_all hr
  have hl : 2 ≤ letters z.types := by
    cases ht : z.types with
    | nil => rw [ht] at b2; simp at b2
    | cons t l =>
      rw [letters_cons]
      have hs : 1 ≤ t.abbr.size := by
        unfold rightZ rightTys at hr
        simp only [Bool.and_eq_true, List.all_eq_true] at hr
        have := hr.1.1.1.1.1.1.2 t (by rw [ht]; simp)
        unfold rightTy inI at this
        simp only [Bool.and_eq_true, decide_eq_true_eq] at this
        omega
      omega
  unfold putB topB
  simp only [List.length_append, headB_len, timesB_len, indexB_len, typesB_len, lettersB_len, bytesOf_len, List.length_cons, List.length_nil]
  unfold zerosB
  rw [List.length_replicate]
  omega
section
variable {z : Zn} {m : Int} {V : World}
/-- What is put is parsed as it was. -/
theorem Parse_put (hr : rightZ z = true) (ho : ZnOk z) (hz : ∀ t ∈ z.times, -9223372036854775808 ≤ t ∧ t ≤ 9223372036854775807) {A : Option Addr} {n c : Nat} (h : SB V V.heap.size A n c (nats (putB z))) (h1 : 0 < V.heap.size) (h0 : V.cell? ⟨0, 0, none⟩ = some (.int .i64 m)) :
    Calls Try.prog 19 #[.slice A n c] V fun e w' => ∃ vt vs vi, e = .returned (.tuple #[.agg #[vt, vs, vi, .string z.footer], .int .i64 0]) ∧ ZnOwn w' (V.heap.size + 1) z vt vs vi ∧ Below V.heap.size V w' := by
  refine Parse_yes _ _ A n c m V h (Nat.le_refl _) h1 h0 z ho hr fun U g hrd hU => ?_
  rw [put_file] at hrd
  exact parse_file hr hz rfl (by decide) (Byt.lt (((show Byt [10] by unfold Byt; decide).app (bytesOf_byt _)).app (by unfold Byt; decide))) h1 z.footer true (by rw [foot_yes]; show Value.tuple #[.string (strOfNums (natsI (nats (bytesOf z.footer)))), .bool true] = _; rw [text_back]) U g hrd hU
theorem Parse_none {l : List Nat} (hn : NoP V.heap.size m l) {A : Option Addr} {n c : Nat} (h : SB V V.heap.size A n c l) (h1 : 0 < V.heap.size) (h0 : V.cell? ⟨0, 0, none⟩ = some (.int .i64 m)) :
    Calls Try.prog 19 #[.slice A n c] V fun e w' => e = .returned (.tuple #[noZone, .int .i64 60]) ∧ Below V.heap.size V w' :=
  Parse_no l _ A n c m V h (Nat.le_refl _) h1 h0 hn
/-- With a byte more it is none. -/
theorem nop_more (hr : rightZ z = true) (hz : ∀ t ∈ z.times, -9223372036854775808 ≤ t ∧ t ≤ 9223372036854775807) {B : Nat} (hB : 0 < B) : NoP B m (nats (putB z ++ [0])) := by
  have e : nats (putB z ++ [0]) = fileL z (nats (zerosB 7)) (nats ([10] ++ bytesOf z.footer ++ [10]) ++ [0]) := by
    rw [nats_app, put_file]
    unfold fileL l3L bodyL
    simp only [List.append_assoc]
    rfl
  rw [e]
  refine nop_foot hr hz rfl (by decide) ?_ hB (foot_more _)
  intro b hb
  rcases List.mem_append.1 hb with hb | hb
  · exact Byt.lt (((show Byt [10] by unfold Byt; decide).app (bytesOf_byt _)).app (by unfold Byt; decide)) b hb
  · simp at hb; omega
end
end Go.Proofs.Ytljkcnoicdhchaa.Tz
