/-
  So many of a unit, by any of its names: what such a text tells. Nothing of the program stands here.
-/
import Derived.Test.YtcllimfaoajapaaDoorTimespanSumsWalk
import Derived.Test.YtcllimfaoajapaaDoorTsRefAny
namespace Go.Proofs.YtcllimfaoajapaaDoor.Ts

/-- The names, and how long they are. -/
def nmK : List (List UInt8) := [[117, 115], [117, 115, 101, 99], [109, 115], [109, 115, 101, 99], [115], [115, 101, 99], [115, 101, 99, 111, 110, 100], [115, 101, 99, 111, 110, 100, 115], [109], [109, 105, 110], [109, 105, 110, 117, 116, 101], [109, 105, 110, 117, 116, 101, 115], [104], [104, 114], [104, 111, 117, 114], [104, 111, 117, 114, 115], [100], [100, 97, 121], [100, 97, 121, 115], [119], [119, 101, 101, 107], [119, 101, 101, 107, 115], [77], [109, 111, 110, 116, 104], [109, 111, 110, 116, 104, 115], [121], [121, 101, 97, 114], [121, 101, 97, 114, 115], []]
def byK : List Nat := [1, 1, 1000, 1000, 1000000, 1000000, 1000000, 1000000, 60000000, 60000000, 60000000, 60000000, 3600000000, 3600000000, 3600000000, 3600000000, 86400000000, 86400000000, 86400000000, 604800000000, 604800000000, 604800000000, 2629800000000, 2629800000000, 2629800000000, 31557600000000, 31557600000000, 31557600000000, 1000000]
/-- What is asked of a name. -/
structure Name (l : List UInt8) (u : Nat) : Prop where
  t : l.takeWhile dg = []
  f : fracOf l = some (0, l)
  b : l.dropWhile bl = l
  tl : l.takeWhile lt = l
  dl : l.dropWhile lt = []
  u : unitOf l = u
  e : l = [] ∨ ∃ Y c, l = Y ++ [c] ∧ bl c = false
theorem last_of {l : List UInt8} (h : l.getLast?.any (fun c => bl c) = false) : l = [] ∨ ∃ Y c, l = Y ++ [c] ∧ bl c = false := by
  rcases List.eq_nil_or_concat l with rfl | ⟨Y, c, rfl⟩
  · exact .inl rfl
  · right
    rw [List.concat_eq_append] at h ⊢
    simp at h
    exact ⟨Y, c, rfl, h⟩
theorem names_ok : ∀ k : Nat, k < 29 → Name (nmK.getD k []) (byK.getD k 0) := by
  have h : ∀ k : Nat, k < 29 → ((nmK.getD k []).takeWhile dg = [] ∧ fracOf (nmK.getD k []) = some (0, nmK.getD k []) ∧ (nmK.getD k []).dropWhile bl = nmK.getD k [] ∧ (nmK.getD k []).takeWhile lt = nmK.getD k [] ∧ (nmK.getD k []).dropWhile lt = [] ∧ unitOf (nmK.getD k []) = byK.getD k 0 ∧ (nmK.getD k []).getLast?.any (fun c => bl c) = false) := by decide
  intro k hk
  obtain ⟨a, b, c, d, e, f, g⟩ := h k hk
  exact ⟨a, b, c, d, e, f, last_of g⟩
theorem by_bd : ∀ k : Nat, k < 29 → 1 ≤ byK.getD k 0 ∧ byK.getD k 0 ≤ 31557600000000 ∧ (nmK.getD k []).length ≤ 7 := by decide

theorem digits_last (q : Nat) : ∃ Y c, Lib.decDigits q = Y ++ [c] ∧ dg c = true := by
  by_cases h : q < 10
  · exact ⟨[], _, dd_small h, byte_dg h⟩
  · exact ⟨_, _, dd_great h, byte_dg (Nat.mod_lt _ (by omega))⟩
theorem Name.sum {l : List UInt8} {u : Nat} (h : Name l u) (hu : u ≠ 0) (q : Nat) (M R : List UInt8) (f : Nat) (hM : M.takeWhile dg = []) (hF : fracOf M = some (f, R)) (hR : R.dropWhile bl = l) : sumOf (Lib.decDigits q ++ M) = some (q * u + share f u) := by
  obtain ⟨h1, h2, h3⟩ := digits_all q q (Nat.le_refl _)
  obtain ⟨t1, t2⟩ := tw_digits h1 hM
  have hp : partOf (Lib.decDigits q ++ M) = some (q * u + share f u, []) := by
    unfold partOf
    rw [t1, t2, if_neg h3, hF]
    show (if unitOf ((R.dropWhile bl).takeWhile lt) = 0 then none else some (_, (R.dropWhile bl).dropWhile lt)) = _
    rw [hR, h.tl, h.dl, h.u, if_neg hu, h2]
  rw [sumOf_some (by simp [h3]) hp]
  simp [sumOf_nil]
theorem digit_cons (q : Nat) (M : List UInt8) : ∃ d Y, Lib.decDigits q ++ M = d :: Y ∧ dg d = true := by
  obtain ⟨h1, _, h3⟩ := digits_all q q (Nat.le_refl _)
  cases hl : Lib.decDigits q with
  | nil => exact absurd hl h3
  | cons d Y => exact ⟨d, Y ++ M, rfl, h1 d (by rw [hl]; simp)⟩
/-- So many, with nothing between. -/
theorem units_bare {l : List UInt8} {u : Nat} (h : Name l u) (hu : u ≠ 0) (q : Nat) : Tells (Lib.decDigits q ++ l) (q * u) where
  head := digit_cons q l
  last := by
    rcases h.e with rfl | ⟨Y, c, rfl, hc⟩
    · obtain ⟨Y, c, e, hc⟩ := digits_last q
      exact ⟨Y, c, by rw [e]; simp, (dg_lt hc).2⟩
    · exact ⟨Lib.decDigits q ++ Y, c, by simp, hc⟩
  sum := by have := h.sum hu q l l 0 h.t h.f h.b; simpa [share] using this
theorem units_blank {l : List UInt8} {u : Nat} (h : Name l u) (hu : u ≠ 0) (q : Nat) (hq : q * u < 9223372036854775807) : parsed (Lib.decDigits q ++ [32, 9] ++ l) = (((q * u : Nat) : Int), 0) := by
  rcases h.e with rfl | ⟨Y, c, e, hc⟩
  · have := (units_bare h hu q).parsed hq (Z1 := []) (Z2 := [32, 9]) (by simp) (by decide)
    simpa using this
  · have T : Tells (Lib.decDigits q ++ 32 :: 9 :: l) (q * u) := by
      refine ⟨digit_cons q _, ⟨Lib.decDigits q ++ 32 :: 9 :: Y, c, by rw [e]; simp, hc⟩, ?_⟩
      have := h.sum hu q (32 :: 9 :: l) (32 :: 9 :: l) 0 (by rw [List.takeWhile_cons]; rfl) (fracOf_else (by decide) _) (by
        have : (32 :: 9 :: l : List UInt8).dropWhile bl = l.dropWhile bl := dw_all (Z := [32, 9]) (by decide)
        rw [this, h.b])
      simpa [share] using this
    have := T.parsed hq (Z1 := []) (Z2 := []) (by simp) (by simp)
    simpa using this
theorem units_frac {l : List UInt8} {u : Nat} (h : Name l u) (hu : u ≠ 0) (q f : Nat) (D : List UInt8) (hD : ∀ c ∈ D, dg c = true) (h6 : D.length = 6) (hf : dec D = f) (hq : q * u + share f u < 9223372036854775807) : parsed (Lib.decDigits q ++ [46] ++ D ++ l) = (((q * u + share f u : Nat) : Int), 0) := by
  obtain ⟨t1, t2⟩ := tw_digits hD h.t
  have hDn : D ≠ [] := by intro e; rw [e] at h6; cases h6
  have T : Tells (Lib.decDigits q ++ 46 :: (D ++ l)) (q * u + share f u) := by
    refine ⟨digit_cons q _, ?_, ?_⟩
    · rcases h.e with rfl | ⟨Y, c, e, hc⟩
      · refine ⟨Lib.decDigits q ++ 46 :: D.dropLast, D.getLast hDn, ?_, (dg_lt (hD _ (List.getLast_mem hDn))).2⟩
        rw [List.append_nil, List.append_assoc, List.cons_append, List.dropLast_concat_getLast]
      · exact ⟨Lib.decDigits q ++ 46 :: (D ++ Y), c, by rw [e]; simp, hc⟩
    · refine h.sum hu q (46 :: (D ++ l)) l f (by rw [List.takeWhile_cons]; rfl) ?_ h.b
      rw [fracOf_dot, t1, t2, if_neg (by rw [h6]; rintro (g | g); exact hDn g; omega), h6, hf.symm]
      simp
  have := T.parsed hq (Z1 := []) (Z2 := []) (by simp) (by simp)
  simpa using this
theorem dec_cons (c : UInt8) (l : List UInt8) : dec (c :: l) = (c.toNat - 48) * 10 ^ l.length + dec l := by
  have : ∀ (l : List UInt8) (n : Nat), l.foldl (fun n c => n * 10 + (c.toNat - 48)) n = n * 10 ^ l.length + dec l := by
    intro l
    induction l with
    | nil => intro n; simp [dec]
    | cons a l ih =>
      intro n
      have e : dec (a :: l) = l.foldl (fun n c => n * 10 + (c.toNat - 48)) (0 * 10 + (a.toNat - 48)) := rfl
      rw [List.foldl_cons, ih, e, ih, List.length_cons, Nat.pow_succ, Nat.add_mul, Nat.zero_mul, Nat.zero_add, Nat.mul_assoc, Nat.mul_comm 10]
      omega
  have e : dec (c :: l) = l.foldl (fun n c => n * 10 + (c.toNat - 48)) (0 * 10 + (c.toNat - 48)) := rfl
  rw [e, this]; simp
/-- The last digits of a number. -/
def Low (f i x : Nat) (D : List UInt8) : Prop := D.length = i ∧ (∀ c ∈ D, dg c = true) ∧ x * 10 ^ i + dec D = f
theorem Low.step {f i x : Nat} {D : List UInt8} (h : Low f i x D) : Low f (i + 1) (x / 10) (UInt8.ofNat (48 + x % 10) :: D) := by
  obtain ⟨h1, h2, h3⟩ := h
  have hm : x % 10 < 10 := Nat.mod_lt _ (by omega)
  refine ⟨by simp [h1], fun c hc => ?_, ?_⟩
  · rcases List.mem_cons.mp hc with rfl | hc
    · exact byte_dg hm
    · exact h2 c hc
  · rw [dec_cons, byte_nat hm, h1, Nat.add_sub_cancel_left, Nat.pow_succ, ← h3]
    have hx : x / 10 * 10 + x % 10 = x := by omega
    have e : x / 10 * (10 ^ i * 10) = (x / 10 * 10) * 10 ^ i := by rw [Nat.mul_comm (10 ^ i) 10, Nat.mul_assoc]
    have e2 : (x / 10 * 10 + x % 10) * 10 ^ i = x / 10 * 10 * 10 ^ i + x % 10 * 10 ^ i := Nat.add_mul _ _ _
    rw [hx] at e2
    rw [e]; omega
end Go.Proofs.YtcllimfaoajapaaDoor.Ts
